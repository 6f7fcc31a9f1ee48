/- ModeSups: for every three numbers the law returns true, and its arguments read as they did, where the tables of modes are laid as the program's text lays them. No other condition. -/
import Derived.Test.YtfplmflbkhanoaaDoorMLaid
import Derived.Test.YtfplmflbkhanoaaDoorTie
import Derived.Test.YtfplmflbkhanoaaDoorCards
import Derived.Deep.DeepCutAuto
namespace Go.Proofs.YtfplmflbkhanoaaDoor
open Go.ChangeShapes Go.WideShapes Go.ChangeAt Go.RowKit

theorem supE_sym (a b : Int) : supE b a = supE a b := by
  rcases Bool.eq_false_or_eq_true (isM a) with ha | ha
  · rcases Bool.eq_false_or_eq_true (isM b) with hb | hb
    · obtain ⟨x, hx, rfl⟩ := isM_nat ha
      obtain ⟨y, hy, rfl⟩ := isM_nat hb
      exact (by decide +kernel : ∀ x : Nat, x < 7 → ∀ y : Nat, y < 7 → supE y x = supE x y) x hx y hy
    · unfold supE; simp [hb]
  · unfold supE; simp [ha]
theorem supM_sym (a b : Int) : supM b a = supM a b := by
  rcases Bool.eq_false_or_eq_true (isM a) with ha | ha
  · rcases Bool.eq_false_or_eq_true (isM b) with hb | hb
    · obtain ⟨x, hx, rfl⟩ := isM_nat ha
      obtain ⟨y, hy, rfl⟩ := isM_nat hb
      exact (by decide +kernel : ∀ x : Nat, x < 7 → ∀ y : Nat, y < 7 → supM y x = supM x y) x hx y hy
    · unfold supM; simp [hb]
  · unfold supM; simp [ha]
theorem supE_vals (a b : Int) : supE a b = 0 ∨ (supE a b = 2 ∧ supM a b = 0) ∨ (supE a b = 170 ∧ supM a b = 0) := by
  unfold supE supM
  rcases Bool.eq_false_or_eq_true (isM a) with ha | ha <;> rcases Bool.eq_false_or_eq_true (isM b) with hb | hb <;> rcases Bool.eq_false_or_eq_true (tabs a.toNat b.toNat || keyz a.toNat b.toNat) with h | h <;> simp [ha, hb, h]
theorem supE_is {a b : Int} (h : supE a b = 0) : isM a = true ∧ isM b = true := by
  unfold supE at h
  rcases Bool.eq_false_or_eq_true (isM a) with ha | ha <;> rcases Bool.eq_false_or_eq_true (isM b) with hb | hb <;> simp [ha, hb] at h ⊢
/-- what a sup is, of modes -/
theorem sup_facts {a b c : Int} (h : supE a b = 0) : covB (supM a b) a = true ∧ covB (supM a b) b = true ∧ (covB c a = true → covB c b = true → covB c (supM a b) = true) ∧
    (isM c = true → goesB (supM a b) c = (goesB a c && goesB b c)) ∧
    (((ofT a && ofT b && ofT c) || (ofK a && ofK b && ofK c)) = true → supE (supM a b) c = 0 ∧ supE b c = 0 ∧ supE a (supM b c) = 0 ∧ supM (supM a b) c = supM a (supM b c)) := by
  obtain ⟨ha, hb⟩ := supE_is h
  obtain ⟨x, hx, rfl⟩ := isM_nat ha
  obtain ⟨y, hy, rfl⟩ := isM_nat hb
  have q1 := (by decide +kernel : ∀ x : Nat, x < 7 → ∀ y : Nat, y < 7 → supE x y = 0 → covB (supM x y) x = true ∧ covB (supM x y) y = true) x hx y hy h
  have q2 : ∀ z : Nat, z < 7 → covB z x = true → covB z y = true → covB z (supM x y) = true := by
    intro z hz h1 h2
    have q := (by decide +kernel : ∀ x : Nat, x < 7 → ∀ y : Nat, y < 7 → ∀ z : Nat, z < 7 → (supE x y == 0 && covB z x && covB z y && !covB z (supM x y)) = false) x hx y hy z hz
    rw [h, h1, h2] at q
    simpa using q
  have q3 := (by decide +kernel : ∀ x : Nat, x < 7 → ∀ y : Nat, y < 7 → ∀ z : Nat, z < 7 → supE x y = 0 → goesB (supM x y) z = (goesB x z && goesB y z)) x hx y hy
  have q4 : ∀ z : Nat, z < 7 → ((ofT x && ofT y && ofT z) || (ofK x && ofK y && ofK z)) = true → supE (supM x y) z = 0 ∧ supE y z = 0 ∧ supE x (supM y z) = 0 ∧ supM (supM x y) z = supM x (supM y z) := by
    intro z hz h1
    have q := (by decide +kernel : ∀ x : Nat, x < 7 → ∀ y : Nat, y < 7 → ∀ z : Nat, z < 7 → (supE x y == 0 && ((ofT x && ofT y && ofT z) || (ofK x && ofK y && ofK z)) && !(supE (supM x y) z == 0 && supE y z == 0 && supE x (supM y z) == 0 && supM (supM x y) z == supM x (supM y z))) = false) x hx y hy z hz
    rw [h, h1] at q
    simpa [and_assoc] using q
  rcases Bool.eq_false_or_eq_true (isM c) with hc | hc
  · obtain ⟨z, hz, rfl⟩ := isM_nat hc
    exact ⟨q1.1, q1.2, q2 z hz, fun _ => q3 z hz h, q4 z hz⟩
  · refine ⟨q1.1, q1.2, fun h1 => ?_, fun h1 => ?_, fun h1 => ?_⟩
    · rw [covB_no _ _ (.inl hc)] at h1; cases h1
    · rw [hc] at h1; cases h1
    · have e1 : ofT c = false := by unfold ofT; rw [hc]; rfl
      have e2 : ofK c = false := by unfold ofK; rw [hc]; rfl
      rw [e1, e2] at h1
      simp at h1

set_option maxRecDepth 100000 in
set_option maxHeartbeats 2000000 in
theorem sups_err (a b c x : Int) (W : World) (hL : Lay W) (hE : supE a b = x) (hM : supM a b = 0) (hx : x = 2 ∨ x = 170) :
    Calls Tryd.prog 5 #[.int .i64 a, .int .i64 b, .int .i64 c] W (fun e w' => e = .returned (.bool true) ∧ St W w') := by
  have hL1 := Lib.hid hL
  have hs0 := St.refl W
  have hm := Lib.hid hM
  have hf := Lib.hid hE
  have hm2 := Lib.hid ((supM_sym a b).trans hM)
  have hf2 := Lib.hid ((supE_sym a b).trans hE)
  clear hL hE hM
  rcases hx with rfl | rfl
  all_goals
    go_enter Tryd.func5, Tryd.ntmps5
    go_wp2_with (first | (go_at_call 8; (with_reducible refine (wakes_st hL1.out (by assumption)).mono ?_); rintro e u ⟨rfl, hs⟩) | (go_at_call 18; (with_reducible refine (sup_st hL1.out a b _ _ hm.out hf.out (by assumption)).mono ?_); rintro e u ⟨rfl, hs⟩) | (go_at_call 18; (with_reducible refine (sup_st hL1.out b a _ _ hm2.out hf2.out (by assumption)).mono ?_); rintro e u ⟨rfl, hs⟩))
    go_ret
    exact ⟨rfl, by assumption⟩

set_option maxRecDepth 100000 in
set_option maxHeartbeats 4000000 in
theorem sups_ok (a b c : Int) (W : World) (hL : Lay W) (hE : supE a b = 0) :
    Calls Tryd.prog 5 #[.int .i64 a, .int .i64 b, .int .i64 c] W (fun e w' => e = .returned (.bool true) ∧ St W w') := by
  have hL1 := Lib.hid hL
  have hs0 := St.refl W
  have hf := Lib.hid hE
  have hf2 := Lib.hid ((supE_sym a b).trans hE)
  have hm2 := supM_sym a b
  obtain ⟨g1, g2, g3, g4, g5⟩ := sup_facts (c := c) hE
  obtain ⟨M, hM⟩ : ∃ M, supM a b = M := ⟨_, rfl⟩
  rw [hM] at g1 g2 g3 g4 g5 hm2
  have hm2 := Lib.hid hm2
  have hm := Lib.hid hM
  have k3 := Lib.hid g3
  have k4 := Lib.hid g4
  have k5 := Lib.hid g5
  clear hL hE hM g3 g4 g5
  go_enter Tryd.func5, Tryd.ntmps5
  go_upto_region 9 with (first | (go_at_call 8; (with_reducible refine (wakes_st hL1.out (by assumption)).mono ?_); rintro e u ⟨rfl, hs⟩) | (go_at_call 18; (with_reducible refine (sup_st hL1.out a b _ _ hm.out hf.out (by assumption)).mono ?_); rintro e u ⟨rfl, hs⟩) | (go_at_call 18; (with_reducible refine (sup_st hL1.out b a _ _ hm2.out hf2.out (by assumption)).mono ?_); rintro e u ⟨rfl, hs⟩))
  go_cut [67] from 42 to 67 (fun v67 wx => v67 = .bool false ∧ St W wx)
  case first =>
    rcases Bool.eq_false_or_eq_true (covB c a) with h1 | h1 <;> rcases Bool.eq_false_or_eq_true (covB c b) with h2 | h2
    all_goals
      first
      | have h3 := k3.out h1 h2
      | have h3 : True := trivial
    all_goals
      go_wp2_with (first | (go_at_call 21; (with_reducible refine (cov_st hL1.out _ _ true (by assumption) (by assumption)).mono ?_); rintro e u ⟨rfl, hs⟩) | (go_at_call 21; (with_reducible refine (cov_st hL1.out _ _ false (by assumption) (by assumption)).mono ?_); rintro e u ⟨rfl, hs⟩))
      go_meet
      case rel => exact ⟨rfl, by assumption⟩
  case rest =>
    obtain ⟨rfl, hs1⟩ := hcut
    go_upto_region 11 with fail
    go_cut [84] from 68 to 84 (fun v84 wx => v84 = .bool false ∧ St W wx)
    case first =>
      rcases Bool.eq_false_or_eq_true (isM c) with h1 | h1
      · have h2 := k4.out h1
        rcases Bool.eq_false_or_eq_true (goesB a c) with h3 | h3 <;> rcases Bool.eq_false_or_eq_true (goesB b c) with h4 | h4
        all_goals
          rw [h3, h4] at h2
          first
          | have h5 : goesB M c = true := h2
          | have h5 : goesB M c = false := h2
          clear h2
          go_wp2_with (first | (go_at_call 9; (with_reducible refine (check_ok _ _ (by assumption)).mono ?_); rintro e u ⟨rfl, rfl⟩) | (go_at_call 9; (with_reducible refine (check_no _ _ (by assumption)).mono ?_); rintro e u ⟨rfl, rfl⟩) | (go_at_call 19; (with_reducible refine (goes_st hL1.out _ _ true (by assumption) (by assumption)).mono ?_); rintro e u ⟨rfl, hs⟩) | (go_at_call 19; (with_reducible refine (goes_st hL1.out _ _ false (by assumption) (by assumption)).mono ?_); rintro e u ⟨rfl, hs⟩))
          go_meet
          case rel => exact ⟨rfl, by assumption⟩
      · go_wp2_with (first | (go_at_call 9; (with_reducible refine (check_ok _ _ (by assumption)).mono ?_); rintro e u ⟨rfl, rfl⟩) | (go_at_call 9; (with_reducible refine (check_no _ _ (by assumption)).mono ?_); rintro e u ⟨rfl, rfl⟩))
        go_meet
        case rel => exact ⟨rfl, by assumption⟩
    case rest =>
      obtain ⟨rfl, hs2⟩ := hcut
      go_upto_region 13 with fail
      go_cut [11] from 85 to 94 (fun v11 wx => v11 = .bool (ofT a && ofT b && ofT c) ∧ St W wx)
      case first =>
        rcases Bool.eq_false_or_eq_true (ofT a) with h1 | h1 <;> rcases Bool.eq_false_or_eq_true (ofT b) with h2 | h2 <;> rcases Bool.eq_false_or_eq_true (ofT c) with h3 | h3
        all_goals
          go_wp2_with (first | (go_at_call 11; (with_reducible refine (ofT_st _ true (by assumption) (by assumption)).mono ?_); rintro e u ⟨rfl, hs⟩) | (go_at_call 11; (with_reducible refine (ofT_st _ false (by assumption) (by assumption)).mono ?_); rintro e u ⟨rfl, hs⟩))
          go_meet
          case rel => exact ⟨by rw [h1, h2, h3]; rfl, by assumption⟩
      case rest =>
        obtain ⟨rfl, hs3⟩ := hcut
        obtain ⟨T, hT⟩ : ∃ T, (ofT a && ofT b && ofT c) = T := ⟨_, rfl⟩
        rw [hT] at k5 ⊢
        clear hT
        go_upto_region 14 with fail
        go_cut [12] from 95 to 104 (fun v12 wx => v12 = .bool (ofK a && ofK b && ofK c) ∧ St W wx)
        case first =>
          rcases Bool.eq_false_or_eq_true (ofK a) with h1 | h1 <;> rcases Bool.eq_false_or_eq_true (ofK b) with h2 | h2 <;> rcases Bool.eq_false_or_eq_true (ofK c) with h3 | h3
          all_goals
            go_wp2_with (first | (go_at_call 13; (with_reducible refine (ofK_st _ true (by assumption) (by assumption)).mono ?_); rintro e u ⟨rfl, hs⟩) | (go_at_call 13; (with_reducible refine (ofK_st _ false (by assumption) (by assumption)).mono ?_); rintro e u ⟨rfl, hs⟩))
            go_meet
            case rel => exact ⟨by rw [h1, h2, h3]; rfl, by assumption⟩
        case rest =>
          obtain ⟨rfl, hs4⟩ := hcut
          obtain ⟨K, hK⟩ : ∃ K, (ofK a && ofK b && ofK c) = K := ⟨_, rfl⟩
          rw [hK] at k5 ⊢
          clear hK
          cases T <;> cases K
          rotate_left
          all_goals
            first
            | (obtain ⟨r1, r2, r3, r4⟩ := k5.out rfl
               obtain ⟨y, hy⟩ : ∃ y, supM b c = y := ⟨_, rfl⟩
               obtain ⟨z, hz⟩ : ∃ z, supM a y = z := ⟨_, rfl⟩
               rw [hy] at r3 r4
               rw [hz] at r4
               have q1 := Lib.hid r1
               have q2 := Lib.hid r2
               have q3 := Lib.hid r3
               have q4 := Lib.hid r4
               have q5 := Lib.hid hy
               have q6 := Lib.hid hz
               clear r1 r2 r3 r4 hy hz
               go_wp2_with (first | (go_at_call 18; (with_reducible refine (sup_st hL1.out M c _ _ q4.out q1.out (by assumption)).mono ?_); rintro e u ⟨rfl, hs⟩) | (go_at_call 18; (with_reducible refine (sup_st hL1.out b c _ _ q5.out q2.out (by assumption)).mono ?_); rintro e u ⟨rfl, hs⟩) | (go_at_call 18; (with_reducible refine (sup_st hL1.out a y _ _ q6.out q3.out (by assumption)).mono ?_); rintro e u ⟨rfl, hs⟩))
               go_ret
               exact ⟨rfl, by assumption⟩)
            | (go_wp2
               go_ret
               exact ⟨rfl, by assumption⟩)

theorem sups_any (a b c : Int) (W : World) (hL : Lay W) :
    Calls Tryd.prog 5 #[.int .i64 a, .int .i64 b, .int .i64 c] W (fun e w' => e = .returned (.bool true) ∧ Below W.heap.size W w') := by
  rcases supE_vals a b with h | ⟨h, hm⟩ | ⟨h, hm⟩
  · exact sups_ok a b c W hL h
  · exact sups_err a b c 2 W hL h hm (.inl rfl)
  · exact sups_err a b c 170 W hL h hm (.inr rfl)

theorem sups_lifted (os : Os) (started : os.Started) (H : Type) (enc : TypeId × Value → H) :
    ReturnsInHanded {} Tryd.checked os 5 .any (fun w args => (Rows.modeSupsSpec.pre enc Tryd.prog Tryd.f5 [] false w args ∧ laidMetH Tryd.prog [("bursary/mode.goes", Rows.laid_bursary_mode_goes), ("bursary/mode.covers", Rows.laid_bursary_mode_covers)] w) ∧ sizedMet enc Tryd.prog Tryd.f5 (OpenSpec.ofChange Rows.modeSupsSpec) false w args)
      (Rows.modeSupsSpec.post enc Tryd.prog Tryd.f5 false true false false) := by
  refine returnsInHanded_of_change_and (C := Tryd.checked) (X := fun w _ => laidMetH Tryd.prog [("bursary/mode.goes", Rows.laid_bursary_mode_goes), ("bursary/mode.covers", Rows.laid_bursary_mode_covers)] w) (fun _ _ _ hh h => h.of_heap hh) own started (by kernel_rfl) Tryd.func5
    (ChangeSpec.witness_shaped (enc := enc) (C := Tryd.checked) (os := os) (X := fun w _ => laidMetH Tryd.prog [("bursary/mode.goes", Rows.laid_bursary_mode_goes), ("bursary/mode.covers", Rows.laid_bursary_mode_covers)] w) false (World.doorLaid Tryd.prog 400 os) #[.int .i64 0, .int .i64 0, .int .i64 0] 8 rfl (World.shaped_of_RefB (by kernel_rfl) (by kernel_rfl)) (by kernel_rfl) (by kernel_rfl) (by kernel_rfl) (door_met os _)) ?_
  intro W base args ds gs before hval0 hW _ _ hL _
  have hval : ∀ (j : Nat) t v, Tryd.f5.params[j]? = some t → args[j]? = some v → Value.okWide Tryd.prog W .any base t v := hval0
  have hW' := hW
  obtain ⟨p, q, hA0, hV, rfl, _, _⟩ := hW
  have hA : DataW.TrodAll enc Tryd.prog W 0 (fun _ => true) true Tryd.f5.params.toList args.toList ds p := hA0
  rw [Tryd.params5] at hA hval
  obtain ⟨v0, v1, v2, d0, d1, d2, q0, q1, q2, rfl, rfl, rfl, h0, h1, h2⟩ := trodAll_three hA
  obtain ⟨rfl, rfl⟩ := trodVars_none hV
  have hT := of_laid hL
  obtain ⟨k0, rfl⟩ := okWide_int Tryd.underlying3 (hval 0 3 v0 rfl rfl)
  obtain ⟨k1, rfl⟩ := okWide_int Tryd.underlying3 (hval 1 3 v1 rfl rfl)
  obtain ⟨k2, rfl⟩ := okWide_int Tryd.underlying3 (hval 2 3 v2 rfl rfl)
  refine (sups_any k0 k1 k2 W hT).mono fun e W' ⟨he, hb⟩ => ?_
  subst he
  exact ⟨_, rfl, law_post laidOut (of_decide_eq_true (by kernel_rfl)) rfl (by kernel_rfl) Tryd.underlying4 hW' ⟨rfl, rfl, rfl⟩ hb⟩

theorem sups_said : Rows.ModeSupsSaid :=
  OpenClaim.holds_of_wide 5 Tryd.f5 rfl rfl rfl rfl rfl rfl rfl ⟨rfl, rfl, rfl, rfl, rfl⟩ rfl rfl rfl rfl rfl (by kernel_rfl) Tryd.func5 (by kernel_rfl)
    (of_decide_eq_true (by kernel_rfl)) (by unfold Func.isWrapper; first | (rw [if_pos (by decide +kernel)]; kernel_rfl) | (rw [if_neg (by decide +kernel)]; exact ⟨rfl, rfl⟩))
    (fun os started H enc _ => sups_lifted os started H enc)

theorem sups_holds : Rows.ModeSupsCardSaid :=
  Claim7.holds_tied_plain_at .later [] [.wider, .wider] true Rows.modeSupsCard.stood.harness false
    sups_said (fun _ h => by cases h) (by kernel_rfl) (fun _ h => by cases h) modeSups_row_tie rfl ⟨rfl, rfl⟩ (by kernel_rfl) rfl
    (fun f fn hf hfn => by
      obtain rfl : f = 5 := Option.some.inj ((show Tryd.prog.funcNamed "bursary/bursarylaw07.ModeSups" = some 5 by kernel_rfl).symm.trans hf) |>.symm
      obtain rfl : fn = Tryd.f5 := (Option.some.inj (Tryd.func5.symm.trans hfn)).symm
      exact ⟨by kernel_rfl, fun j t ht => by
        rw [Tryd.params5] at ht
        have hm : t ∈ [3] := by simpa using Array.mem_of_getElem? ht
        have hall : ([3].all fun u => !Tryd.prog.wantsStandIn u) = true := by kernel_rfl
        exact (show Tryd.prog.wantsStandIn t = false by simpa using List.all_eq_true.1 hall t hm)⟩)
    (by kernel_rfl)

end Go.Proofs.YtfplmflbkhanoaaDoor
