/- ModePairs: for every two numbers the law returns true, and its arguments read as they did, where the tables of modes are laid as the program's text lays them. No other condition. -/
import Derived.Test.YtfplmflbkhanoaaDoorMLaid
import Derived.Test.YtfplmflbkhanoaaDoorTie
import Derived.Test.YtfplmflbkhanoaaDoorCards
namespace Go.Proofs.YtfplmflbkhanoaaDoor
open Go.ChangeShapes Go.WideShapes Go.ChangeAt Go.RowKit

theorem rtab_st (m : Int) (v : Bool) (hv : ofT m = v) (w : World) : Calls Tryd.prog 12 #[.int .i64 m] w (fun e w' => e = .returned (.bool v) ∧ w = w') := by
  subst hv; exact rtab_any m w
theorem rkey_st (m : Int) (v : Bool) (hv : ofK m = v) (w : World) : Calls Tryd.prog 14 #[.int .i64 m] w (fun e w' => e = .returned (.bool v) ∧ w = w') := by
  subst hv; exact rkey_any m w
theorem sup_out {a b : Int} (h : isM a = false ∨ isM b = false) : supM a b = 0 ∧ supE a b = 170 := by
  unfold supM supE; rcases h with h | h <;> simp [h]
theorem sup_in {a b : Int} (ha : isM a = true) (hb : isM b = true) : supE a b = (if (ofT a && ofT b) || (ofK a && ofK b) then 0 else 2) ∧ (supE a b ≠ 0 → supM a b = 0) ∧
    (supE a b = 0 → ∃ j : Nat, j < 7 ∧ supM a b = j ∧ lstK a b j 7 = true ∧ ∀ i : Nat, i < j → lstK a b i 7 = false) := by
  obtain ⟨x, hx, rfl⟩ := isM_nat ha
  obtain ⟨y, hy, rfl⟩ := isM_nat hb
  have q1 := (by decide +kernel : ∀ x : Nat, x < 7 → ∀ y : Nat, y < 7 → supE x y = (if (ofT x && ofT y) || (ofK x && ofK y) then 0 else 2)) x hx y hy
  have q2 := (by decide +kernel : ∀ x : Nat, x < 7 → ∀ y : Nat, y < 7 → supE x y ≠ 0 → supM x y = 0) x hx y hy
  have q3 := (by decide +kernel : ∀ x : Nat, x < 7 → ∀ y : Nat, y < 7 → supE x y = 0 → (supM x y).toNat < 7 ∧ supM x y = ((supM x y).toNat : Nat)) x hx y hy
  have q4 := (by decide +kernel : ∀ x : Nat, x < 7 → ∀ y : Nat, y < 7 → supE x y = 0 → lstK x y (supM x y) 7 = true) x hx y hy
  have q5 := (by decide +kernel : ∀ x : Nat, x < 7 → ∀ y : Nat, y < 7 → supE x y = 0 → ∀ i : Nat, i < 7 → i < (supM x y).toNat → lstK x y i 7 = false) x hx y hy
  refine ⟨q1, q2, fun h => ?_⟩
  obtain ⟨a1, a2⟩ := q3 h
  exact ⟨(supM x y).toNat, a1, a2, by rw [← a2]; exact q4 h, fun i hi => q5 h i (by omega) hi⟩

set_option maxRecDepth 100000 in
set_option maxHeartbeats 4000000 in
theorem pairs_out (a b : Int) (W : World) (hL : Lay W) (ho : isM a = false ∨ isM b = false) :
    Calls Tryd.prog 4 #[.int .i64 a, .int .i64 b] W (fun e w' => e = .returned (.bool true) ∧ St W w') := by
  have hL1 := Lib.hid hL
  clear hL
  have hs0 := St.refl W
  have hrg := Lib.hid (fun u => rg_any a b u)
  have hrc := Lib.hid (fun u => rc_any a b u)
  rw [← goesB_eq] at hrg
  rw [← covB_eq] at hrc
  have hm := Lib.hid (sup_out ho).1
  have hf := Lib.hid (sup_out ho).2
  have g1 := goesB_no a b ho
  have g2 := covB_no a b ho
  rw [g1] at hrg
  rw [g2] at hrc
  rcases Bool.eq_false_or_eq_true (isM a) with h1 | h1
  · have h2 : isM b = false := by
      rcases ho with h | h
      · rw [h] at h1; cases h1
      · exact h
    clear ho
    go_enter Tryd.func4, Tryd.ntmps4
    go_wp2_with (first | (go_at_call 8; (with_reducible refine (wakes_st hL1.out (by assumption)).mono ?_); rintro e u ⟨rfl, hs⟩) | (go_at_call 19; (with_reducible refine (goes_st hL1.out _ _ true (by assumption) (by assumption)).mono ?_); rintro e u ⟨rfl, hs⟩) | (go_at_call 19; (with_reducible refine (goes_st hL1.out _ _ false (by assumption) (by assumption)).mono ?_); rintro e u ⟨rfl, hs⟩) | (go_at_call 21; (with_reducible refine (cov_st hL1.out _ _ true (by assumption) (by assumption)).mono ?_); rintro e u ⟨rfl, hs⟩) | (go_at_call 21; (with_reducible refine (cov_st hL1.out _ _ false (by assumption) (by assumption)).mono ?_); rintro e u ⟨rfl, hs⟩) | (go_at_call 18; (with_reducible refine (sup_st hL1.out _ _ _ _ hm.out hf.out (by assumption)).mono ?_); rintro e u ⟨rfl, hs⟩) | (go_at_call 10; (with_reducible refine (is_ok _ _ (by assumption)).mono ?_); rintro e u ⟨rfl, rfl⟩) | (go_at_call 10; (with_reducible refine (is_no _ _ (by assumption)).mono ?_); rintro e u ⟨rfl, rfl⟩) | (go_at_call 20; (with_reducible refine (hrg.out _).mono ?_); rintro e u ⟨rfl, rfl⟩) | (go_at_call 22; (with_reducible refine (hrc.out _).mono ?_); rintro e u ⟨rfl, rfl⟩) | (go_at_call 12; (with_reducible refine (rtab_st _ true (by assumption) _).mono ?_); rintro e u ⟨rfl, rfl⟩) | (go_at_call 12; (with_reducible refine (rtab_st _ false (by assumption) _).mono ?_); rintro e u ⟨rfl, rfl⟩) | (go_at_call 14; (with_reducible refine (rkey_st _ true (by assumption) _).mono ?_); rintro e u ⟨rfl, rfl⟩) | (go_at_call 14; (with_reducible refine (rkey_st _ false (by assumption) _).mono ?_); rintro e u ⟨rfl, rfl⟩))
    go_ret
    exact ⟨rfl, by assumption⟩
  · clear ho
    go_enter Tryd.func4, Tryd.ntmps4
    go_wp2_with (first | (go_at_call 8; (with_reducible refine (wakes_st hL1.out (by assumption)).mono ?_); rintro e u ⟨rfl, hs⟩) | (go_at_call 19; (with_reducible refine (goes_st hL1.out _ _ true (by assumption) (by assumption)).mono ?_); rintro e u ⟨rfl, hs⟩) | (go_at_call 19; (with_reducible refine (goes_st hL1.out _ _ false (by assumption) (by assumption)).mono ?_); rintro e u ⟨rfl, hs⟩) | (go_at_call 21; (with_reducible refine (cov_st hL1.out _ _ true (by assumption) (by assumption)).mono ?_); rintro e u ⟨rfl, hs⟩) | (go_at_call 21; (with_reducible refine (cov_st hL1.out _ _ false (by assumption) (by assumption)).mono ?_); rintro e u ⟨rfl, hs⟩) | (go_at_call 18; (with_reducible refine (sup_st hL1.out _ _ _ _ hm.out hf.out (by assumption)).mono ?_); rintro e u ⟨rfl, hs⟩) | (go_at_call 10; (with_reducible refine (is_ok _ _ (by assumption)).mono ?_); rintro e u ⟨rfl, rfl⟩) | (go_at_call 10; (with_reducible refine (is_no _ _ (by assumption)).mono ?_); rintro e u ⟨rfl, rfl⟩) | (go_at_call 20; (with_reducible refine (hrg.out _).mono ?_); rintro e u ⟨rfl, rfl⟩) | (go_at_call 22; (with_reducible refine (hrc.out _).mono ?_); rintro e u ⟨rfl, rfl⟩) | (go_at_call 12; (with_reducible refine (rtab_st _ true (by assumption) _).mono ?_); rintro e u ⟨rfl, rfl⟩) | (go_at_call 12; (with_reducible refine (rtab_st _ false (by assumption) _).mono ?_); rintro e u ⟨rfl, rfl⟩) | (go_at_call 14; (with_reducible refine (rkey_st _ true (by assumption) _).mono ?_); rintro e u ⟨rfl, rfl⟩) | (go_at_call 14; (with_reducible refine (rkey_st _ false (by assumption) _).mono ?_); rintro e u ⟨rfl, rfl⟩))
    go_ret
    exact ⟨rfl, by assumption⟩

set_option maxRecDepth 100000 in
set_option maxHeartbeats 8000000 in
theorem pairs_in (a b : Int) (W : World) (hL : Lay W) (ha : isM a = true) (hb : isM b = true) :
    Calls Tryd.prog 4 #[.int .i64 a, .int .i64 b] W (fun e w' => e = .returned (.bool true) ∧ St W w') := by
  have hL1 := Lib.hid hL
  clear hL
  have hs0 := St.refl W
  have hrg := Lib.hid (fun u => rg_any a b u)
  have hrc := Lib.hid (fun u => rc_any a b u)
  rw [← goesB_eq] at hrg
  rw [← covB_eq] at hrc
  obtain ⟨s1, s2, s3⟩ := sup_in ha hb
  obtain ⟨p, hp⟩ : ∃ p, goesB a b = p := ⟨_, rfl⟩
  obtain ⟨r, hr⟩ : ∃ r, covB a b = r := ⟨_, rfl⟩
  rw [hp] at hrg
  rw [hr] at hrc
  rcases Bool.eq_false_or_eq_true (ofT a && ofT b || ofK a && ofK b) with hk | hk
  · rw [hk] at s1
    obtain ⟨j, hj, hm, q1, q2⟩ := s3 s1
    have hm := Lib.hid hm
    have hf := Lib.hid s1
    have hrs := Lib.hid (fun u => rsup_any a b j hj u q1 q2)
    clear s1 s2 s3 q1 q2
    rcases Bool.eq_false_or_eq_true (ofT a) with t1 | t1 <;> rcases Bool.eq_false_or_eq_true (ofT b) with t2 | t2 <;> rcases Bool.eq_false_or_eq_true (ofK a) with t3 | t3 <;> rcases Bool.eq_false_or_eq_true (ofK b) with t4 | t4
    all_goals
      first
      | (rw [t1, t2, t3, t4] at hk; cases hk; done)
      | skip
    all_goals
      clear hk
      cases p <;> cases r
    all_goals
      go_enter Tryd.func4, Tryd.ntmps4
      go_wp2_with (first | (go_at_call 8; (with_reducible refine (wakes_st hL1.out (by assumption)).mono ?_); rintro e u ⟨rfl, hs⟩) | (go_at_call 19; (with_reducible refine (goes_st hL1.out _ _ true (by assumption) (by assumption)).mono ?_); rintro e u ⟨rfl, hs⟩) | (go_at_call 19; (with_reducible refine (goes_st hL1.out _ _ false (by assumption) (by assumption)).mono ?_); rintro e u ⟨rfl, hs⟩) | (go_at_call 21; (with_reducible refine (cov_st hL1.out _ _ true (by assumption) (by assumption)).mono ?_); rintro e u ⟨rfl, hs⟩) | (go_at_call 21; (with_reducible refine (cov_st hL1.out _ _ false (by assumption) (by assumption)).mono ?_); rintro e u ⟨rfl, hs⟩) | (go_at_call 18; (with_reducible refine (sup_st hL1.out _ _ _ _ hm.out hf.out (by assumption)).mono ?_); rintro e u ⟨rfl, hs⟩) | (go_at_call 10; (with_reducible refine (is_ok _ _ (by assumption)).mono ?_); rintro e u ⟨rfl, rfl⟩) | (go_at_call 10; (with_reducible refine (is_no _ _ (by assumption)).mono ?_); rintro e u ⟨rfl, rfl⟩) | (go_at_call 20; (with_reducible refine (hrg.out _).mono ?_); rintro e u ⟨rfl, rfl⟩) | (go_at_call 22; (with_reducible refine (hrc.out _).mono ?_); rintro e u ⟨rfl, rfl⟩) | (go_at_call 12; (with_reducible refine (rtab_st _ true (by assumption) _).mono ?_); rintro e u ⟨rfl, rfl⟩) | (go_at_call 12; (with_reducible refine (rtab_st _ false (by assumption) _).mono ?_); rintro e u ⟨rfl, rfl⟩) | (go_at_call 14; (with_reducible refine (rkey_st _ true (by assumption) _).mono ?_); rintro e u ⟨rfl, rfl⟩) | (go_at_call 14; (with_reducible refine (rkey_st _ false (by assumption) _).mono ?_); rintro e u ⟨rfl, rfl⟩) | (go_at_call 23; (with_reducible refine (hrs.out _).mono ?_); rintro e u ⟨rfl, rfl⟩))
      go_ret
      exact ⟨rfl, by assumption⟩
  · rw [hk] at s1
    have hm := Lib.hid (s2 (by rw [s1]; decide))
    have hf := Lib.hid (show supE a b = 2 from s1)
    clear s1 s2 s3
    rcases Bool.eq_false_or_eq_true (ofT a) with t1 | t1 <;> rcases Bool.eq_false_or_eq_true (ofT b) with t2 | t2 <;> rcases Bool.eq_false_or_eq_true (ofK a) with t3 | t3 <;> rcases Bool.eq_false_or_eq_true (ofK b) with t4 | t4
    all_goals
      first
      | (rw [t1, t2, t3, t4] at hk; cases hk; done)
      | skip
    all_goals
      clear hk
      cases p <;> cases r
    all_goals
      go_enter Tryd.func4, Tryd.ntmps4
      go_wp2_with (first | (go_at_call 8; (with_reducible refine (wakes_st hL1.out (by assumption)).mono ?_); rintro e u ⟨rfl, hs⟩) | (go_at_call 19; (with_reducible refine (goes_st hL1.out _ _ true (by assumption) (by assumption)).mono ?_); rintro e u ⟨rfl, hs⟩) | (go_at_call 19; (with_reducible refine (goes_st hL1.out _ _ false (by assumption) (by assumption)).mono ?_); rintro e u ⟨rfl, hs⟩) | (go_at_call 21; (with_reducible refine (cov_st hL1.out _ _ true (by assumption) (by assumption)).mono ?_); rintro e u ⟨rfl, hs⟩) | (go_at_call 21; (with_reducible refine (cov_st hL1.out _ _ false (by assumption) (by assumption)).mono ?_); rintro e u ⟨rfl, hs⟩) | (go_at_call 18; (with_reducible refine (sup_st hL1.out _ _ _ _ hm.out hf.out (by assumption)).mono ?_); rintro e u ⟨rfl, hs⟩) | (go_at_call 10; (with_reducible refine (is_ok _ _ (by assumption)).mono ?_); rintro e u ⟨rfl, rfl⟩) | (go_at_call 10; (with_reducible refine (is_no _ _ (by assumption)).mono ?_); rintro e u ⟨rfl, rfl⟩) | (go_at_call 20; (with_reducible refine (hrg.out _).mono ?_); rintro e u ⟨rfl, rfl⟩) | (go_at_call 22; (with_reducible refine (hrc.out _).mono ?_); rintro e u ⟨rfl, rfl⟩) | (go_at_call 12; (with_reducible refine (rtab_st _ true (by assumption) _).mono ?_); rintro e u ⟨rfl, rfl⟩) | (go_at_call 12; (with_reducible refine (rtab_st _ false (by assumption) _).mono ?_); rintro e u ⟨rfl, rfl⟩) | (go_at_call 14; (with_reducible refine (rkey_st _ true (by assumption) _).mono ?_); rintro e u ⟨rfl, rfl⟩) | (go_at_call 14; (with_reducible refine (rkey_st _ false (by assumption) _).mono ?_); rintro e u ⟨rfl, rfl⟩))
      go_ret
      exact ⟨rfl, by assumption⟩

theorem pairs_any (a b : Int) (W : World) (hL : Lay W) :
    Calls Tryd.prog 4 #[.int .i64 a, .int .i64 b] W (fun e w' => e = .returned (.bool true) ∧ Below W.heap.size W w') := by
  rcases Bool.eq_false_or_eq_true (isM a) with h1 | h1
  · rcases Bool.eq_false_or_eq_true (isM b) with h2 | h2
    · exact pairs_in a b W hL h1 h2
    · exact pairs_out a b W hL (.inr h2)
  · exact pairs_out a b W hL (.inl h1)

theorem pairs_lifted (os : Os) (started : os.Started) (H : Type) (enc : TypeId × Value → H) :
    ReturnsInHanded {} Tryd.checked os 4 .any (fun w args => (Rows.modePairsSpec.pre enc Tryd.prog Tryd.f4 [] false w args ∧ laidMetH Tryd.prog [("bursary/mode.goes", Rows.laid_bursary_mode_goes), ("bursary/mode.covers", Rows.laid_bursary_mode_covers)] w) ∧ sizedMet enc Tryd.prog Tryd.f4 (OpenSpec.ofChange Rows.modePairsSpec) false w args)
      (Rows.modePairsSpec.post enc Tryd.prog Tryd.f4 false true false false) := by
  refine returnsInHanded_of_change_and (C := Tryd.checked) (X := fun w _ => laidMetH Tryd.prog [("bursary/mode.goes", Rows.laid_bursary_mode_goes), ("bursary/mode.covers", Rows.laid_bursary_mode_covers)] w) (fun _ _ _ hh h => h.of_heap hh) own started (by kernel_rfl) Tryd.func4
    (ChangeSpec.witness_shaped (enc := enc) (C := Tryd.checked) (os := os) (X := fun w _ => laidMetH Tryd.prog [("bursary/mode.goes", Rows.laid_bursary_mode_goes), ("bursary/mode.covers", Rows.laid_bursary_mode_covers)] w) false (World.doorLaid Tryd.prog 400 os) #[.int .i64 0, .int .i64 0] 8 rfl (World.shaped_of_RefB (by kernel_rfl) (by kernel_rfl)) (by kernel_rfl) (by kernel_rfl) (by kernel_rfl) (door_met os _)) ?_
  intro W base args ds gs before hval0 hW _ _ hL _
  have hval : ∀ (j : Nat) t v, Tryd.f4.params[j]? = some t → args[j]? = some v → Value.okWide Tryd.prog W .any base t v := hval0
  have hW' := hW
  obtain ⟨p, q, hA0, hV, rfl, _, _⟩ := hW
  have hA : DataW.TrodAll enc Tryd.prog W 0 (fun _ => true) true Tryd.f4.params.toList args.toList ds p := hA0
  rw [Tryd.params4] at hA hval
  obtain ⟨v0, v1, d0, d1, q0, q1, rfl, rfl, rfl, h0, h1⟩ := trodAll_two hA
  obtain ⟨rfl, rfl⟩ := trodVars_none hV
  have hT := of_laid hL
  obtain ⟨k0, rfl⟩ := okWide_int Tryd.underlying3 (hval 0 3 v0 rfl rfl)
  obtain ⟨k1, rfl⟩ := okWide_int Tryd.underlying3 (hval 1 3 v1 rfl rfl)
  refine (pairs_any k0 k1 W hT).mono fun e W' ⟨he, hb⟩ => ?_
  subst he
  exact ⟨_, rfl, law_post laidOut (of_decide_eq_true (by kernel_rfl)) rfl (by kernel_rfl) Tryd.underlying4 hW' ⟨rfl, rfl, rfl⟩ hb⟩

theorem pairs_said : Rows.ModePairsSaid :=
  OpenClaim.holds_of_wide 4 Tryd.f4 rfl rfl rfl rfl rfl rfl rfl ⟨rfl, rfl, rfl, rfl, rfl⟩ rfl rfl rfl rfl rfl (by kernel_rfl) Tryd.func4 (by kernel_rfl)
    (of_decide_eq_true (by kernel_rfl)) (by unfold Func.isWrapper; first | (rw [if_pos (by decide +kernel)]; kernel_rfl) | (rw [if_neg (by decide +kernel)]; exact ⟨rfl, rfl⟩))
    (fun os started H enc _ => pairs_lifted os started H enc)

theorem pairs_holds : Rows.ModePairsCardSaid :=
  Claim7.holds_tied_plain_at .later [] [.wider, .wider] true Rows.modePairsCard.stood.harness false
    pairs_said (fun _ h => by cases h) (by kernel_rfl) (fun _ h => by cases h) modePairs_row_tie rfl ⟨rfl, rfl⟩ (by kernel_rfl) rfl
    (fun f fn hf hfn => by
      obtain rfl : f = 4 := Option.some.inj ((show Tryd.prog.funcNamed "bursary/bursarylaw07.ModePairs" = some 4 by kernel_rfl).symm.trans hf) |>.symm
      obtain rfl : fn = Tryd.f4 := (Option.some.inj (Tryd.func4.symm.trans hfn)).symm
      exact ⟨by kernel_rfl, fun j t ht => by
        rw [Tryd.params4] at ht
        have hm : t ∈ [3] := by simpa using Array.mem_of_getElem? ht
        have hall : ([3].all fun u => !Tryd.prog.wantsStandIn u) = true := by kernel_rfl
        exact (show Tryd.prog.wantsStandIn t = false by simpa using List.all_eq_true.1 hall t hm)⟩)
    (by kernel_rfl)

end Go.Proofs.YtfplmflbkhanoaaDoor
