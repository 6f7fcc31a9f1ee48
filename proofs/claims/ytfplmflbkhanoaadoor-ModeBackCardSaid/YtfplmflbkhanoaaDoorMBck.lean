/- ModeBack: for every number and text the law returns true, and its arguments read as they did, where the tables of modes are laid as the program's text lays them. No other condition. -/
import Derived.Test.YtfplmflbkhanoaaDoorMLaid
import Derived.Test.YtfplmflbkhanoaaDoorTie
import Derived.Test.YtfplmflbkhanoaaDoorCards
namespace Go.Proofs.YtfplmflbkhanoaaDoor
open Go.ChangeShapes Go.WideShapes Go.ChangeAt Go.RowKit

/-- which text it is, if any -/
theorem pos (s : ByteArray) : (∃ j : Nat, j < 7 ∧ isT j s = true ∧ ∀ i : Nat, i < j → isT i s = false) ∨ ∀ i : Nat, i < 7 → isT i s = false := by
  have h : ∀ n : Nat, n ≤ 7 → (∃ j : Nat, j < n ∧ isT j s = true ∧ ∀ i : Nat, i < j → isT i s = false) ∨ ∀ i : Nat, i < n → isT i s = false := by
    intro n
    induction n with
    | zero => exact fun _ => .inr fun i hi => by omega
    | succ n ih =>
      intro hn
      rcases ih (by omega) with ⟨j, hj, h1, h2⟩ | h
      · exact .inl ⟨j, by omega, h1, h2⟩
      · rcases Bool.eq_false_or_eq_true (isT n s) with h1 | h1
        · exact .inl ⟨n, by omega, h1, h⟩
        · refine .inr fun i hi => ?_
          rcases Nat.lt_succ_iff_lt_or_eq.1 hi with hi | rfl
          · exact h i hi
          · exact h1
  exact h 7 (Nat.le_refl _)
theorem text_st {W w : World} (hT : LaidT W) (j : Nat) (hj : j < 7) (hs : St W w) : Calls Tryd.prog 15 #[.int .i64 j] w (fun e w' => e = .returned (.string (tx j)) ∧ St W w') :=
  (text_ok j hj w (hT.below hs)).mono fun _ _ ⟨he, hb⟩ => ⟨he, hs.step hb⟩
theorem text_st0 {W w : World} (m : Int) (hm : isM m = false) (hs : St W w) : Calls Tryd.prog 15 #[.int .i64 m] w (fun e w' => e = .returned (.string ⟨#[]⟩) ∧ St W w') :=
  (text_no m hm w).mono fun _ _ ⟨he, hb⟩ => ⟨he, hs.step hb⟩
theorem parse_st {W w : World} (hT : LaidT W) (j : Nat) (hj : j < 7) (s : ByteArray) (h1 : isT j s = true) (h2 : ∀ i, i < j → isT i s = false) (hs : St W w) : Calls Tryd.prog 17 #[.string s] w (fun e w' => e = .returned (.tuple #[.int .i64 j, .int .i64 0]) ∧ w = w') := parse_at j hj s w (hT.below hs) h1 h2
theorem parse_st0 {W w : World} (hT : LaidT W) (s : ByteArray) (h2 : ∀ i, i < 7 → isT i s = false) (hs : St W w) : Calls Tryd.prog 17 #[.string s] w (fun e w' => e = .returned (.tuple #[.int .i64 0, .int .i64 2]) ∧ w = w') := parse_none s w (hT.below hs) h2
theorem tx_self : ∀ j : Nat, j < 7 → isT j (tx j) = true := by decide +kernel
theorem tx_apart : ∀ j : Nat, j < 7 → ∀ i : Nat, i < j → isT i (tx j) = false := by
  have h : ∀ j : Nat, j < 7 → ∀ i : Nat, i < 7 → i < j → isT i (tx j) = false := by decide +kernel
  exact fun j hj i hi => h j hj i (by omega) hi
theorem tx_some : ∀ j : Nat, j < 7 → (tx j).toList ≠ [] := by decide +kernel

set_option maxRecDepth 100000 in
set_option maxHeartbeats 2000000 in
theorem back_in1 (x : Nat) (hx : x < 7) (s : ByteArray) (W : World) (hL : Lay W) (hT : LaidT W) (hp : (∃ j : Nat, j < 7 ∧ isT j s = true ∧ ∀ i : Nat, i < j → isT i s = false)) :
    Calls Tryd.prog 7 #[.int .i64 x, .string s] W (fun e w' => e = .returned (.bool true) ∧ St W w') := by
  have hL1 := Lib.hid hL
  have hT1 := Lib.hid hT
  have hs0 := St.refl W
  clear hL hT
  have ht1 := Lib.hid (tx_self x hx)
  have ht2 := Lib.hid (tx_apart x hx)
  have hne := tx_some x hx
  have hne2 : ((tx x).toList == []) = false := by rw [beq_eq_false_iff_ne]; exact hne
  have hne3 : (tx x).toList.isEmpty = false := by rw [List.isEmpty_eq_false_iff]; exact hne
  obtain ⟨j, hj, p1, p2⟩ := hp
  have hp1 := Lib.hid p1
  have hp2 := Lib.hid p2
  have hq : ((tx j).toList == s.toList) = true := p1
  clear p1 p2
  go_enter Tryd.func7, Tryd.ntmps7
  go_wp2_with (first | (go_at_call 8; (with_reducible refine (wakes_st hL1.out (by assumption)).mono ?_); rintro e u ⟨rfl, hs⟩) | (go_at_call 15; (with_reducible refine (text_st hT1.out x hx (by assumption)).mono ?_); rintro e u ⟨rfl, hs⟩) | (go_at_call 17; (with_reducible refine (parse_st hT1.out x hx _ ht1.out ht2.out (by assumption)).mono ?_); rintro e u ⟨rfl, rfl⟩) | (go_at_call 17; (with_reducible refine (parse_st hT1.out j hj _ hp1.out hp2.out (by assumption)).mono ?_); rintro e u ⟨rfl, rfl⟩) | (go_at_call 15; (with_reducible refine (text_st hT1.out j hj (by assumption)).mono ?_); rintro e u ⟨rfl, hs⟩))
  go_ret
  exact ⟨rfl, by assumption⟩

set_option maxRecDepth 100000 in
set_option maxHeartbeats 2000000 in
theorem back_in0 (x : Nat) (hx : x < 7) (s : ByteArray) (W : World) (hL : Lay W) (hT : LaidT W) (hp : (∀ i : Nat, i < 7 → isT i s = false)) :
    Calls Tryd.prog 7 #[.int .i64 x, .string s] W (fun e w' => e = .returned (.bool true) ∧ St W w') := by
  have hL1 := Lib.hid hL
  have hT1 := Lib.hid hT
  have hs0 := St.refl W
  clear hL hT
  have ht1 := Lib.hid (tx_self x hx)
  have ht2 := Lib.hid (tx_apart x hx)
  have hne := tx_some x hx
  have hne2 : ((tx x).toList == []) = false := by rw [beq_eq_false_iff_ne]; exact hne
  have hne3 : (tx x).toList.isEmpty = false := by rw [List.isEmpty_eq_false_iff]; exact hne
  have hp2 := Lib.hid hp
  clear hp
  go_enter Tryd.func7, Tryd.ntmps7
  go_wp2_with (first | (go_at_call 8; (with_reducible refine (wakes_st hL1.out (by assumption)).mono ?_); rintro e u ⟨rfl, hs⟩) | (go_at_call 15; (with_reducible refine (text_st hT1.out x hx (by assumption)).mono ?_); rintro e u ⟨rfl, hs⟩) | (go_at_call 17; (with_reducible refine (parse_st hT1.out x hx _ ht1.out ht2.out (by assumption)).mono ?_); rintro e u ⟨rfl, rfl⟩) | (go_at_call 17; (with_reducible refine (parse_st0 hT1.out _ hp2.out (by assumption)).mono ?_); rintro e u ⟨rfl, rfl⟩))
  go_ret
  exact ⟨rfl, by assumption⟩

set_option maxRecDepth 100000 in
set_option maxHeartbeats 2000000 in
theorem back_out1 (m : Int) (hm : isM m = false) (s : ByteArray) (W : World) (hL : Lay W) (hT : LaidT W) (hp : (∃ j : Nat, j < 7 ∧ isT j s = true ∧ ∀ i : Nat, i < j → isT i s = false)) :
    Calls Tryd.prog 7 #[.int .i64 m, .string s] W (fun e w' => e = .returned (.bool true) ∧ St W w') := by
  have hL1 := Lib.hid hL
  have hT1 := Lib.hid hT
  have hs0 := St.refl W
  clear hL hT
  obtain ⟨j, hj, p1, p2⟩ := hp
  have hp1 := Lib.hid p1
  have hp2 := Lib.hid p2
  have hq : ((tx j).toList == s.toList) = true := p1
  clear p1 p2
  go_enter Tryd.func7, Tryd.ntmps7
  go_wp2_with (first | (go_at_call 8; (with_reducible refine (wakes_st hL1.out (by assumption)).mono ?_); rintro e u ⟨rfl, hs⟩) | (go_at_call 15; (with_reducible refine (text_st0 _ (by assumption) (by assumption)).mono ?_); rintro e u ⟨rfl, hs⟩) | (go_at_call 9; (with_reducible refine (check_no _ _ (by assumption)).mono ?_); rintro e u ⟨rfl, rfl⟩) | (go_at_call 17; (with_reducible refine (parse_st hT1.out j hj _ hp1.out hp2.out (by assumption)).mono ?_); rintro e u ⟨rfl, rfl⟩) | (go_at_call 15; (with_reducible refine (text_st hT1.out j hj (by assumption)).mono ?_); rintro e u ⟨rfl, hs⟩))
  go_ret
  exact ⟨rfl, by assumption⟩

set_option maxRecDepth 100000 in
set_option maxHeartbeats 2000000 in
theorem back_out0 (m : Int) (hm : isM m = false) (s : ByteArray) (W : World) (hL : Lay W) (hT : LaidT W) (hp : (∀ i : Nat, i < 7 → isT i s = false)) :
    Calls Tryd.prog 7 #[.int .i64 m, .string s] W (fun e w' => e = .returned (.bool true) ∧ St W w') := by
  have hL1 := Lib.hid hL
  have hT1 := Lib.hid hT
  have hs0 := St.refl W
  clear hL hT
  have hp2 := Lib.hid hp
  clear hp
  go_enter Tryd.func7, Tryd.ntmps7
  go_wp2_with (first | (go_at_call 8; (with_reducible refine (wakes_st hL1.out (by assumption)).mono ?_); rintro e u ⟨rfl, hs⟩) | (go_at_call 15; (with_reducible refine (text_st0 _ (by assumption) (by assumption)).mono ?_); rintro e u ⟨rfl, hs⟩) | (go_at_call 9; (with_reducible refine (check_no _ _ (by assumption)).mono ?_); rintro e u ⟨rfl, rfl⟩) | (go_at_call 17; (with_reducible refine (parse_st0 hT1.out _ hp2.out (by assumption)).mono ?_); rintro e u ⟨rfl, rfl⟩))
  go_ret
  exact ⟨rfl, by assumption⟩

theorem back_any (m : Int) (s : ByteArray) (W : World) (h : Lay W ∧ LaidT W) :
    Calls Tryd.prog 7 #[.int .i64 m, .string s] W (fun e w' => e = .returned (.bool true) ∧ Below W.heap.size W w') := by
  rcases Bool.eq_false_or_eq_true (isM m) with h1 | h1
  · obtain ⟨x, hx, rfl⟩ := isM_nat h1
    rcases pos s with hp | hp
    · exact back_in1 x hx s W h.1 h.2 hp
    · exact back_in0 x hx s W h.1 h.2 hp
  · rcases pos s with hp | hp
    · exact back_out1 m h1 s W h.1 h.2 hp
    · exact back_out0 m h1 s W h.1 h.2 hp

theorem back_lifted (os : Os) (started : os.Started) (H : Type) (enc : TypeId × Value → H) :
    ReturnsInHanded {} Tryd.checked os 7 .any (fun w args => (Rows.modeBackSpec.pre enc Tryd.prog Tryd.f7 [] false w args ∧ laidMetH Tryd.prog [("bursary/mode.goes", Rows.laid_bursary_mode_goes), ("bursary/mode.covers", Rows.laid_bursary_mode_covers), ("bursary/mode.texts", Rows.laid_bursary_mode_texts)] w) ∧ sizedMet enc Tryd.prog Tryd.f7 (OpenSpec.ofChange Rows.modeBackSpec) false w args)
      (Rows.modeBackSpec.post enc Tryd.prog Tryd.f7 false true false false) := by
  refine returnsInHanded_of_change_and (C := Tryd.checked) (X := fun w _ => laidMetH Tryd.prog [("bursary/mode.goes", Rows.laid_bursary_mode_goes), ("bursary/mode.covers", Rows.laid_bursary_mode_covers), ("bursary/mode.texts", Rows.laid_bursary_mode_texts)] w) (fun _ _ _ hh h => h.of_heap hh) own started (by kernel_rfl) Tryd.func7
    (ChangeSpec.witness_shaped (enc := enc) (C := Tryd.checked) (os := os) (X := fun w _ => laidMetH Tryd.prog [("bursary/mode.goes", Rows.laid_bursary_mode_goes), ("bursary/mode.covers", Rows.laid_bursary_mode_covers), ("bursary/mode.texts", Rows.laid_bursary_mode_texts)] w) false (World.doorLaid Tryd.prog 400 os) #[.int .i64 0, .string ⟨#[]⟩] 8 rfl (World.shaped_of_RefB (by kernel_rfl) (by kernel_rfl)) (by kernel_rfl) (by kernel_rfl) (by kernel_rfl) (door_met3 os _)) ?_
  intro W base args ds gs before hval0 hW _ _ hL _
  have hval : ∀ (j : Nat) t v, Tryd.f7.params[j]? = some t → args[j]? = some v → Value.okWide Tryd.prog W .any base t v := hval0
  have hW' := hW
  obtain ⟨p, q, hA0, hV, rfl, _, _⟩ := hW
  have hA : DataW.TrodAll enc Tryd.prog W 0 (fun _ => true) true Tryd.f7.params.toList args.toList ds p := hA0
  rw [Tryd.params7] at hA hval
  obtain ⟨v0, v1, d0, d1, q0, q1, rfl, rfl, rfl, h0, h1⟩ := trodAll_two hA
  obtain ⟨rfl, rfl⟩ := trodVars_none hV
  have hT := of_laid3 hL
  obtain ⟨k0, rfl⟩ := okWide_int Tryd.underlying3 (hval 0 3 v0 rfl rfl)
  obtain ⟨s1, rfl⟩ := okWide_string Tryd.underlying9 (hval 1 9 v1 rfl rfl)
  refine (back_any k0 s1 W hT).mono fun e W' ⟨he, hb⟩ => ?_
  subst he
  exact ⟨_, rfl, law_post laidOut (of_decide_eq_true (by kernel_rfl)) rfl (by kernel_rfl) Tryd.underlying4 hW' ⟨rfl, rfl, rfl⟩ hb⟩

theorem back_said : Rows.ModeBackSaid :=
  OpenClaim.holds_of_wide 7 Tryd.f7 rfl rfl rfl rfl rfl rfl rfl ⟨rfl, rfl, rfl, rfl, rfl⟩ rfl rfl rfl rfl rfl (by kernel_rfl) Tryd.func7 (by kernel_rfl)
    (of_decide_eq_true (by kernel_rfl)) (by unfold Func.isWrapper; first | (rw [if_pos (by decide +kernel)]; kernel_rfl) | (rw [if_neg (by decide +kernel)]; exact ⟨rfl, rfl⟩))
    (fun os started H enc _ => back_lifted os started H enc)

theorem back_holds : Rows.ModeBackCardSaid :=
  Claim7.holds_tied_plain_at .later [] [.wider, .wider, .data] true Rows.modeBackCard.stood.harness false
    back_said (fun _ h => by cases h) (by kernel_rfl) (fun _ h => by cases h) modeBack_row_tie rfl ⟨rfl, rfl⟩ (by kernel_rfl) rfl
    (fun f fn hf hfn => by
      obtain rfl : f = 7 := Option.some.inj ((show Tryd.prog.funcNamed "bursary/bursarylaw07.ModeBack" = some 7 by kernel_rfl).symm.trans hf) |>.symm
      obtain rfl : fn = Tryd.f7 := (Option.some.inj (Tryd.func7.symm.trans hfn)).symm
      exact ⟨by kernel_rfl, fun j t ht => by
        rw [Tryd.params7] at ht
        have hm : t ∈ [3, 9] := by simpa using Array.mem_of_getElem? ht
        have hall : ([3, 9].all fun u => !Tryd.prog.wantsStandIn u) = true := by kernel_rfl
        exact (show Tryd.prog.wantsStandIn t = false by simpa using List.all_eq_true.1 hall t hm)⟩)
    (by kernel_rfl)

end Go.Proofs.YtfplmflbkhanoaaDoor
