/- ModeOrder: for every three numbers the law returns true, and its arguments read as they did, where the tables of modes are laid as the program's text lays them. No other condition. -/
import Derived.Test.YtfplmflbkhanoaaDoorMLaid
import Derived.Test.YtfplmflbkhanoaaDoorTie
import Derived.Test.YtfplmflbkhanoaaDoorCards
namespace Go.Proofs.YtfplmflbkhanoaaDoor
open Go.ChangeShapes Go.WideShapes Go.ChangeAt Go.RowKit

set_option maxRecDepth 100000 in
set_option maxHeartbeats 4000000 in
theorem order_no (a b c : Int) (W : World) (hL : Lay W) (h1 : covB a b = false) :
    Calls Tryd.prog 6 #[.int .i64 a, .int .i64 b, .int .i64 c] W (fun e w' => e = .returned (.bool true) ∧ St W w') := by
  have hL1 := Lib.hid hL
  clear hL
  have hs0 := St.refl W
  have hcs := Lib.hid (covB_self (a := a))
  have hgs := Lib.hid (goesB_sym b a)
  rcases Bool.eq_false_or_eq_true (isM a) with h2 | h2
  all_goals
    have h3 := hcs.out
    rw [h2] at h3
    rcases Bool.eq_false_or_eq_true (goesB a b) with h4 | h4
  all_goals
    have h5 := hgs.out
    rw [h4] at h5
    have hx : True := trivial
    clear hcs hgs
    clear hx
    go_enter Tryd.func6, Tryd.ntmps6
    go_wp2_with (first | (go_at_call 8; (with_reducible refine (wakes_st hL1.out (by assumption)).mono ?_); rintro e u ⟨rfl, hs⟩) | (go_at_call 9; (with_reducible refine (check_ok _ _ (by assumption)).mono ?_); rintro e u ⟨rfl, rfl⟩) | (go_at_call 9; (with_reducible refine (check_no _ _ (by assumption)).mono ?_); rintro e u ⟨rfl, rfl⟩) | (go_at_call 21; (with_reducible refine (cov_st hL1.out _ _ true (by assumption) (by assumption)).mono ?_); rintro e u ⟨rfl, hs⟩) | (go_at_call 21; (with_reducible refine (cov_st hL1.out _ _ false (by assumption) (by assumption)).mono ?_); rintro e u ⟨rfl, hs⟩) | (go_at_call 19; (with_reducible refine (goes_st hL1.out _ _ true (by assumption) (by assumption)).mono ?_); rintro e u ⟨rfl, hs⟩) | (go_at_call 19; (with_reducible refine (goes_st hL1.out _ _ false (by assumption) (by assumption)).mono ?_); rintro e u ⟨rfl, hs⟩))
    go_ret
    exact ⟨rfl, by assumption⟩

set_option maxRecDepth 100000 in
set_option maxHeartbeats 4000000 in
theorem order_yes (a b c : Int) (W : World) (hL : Lay W) (h1 : covB a b = true) (hne : covB b a = false) :
    Calls Tryd.prog 6 #[.int .i64 a, .int .i64 b, .int .i64 c] W (fun e w' => e = .returned (.bool true) ∧ St W w') := by
  have hL1 := Lib.hid hL
  clear hL
  have hs0 := St.refl W
  have h2 := (covB_is h1).1
  have h3 : covB a a = true := covB_self.trans h2
  have hgs := Lib.hid (goesB_sym b a)
  rcases Bool.eq_false_or_eq_true (goesB a b) with h4 | h4
  all_goals
    have h5 := hgs.out
    rw [h4] at h5
  all_goals
    rcases Bool.eq_false_or_eq_true (covB b c) with h6 | h6
  all_goals
    rcases Bool.eq_false_or_eq_true (goesB a c) with h7 | h7
  all_goals
    first
    | have h8 := covB_trans h1 h6
    | have h8 : True := trivial
  all_goals
    first
    | have h9 := goesB_down h1 h7
    | have h9 : True := trivial
  all_goals
    have hx : True := trivial
    clear hgs
    clear hx
    go_enter Tryd.func6, Tryd.ntmps6
    go_wp2_with (first | (go_at_call 8; (with_reducible refine (wakes_st hL1.out (by assumption)).mono ?_); rintro e u ⟨rfl, hs⟩) | (go_at_call 9; (with_reducible refine (check_ok _ _ (by assumption)).mono ?_); rintro e u ⟨rfl, rfl⟩) | (go_at_call 9; (with_reducible refine (check_no _ _ (by assumption)).mono ?_); rintro e u ⟨rfl, rfl⟩) | (go_at_call 21; (with_reducible refine (cov_st hL1.out _ _ true (by assumption) (by assumption)).mono ?_); rintro e u ⟨rfl, hs⟩) | (go_at_call 21; (with_reducible refine (cov_st hL1.out _ _ false (by assumption) (by assumption)).mono ?_); rintro e u ⟨rfl, hs⟩) | (go_at_call 19; (with_reducible refine (goes_st hL1.out _ _ true (by assumption) (by assumption)).mono ?_); rintro e u ⟨rfl, hs⟩) | (go_at_call 19; (with_reducible refine (goes_st hL1.out _ _ false (by assumption) (by assumption)).mono ?_); rintro e u ⟨rfl, hs⟩))
    go_ret
    exact ⟨rfl, by assumption⟩

set_option maxRecDepth 100000 in
set_option maxHeartbeats 4000000 in
theorem order_same (a c : Int) (W : World) (hL : Lay W) (h1 : covB a a = true) :
    Calls Tryd.prog 6 #[.int .i64 a, .int .i64 a, .int .i64 c] W (fun e w' => e = .returned (.bool true) ∧ St W w') := by
  have hL1 := Lib.hid hL
  clear hL
  have hs0 := St.refl W
  have h2 := (covB_is h1).1
  rcases Bool.eq_false_or_eq_true (goesB a a) with h4 | h4
  all_goals
    rcases Bool.eq_false_or_eq_true (covB a c) with h6 | h6
  all_goals
    rcases Bool.eq_false_or_eq_true (goesB a c) with h7 | h7
  all_goals
    have hx : True := trivial
    clear hx
    go_enter Tryd.func6, Tryd.ntmps6
    go_wp2_with (first | (go_at_call 8; (with_reducible refine (wakes_st hL1.out (by assumption)).mono ?_); rintro e u ⟨rfl, hs⟩) | (go_at_call 9; (with_reducible refine (check_ok _ _ (by assumption)).mono ?_); rintro e u ⟨rfl, rfl⟩) | (go_at_call 9; (with_reducible refine (check_no _ _ (by assumption)).mono ?_); rintro e u ⟨rfl, rfl⟩) | (go_at_call 21; (with_reducible refine (cov_st hL1.out _ _ true (by assumption) (by assumption)).mono ?_); rintro e u ⟨rfl, hs⟩) | (go_at_call 21; (with_reducible refine (cov_st hL1.out _ _ false (by assumption) (by assumption)).mono ?_); rintro e u ⟨rfl, hs⟩) | (go_at_call 19; (with_reducible refine (goes_st hL1.out _ _ true (by assumption) (by assumption)).mono ?_); rintro e u ⟨rfl, hs⟩) | (go_at_call 19; (with_reducible refine (goes_st hL1.out _ _ false (by assumption) (by assumption)).mono ?_); rintro e u ⟨rfl, hs⟩))
    go_ret
    exact ⟨rfl, by assumption⟩

theorem order_any (a b c : Int) (W : World) (hL : Lay W) :
    Calls Tryd.prog 6 #[.int .i64 a, .int .i64 b, .int .i64 c] W (fun e w' => e = .returned (.bool true) ∧ Below W.heap.size W w') := by
  rcases Bool.eq_false_or_eq_true (covB a b) with h1 | h1
  · rcases Bool.eq_false_or_eq_true (covB b a) with h2 | h2
    · obtain rfl := covB_anti h1 h2
      exact order_same a c W hL h1
    · exact order_yes a b c W hL h1 h2
  · exact order_no a b c W hL h1

theorem order_lifted (os : Os) (started : os.Started) (H : Type) (enc : TypeId × Value → H) :
    ReturnsInHanded {} Tryd.checked os 6 .any (fun w args => (Rows.modeOrderSpec.pre enc Tryd.prog Tryd.f6 [] false w args ∧ laidMetH Tryd.prog [("bursary/mode.goes", Rows.laid_bursary_mode_goes), ("bursary/mode.covers", Rows.laid_bursary_mode_covers)] w) ∧ sizedMet enc Tryd.prog Tryd.f6 (OpenSpec.ofChange Rows.modeOrderSpec) false w args)
      (Rows.modeOrderSpec.post enc Tryd.prog Tryd.f6 false true false false) := by
  refine returnsInHanded_of_change_and (C := Tryd.checked) (X := fun w _ => laidMetH Tryd.prog [("bursary/mode.goes", Rows.laid_bursary_mode_goes), ("bursary/mode.covers", Rows.laid_bursary_mode_covers)] w) (fun _ _ _ hh h => h.of_heap hh) own started (by kernel_rfl) Tryd.func6
    (ChangeSpec.witness_shaped (enc := enc) (C := Tryd.checked) (os := os) (X := fun w _ => laidMetH Tryd.prog [("bursary/mode.goes", Rows.laid_bursary_mode_goes), ("bursary/mode.covers", Rows.laid_bursary_mode_covers)] w) false (World.doorLaid Tryd.prog 400 os) #[.int .i64 0, .int .i64 0, .int .i64 0] 8 rfl (World.shaped_of_RefB (by kernel_rfl) (by kernel_rfl)) (by kernel_rfl) (by kernel_rfl) (by kernel_rfl) (door_met os _)) ?_
  intro W base args ds gs before hval0 hW _ _ hL _
  have hval : ∀ (j : Nat) t v, Tryd.f6.params[j]? = some t → args[j]? = some v → Value.okWide Tryd.prog W .any base t v := hval0
  have hW' := hW
  obtain ⟨p, q, hA0, hV, rfl, _, _⟩ := hW
  have hA : DataW.TrodAll enc Tryd.prog W 0 (fun _ => true) true Tryd.f6.params.toList args.toList ds p := hA0
  rw [Tryd.params6] at hA hval
  obtain ⟨v0, v1, v2, d0, d1, d2, q0, q1, q2, rfl, rfl, rfl, h0, h1, h2⟩ := trodAll_three hA
  obtain ⟨rfl, rfl⟩ := trodVars_none hV
  have hT := of_laid hL
  obtain ⟨k0, rfl⟩ := okWide_int Tryd.underlying3 (hval 0 3 v0 rfl rfl)
  obtain ⟨k1, rfl⟩ := okWide_int Tryd.underlying3 (hval 1 3 v1 rfl rfl)
  obtain ⟨k2, rfl⟩ := okWide_int Tryd.underlying3 (hval 2 3 v2 rfl rfl)
  refine (order_any k0 k1 k2 W hT).mono fun e W' ⟨he, hb⟩ => ?_
  subst he
  exact ⟨_, rfl, law_post laidOut (of_decide_eq_true (by kernel_rfl)) rfl (by kernel_rfl) Tryd.underlying4 hW' ⟨rfl, rfl, rfl⟩ hb⟩

theorem order_said : Rows.ModeOrderSaid :=
  OpenClaim.holds_of_wide 6 Tryd.f6 rfl rfl rfl rfl rfl rfl rfl ⟨rfl, rfl, rfl, rfl, rfl⟩ rfl rfl rfl rfl rfl (by kernel_rfl) Tryd.func6 (by kernel_rfl)
    (of_decide_eq_true (by kernel_rfl)) (by unfold Func.isWrapper; first | (rw [if_pos (by decide +kernel)]; kernel_rfl) | (rw [if_neg (by decide +kernel)]; exact ⟨rfl, rfl⟩))
    (fun os started H enc _ => order_lifted os started H enc)

theorem order_holds : Rows.ModeOrderCardSaid :=
  Claim7.holds_tied_plain_at .later [] [.wider, .wider] true Rows.modeOrderCard.stood.harness false
    order_said (fun _ h => by cases h) (by kernel_rfl) (fun _ h => by cases h) modeOrder_row_tie rfl ⟨rfl, rfl⟩ (by kernel_rfl) rfl
    (fun f fn hf hfn => by
      obtain rfl : f = 6 := Option.some.inj ((show Tryd.prog.funcNamed "bursary/bursarylaw07.ModeOrder" = some 6 by kernel_rfl).symm.trans hf) |>.symm
      obtain rfl : fn = Tryd.f6 := (Option.some.inj (Tryd.func6.symm.trans hfn)).symm
      exact ⟨by kernel_rfl, fun j t ht => by
        rw [Tryd.params6] at ht
        have hm : t ∈ [3] := by simpa using Array.mem_of_getElem? ht
        have hall : ([3].all fun u => !Tryd.prog.wantsStandIn u) = true := by kernel_rfl
        exact (show Tryd.prog.wantsStandIn t = false by simpa using List.all_eq_true.1 hall t hm)⟩)
    (by kernel_rfl)

end Go.Proofs.YtfplmflbkhanoaaDoor
