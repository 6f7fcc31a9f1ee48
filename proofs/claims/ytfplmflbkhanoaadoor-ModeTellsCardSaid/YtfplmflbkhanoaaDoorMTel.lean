/- ModeTells: for every number and text the law returns true, and its arguments read as they did, where the tables of modes are laid as the program's text lays them. No other condition. -/
import Derived.Test.YtfplmflbkhanoaaDoorMLaid
import Derived.Test.YtfplmflbkhanoaaDoorTie
import Derived.Test.YtfplmflbkhanoaaDoorCards
import Derived.Test.YtfplmflbkhanoaaDoorMBck
namespace Go.Proofs.YtfplmflbkhanoaaDoor
open Go.ChangeShapes Go.WideShapes Go.ChangeAt Go.RowKit

theorem rtab_st (m : Int) (v : Bool) (hv : ofT m = v) (w : World) : Calls Tryd.prog 12 #[.int .i64 m] w (fun e w' => e = .returned (.bool v) ∧ w = w') := by
  subst hv; exact rtab_any m w
theorem rkey_st (m : Int) (v : Bool) (hv : ofK m = v) (w : World) : Calls Tryd.prog 14 #[.int .i64 m] w (fun e w' => e = .returned (.bool v) ∧ w = w') := by
  subst hv; exact rkey_any m w
theorem name_at (k : Nat) (hk : k < 7) (w : World) : Calls Tryd.prog 16 #[.int .i64 k] w (fun e w' => e = .returned (.string (tx k)) ∧ w = w') := by
  have h := name_any k w
  have e : tI (k : Int) = tx k := by unfold tI; rw [isM_of hk]; rfl
  rw [e] at h
  exact h
theorem name_no (m : Int) (hm : isM m = false) (w : World) : Calls Tryd.prog 16 #[.int .i64 m] w (fun e w' => e = .returned (.string ⟨#[]⟩) ∧ w = w') := by
  have h := name_any m w
  have e : tI m = ⟨#[]⟩ := by unfold tI; rw [hm]; rfl
  rw [e] at h
  exact h
theorem isT_flip (j : Nat) (s : ByteArray) : (s.toList == (tx j).toList) = isT j s := Bool.beq_comm

set_option maxRecDepth 100000 in
set_option maxHeartbeats 4000000 in
theorem tells_in1 (x : Nat) (hx : x < 7) (s : ByteArray) (W : World) (hL : Lay W) (hT : LaidT W) (hg : decide (100 < s.size) = false) (hp : (∃ j : Nat, j < 7 ∧ isT j s = true ∧ ∀ i : Nat, i < j → isT i s = false)) :
    Calls Tryd.prog 3 #[.int .i64 x, .string s] W (fun e w' => e = .returned (.bool true) ∧ St W w') := by
  have hL1 := Lib.hid hL
  have hT1 := Lib.hid hT
  have hs0 := St.refl W
  have hg2 : decide ((100 : Int) < (s.size : Int)) = false := by rw [decide_eq_false_iff_not] at hg ⊢; omega
  clear hL hT
  have hmx := isM_of hx
  obtain ⟨j, hj, p1, p2⟩ := hp
  have hp1 := Lib.hid p1
  have hp2 := Lib.hid p2
  clear p1 p2
  obtain ⟨p, hpp⟩ : ∃ p, ofT x = p := ⟨_, rfl⟩
  obtain ⟨r, hrr⟩ : ∃ r, ofK x = r := ⟨_, rfl⟩
  cases p <;> cases r
  all_goals
    go_enter Tryd.func3, Tryd.ntmps3
    go_wp2_with (first | (go_at_call 8; (with_reducible refine (wakes_st hL1.out (by assumption)).mono ?_); rintro e u ⟨rfl, hs⟩) | (go_at_call 9; (with_reducible refine (check_ok _ _ (by assumption)).mono ?_); rintro e u ⟨rfl, rfl⟩) | (go_at_call 9; (with_reducible refine (check_no _ _ (by assumption)).mono ?_); rintro e u ⟨rfl, rfl⟩) | (go_at_call 11; (with_reducible refine (ofT_st _ true (by assumption) (by assumption)).mono ?_); rintro e u ⟨rfl, hs⟩) | (go_at_call 11; (with_reducible refine (ofT_st _ false (by assumption) (by assumption)).mono ?_); rintro e u ⟨rfl, hs⟩) | (go_at_call 13; (with_reducible refine (ofK_st _ true (by assumption) (by assumption)).mono ?_); rintro e u ⟨rfl, hs⟩) | (go_at_call 13; (with_reducible refine (ofK_st _ false (by assumption) (by assumption)).mono ?_); rintro e u ⟨rfl, hs⟩) | (go_at_call 10; (with_reducible refine (is_ok _ _ (by assumption)).mono ?_); rintro e u ⟨rfl, rfl⟩) | (go_at_call 10; (with_reducible refine (is_no _ _ (by assumption)).mono ?_); rintro e u ⟨rfl, rfl⟩) | (go_at_call 12; (with_reducible refine (rtab_st _ true (by assumption) _).mono ?_); rintro e u ⟨rfl, rfl⟩) | (go_at_call 12; (with_reducible refine (rtab_st _ false (by assumption) _).mono ?_); rintro e u ⟨rfl, rfl⟩) | (go_at_call 14; (with_reducible refine (rkey_st _ true (by assumption) _).mono ?_); rintro e u ⟨rfl, rfl⟩) | (go_at_call 14; (with_reducible refine (rkey_st _ false (by assumption) _).mono ?_); rintro e u ⟨rfl, rfl⟩) | (go_at_call 15; (with_reducible refine (text_st hT1.out x hx (by assumption)).mono ?_); rintro e u ⟨rfl, hs⟩) | (go_at_call 16; (with_reducible refine (name_at x hx _).mono ?_); rintro e u ⟨rfl, rfl⟩) | (go_at_call 17; (with_reducible refine (parse_st hT1.out j hj _ hp1.out hp2.out (by assumption)).mono ?_); rintro e u ⟨rfl, rfl⟩))
    go_loop [7] (fun v7 => ∃ k : Nat, k ≤ j ∧ v7 = .int .i64 k) (fun v7 => 7 - (intOf v7).toNat)
    case atStart => exact ⟨0, Nat.zero_le _, rfl⟩
    case round =>
      obtain ⟨k, hk, rfl⟩ := hrel
      have hk7 : k < 7 := by omega
      have hk6 : (k : Int) ≤ 6 := by omega
      by_cases hlt : k < j
      · have hq : (s.toList == (tx k).toList) = false := (isT_flip k s).trans (hp2.out k hlt)
        go_wp2_with (first | (go_at_call 16; (with_reducible refine (name_at _ hk7 _).mono ?_); rintro e u ⟨rfl, rfl⟩))
        go_round
        case rel => exact ⟨k + 1, hlt, by go_num⟩
        case measure => simp [intOf]; omega
      · obtain rfl : j = k := by omega
        have hq : (s.toList == (tx j).toList) = true := (isT_flip j s).trans hp1.out
        go_wp2_with (first | (go_at_call 16; (with_reducible refine (name_at _ hk7 _).mono ?_); rintro e u ⟨rfl, rfl⟩))
        go_ret
        exact ⟨rfl, by assumption⟩

set_option maxRecDepth 100000 in
set_option maxHeartbeats 4000000 in
theorem tells_in0 (x : Nat) (hx : x < 7) (s : ByteArray) (W : World) (hL : Lay W) (hT : LaidT W) (hg : decide (100 < s.size) = false) (hp : (∀ i : Nat, i < 7 → isT i s = false)) :
    Calls Tryd.prog 3 #[.int .i64 x, .string s] W (fun e w' => e = .returned (.bool true) ∧ St W w') := by
  have hL1 := Lib.hid hL
  have hT1 := Lib.hid hT
  have hs0 := St.refl W
  have hg2 : decide ((100 : Int) < (s.size : Int)) = false := by rw [decide_eq_false_iff_not] at hg ⊢; omega
  clear hL hT
  have hmx := isM_of hx
  have hp2 := Lib.hid hp
  clear hp
  obtain ⟨p, hpp⟩ : ∃ p, ofT x = p := ⟨_, rfl⟩
  obtain ⟨r, hrr⟩ : ∃ r, ofK x = r := ⟨_, rfl⟩
  cases p <;> cases r
  all_goals
    go_enter Tryd.func3, Tryd.ntmps3
    go_wp2_with (first | (go_at_call 8; (with_reducible refine (wakes_st hL1.out (by assumption)).mono ?_); rintro e u ⟨rfl, hs⟩) | (go_at_call 9; (with_reducible refine (check_ok _ _ (by assumption)).mono ?_); rintro e u ⟨rfl, rfl⟩) | (go_at_call 9; (with_reducible refine (check_no _ _ (by assumption)).mono ?_); rintro e u ⟨rfl, rfl⟩) | (go_at_call 11; (with_reducible refine (ofT_st _ true (by assumption) (by assumption)).mono ?_); rintro e u ⟨rfl, hs⟩) | (go_at_call 11; (with_reducible refine (ofT_st _ false (by assumption) (by assumption)).mono ?_); rintro e u ⟨rfl, hs⟩) | (go_at_call 13; (with_reducible refine (ofK_st _ true (by assumption) (by assumption)).mono ?_); rintro e u ⟨rfl, hs⟩) | (go_at_call 13; (with_reducible refine (ofK_st _ false (by assumption) (by assumption)).mono ?_); rintro e u ⟨rfl, hs⟩) | (go_at_call 10; (with_reducible refine (is_ok _ _ (by assumption)).mono ?_); rintro e u ⟨rfl, rfl⟩) | (go_at_call 10; (with_reducible refine (is_no _ _ (by assumption)).mono ?_); rintro e u ⟨rfl, rfl⟩) | (go_at_call 12; (with_reducible refine (rtab_st _ true (by assumption) _).mono ?_); rintro e u ⟨rfl, rfl⟩) | (go_at_call 12; (with_reducible refine (rtab_st _ false (by assumption) _).mono ?_); rintro e u ⟨rfl, rfl⟩) | (go_at_call 14; (with_reducible refine (rkey_st _ true (by assumption) _).mono ?_); rintro e u ⟨rfl, rfl⟩) | (go_at_call 14; (with_reducible refine (rkey_st _ false (by assumption) _).mono ?_); rintro e u ⟨rfl, rfl⟩) | (go_at_call 15; (with_reducible refine (text_st hT1.out x hx (by assumption)).mono ?_); rintro e u ⟨rfl, hs⟩) | (go_at_call 16; (with_reducible refine (name_at x hx _).mono ?_); rintro e u ⟨rfl, rfl⟩) | (go_at_call 17; (with_reducible refine (parse_st0 hT1.out _ hp2.out (by assumption)).mono ?_); rintro e u ⟨rfl, rfl⟩))
    go_loop [7] (fun v7 => ∃ k : Nat, k ≤ 7 ∧ v7 = .int .i64 k) (fun v7 => 7 - (intOf v7).toNat)
    case atStart => exact ⟨0, Nat.zero_le _, rfl⟩
    case round =>
      obtain ⟨k, hk, rfl⟩ := hrel
      by_cases hlt : k < 7
      · have hk7 : k < 7 := by omega
        have hk6 : (k : Int) ≤ 6 := by omega
        have hq : (s.toList == (tx k).toList) = false := (isT_flip k s).trans (hp2.out k hlt)
        go_wp2_with (first | (go_at_call 16; (with_reducible refine (name_at _ hk7 _).mono ?_); rintro e u ⟨rfl, rfl⟩))
        go_round
        case rel => exact ⟨k + 1, hlt, by go_num⟩
        case measure => simp [intOf]; omega
      · obtain rfl : k = 7 := by omega
        go_wp2
        go_ret
        exact ⟨rfl, by assumption⟩

set_option maxRecDepth 100000 in
set_option maxHeartbeats 4000000 in
theorem tells_out1 (m : Int) (hm : isM m = false) (s : ByteArray) (W : World) (hL : Lay W) (hT : LaidT W) (hg : decide (100 < s.size) = false) (hp : (∃ j : Nat, j < 7 ∧ isT j s = true ∧ ∀ i : Nat, i < j → isT i s = false)) :
    Calls Tryd.prog 3 #[.int .i64 m, .string s] W (fun e w' => e = .returned (.bool true) ∧ St W w') := by
  have hL1 := Lib.hid hL
  have hT1 := Lib.hid hT
  have hs0 := St.refl W
  have hg2 : decide ((100 : Int) < (s.size : Int)) = false := by rw [decide_eq_false_iff_not] at hg ⊢; omega
  clear hL hT
  obtain ⟨j, hj, p1, p2⟩ := hp
  have hp1 := Lib.hid p1
  have hp2 := Lib.hid p2
  clear p1 p2
  obtain ⟨p, hpp⟩ : ∃ p, ofT m = p := ⟨_, rfl⟩
  obtain ⟨r, hrr⟩ : ∃ r, ofK m = r := ⟨_, rfl⟩
  cases p <;> cases r
  all_goals
    go_enter Tryd.func3, Tryd.ntmps3
    go_wp2_with (first | (go_at_call 8; (with_reducible refine (wakes_st hL1.out (by assumption)).mono ?_); rintro e u ⟨rfl, hs⟩) | (go_at_call 9; (with_reducible refine (check_ok _ _ (by assumption)).mono ?_); rintro e u ⟨rfl, rfl⟩) | (go_at_call 9; (with_reducible refine (check_no _ _ (by assumption)).mono ?_); rintro e u ⟨rfl, rfl⟩) | (go_at_call 11; (with_reducible refine (ofT_st _ true (by assumption) (by assumption)).mono ?_); rintro e u ⟨rfl, hs⟩) | (go_at_call 11; (with_reducible refine (ofT_st _ false (by assumption) (by assumption)).mono ?_); rintro e u ⟨rfl, hs⟩) | (go_at_call 13; (with_reducible refine (ofK_st _ true (by assumption) (by assumption)).mono ?_); rintro e u ⟨rfl, hs⟩) | (go_at_call 13; (with_reducible refine (ofK_st _ false (by assumption) (by assumption)).mono ?_); rintro e u ⟨rfl, hs⟩) | (go_at_call 10; (with_reducible refine (is_ok _ _ (by assumption)).mono ?_); rintro e u ⟨rfl, rfl⟩) | (go_at_call 10; (with_reducible refine (is_no _ _ (by assumption)).mono ?_); rintro e u ⟨rfl, rfl⟩) | (go_at_call 12; (with_reducible refine (rtab_st _ true (by assumption) _).mono ?_); rintro e u ⟨rfl, rfl⟩) | (go_at_call 12; (with_reducible refine (rtab_st _ false (by assumption) _).mono ?_); rintro e u ⟨rfl, rfl⟩) | (go_at_call 14; (with_reducible refine (rkey_st _ true (by assumption) _).mono ?_); rintro e u ⟨rfl, rfl⟩) | (go_at_call 14; (with_reducible refine (rkey_st _ false (by assumption) _).mono ?_); rintro e u ⟨rfl, rfl⟩) | (go_at_call 15; (with_reducible refine (text_st0 _ (by assumption) (by assumption)).mono ?_); rintro e u ⟨rfl, hs⟩) | (go_at_call 16; (with_reducible refine (name_no _ (by assumption) _).mono ?_); rintro e u ⟨rfl, rfl⟩) | (go_at_call 17; (with_reducible refine (parse_st hT1.out j hj _ hp1.out hp2.out (by assumption)).mono ?_); rintro e u ⟨rfl, rfl⟩))
    go_loop [7] (fun v7 => ∃ k : Nat, k ≤ j ∧ v7 = .int .i64 k) (fun v7 => 7 - (intOf v7).toNat)
    case atStart => exact ⟨0, Nat.zero_le _, rfl⟩
    case round =>
      obtain ⟨k, hk, rfl⟩ := hrel
      have hk7 : k < 7 := by omega
      have hk6 : (k : Int) ≤ 6 := by omega
      by_cases hlt : k < j
      · have hq : (s.toList == (tx k).toList) = false := (isT_flip k s).trans (hp2.out k hlt)
        go_wp2_with (first | (go_at_call 16; (with_reducible refine (name_at _ hk7 _).mono ?_); rintro e u ⟨rfl, rfl⟩))
        go_round
        case rel => exact ⟨k + 1, hlt, by go_num⟩
        case measure => simp [intOf]; omega
      · obtain rfl : j = k := by omega
        have hq : (s.toList == (tx j).toList) = true := (isT_flip j s).trans hp1.out
        go_wp2_with (first | (go_at_call 16; (with_reducible refine (name_at _ hk7 _).mono ?_); rintro e u ⟨rfl, rfl⟩))
        go_ret
        exact ⟨rfl, by assumption⟩

set_option maxRecDepth 100000 in
set_option maxHeartbeats 4000000 in
theorem tells_out0 (m : Int) (hm : isM m = false) (s : ByteArray) (W : World) (hL : Lay W) (hT : LaidT W) (hg : decide (100 < s.size) = false) (hp : (∀ i : Nat, i < 7 → isT i s = false)) :
    Calls Tryd.prog 3 #[.int .i64 m, .string s] W (fun e w' => e = .returned (.bool true) ∧ St W w') := by
  have hL1 := Lib.hid hL
  have hT1 := Lib.hid hT
  have hs0 := St.refl W
  have hg2 : decide ((100 : Int) < (s.size : Int)) = false := by rw [decide_eq_false_iff_not] at hg ⊢; omega
  clear hL hT
  have hp2 := Lib.hid hp
  clear hp
  obtain ⟨p, hpp⟩ : ∃ p, ofT m = p := ⟨_, rfl⟩
  obtain ⟨r, hrr⟩ : ∃ r, ofK m = r := ⟨_, rfl⟩
  cases p <;> cases r
  all_goals
    go_enter Tryd.func3, Tryd.ntmps3
    go_wp2_with (first | (go_at_call 8; (with_reducible refine (wakes_st hL1.out (by assumption)).mono ?_); rintro e u ⟨rfl, hs⟩) | (go_at_call 9; (with_reducible refine (check_ok _ _ (by assumption)).mono ?_); rintro e u ⟨rfl, rfl⟩) | (go_at_call 9; (with_reducible refine (check_no _ _ (by assumption)).mono ?_); rintro e u ⟨rfl, rfl⟩) | (go_at_call 11; (with_reducible refine (ofT_st _ true (by assumption) (by assumption)).mono ?_); rintro e u ⟨rfl, hs⟩) | (go_at_call 11; (with_reducible refine (ofT_st _ false (by assumption) (by assumption)).mono ?_); rintro e u ⟨rfl, hs⟩) | (go_at_call 13; (with_reducible refine (ofK_st _ true (by assumption) (by assumption)).mono ?_); rintro e u ⟨rfl, hs⟩) | (go_at_call 13; (with_reducible refine (ofK_st _ false (by assumption) (by assumption)).mono ?_); rintro e u ⟨rfl, hs⟩) | (go_at_call 10; (with_reducible refine (is_ok _ _ (by assumption)).mono ?_); rintro e u ⟨rfl, rfl⟩) | (go_at_call 10; (with_reducible refine (is_no _ _ (by assumption)).mono ?_); rintro e u ⟨rfl, rfl⟩) | (go_at_call 12; (with_reducible refine (rtab_st _ true (by assumption) _).mono ?_); rintro e u ⟨rfl, rfl⟩) | (go_at_call 12; (with_reducible refine (rtab_st _ false (by assumption) _).mono ?_); rintro e u ⟨rfl, rfl⟩) | (go_at_call 14; (with_reducible refine (rkey_st _ true (by assumption) _).mono ?_); rintro e u ⟨rfl, rfl⟩) | (go_at_call 14; (with_reducible refine (rkey_st _ false (by assumption) _).mono ?_); rintro e u ⟨rfl, rfl⟩) | (go_at_call 15; (with_reducible refine (text_st0 _ (by assumption) (by assumption)).mono ?_); rintro e u ⟨rfl, hs⟩) | (go_at_call 16; (with_reducible refine (name_no _ (by assumption) _).mono ?_); rintro e u ⟨rfl, rfl⟩) | (go_at_call 17; (with_reducible refine (parse_st0 hT1.out _ hp2.out (by assumption)).mono ?_); rintro e u ⟨rfl, rfl⟩))
    go_loop [7] (fun v7 => ∃ k : Nat, k ≤ 7 ∧ v7 = .int .i64 k) (fun v7 => 7 - (intOf v7).toNat)
    case atStart => exact ⟨0, Nat.zero_le _, rfl⟩
    case round =>
      obtain ⟨k, hk, rfl⟩ := hrel
      by_cases hlt : k < 7
      · have hk7 : k < 7 := by omega
        have hk6 : (k : Int) ≤ 6 := by omega
        have hq : (s.toList == (tx k).toList) = false := (isT_flip k s).trans (hp2.out k hlt)
        go_wp2_with (first | (go_at_call 16; (with_reducible refine (name_at _ hk7 _).mono ?_); rintro e u ⟨rfl, rfl⟩))
        go_round
        case rel => exact ⟨k + 1, hlt, by go_num⟩
        case measure => simp [intOf]; omega
      · obtain rfl : k = 7 := by omega
        go_wp2
        go_ret
        exact ⟨rfl, by assumption⟩

theorem tells_any (m : Int) (s : ByteArray) (W : World) (h : Lay W ∧ LaidT W) :
    Calls Tryd.prog 3 #[.int .i64 m, .string s] W (fun e w' => e = .returned (.bool true) ∧ Below W.heap.size W w') := by
  rcases Bool.eq_false_or_eq_true (decide (100 < s.size)) with hg | hg
  · have hL1 := Lib.hid h.1
    have hs0 := St.refl W
    have hg2 : decide ((100 : Int) < (s.size : Int)) = true := by rw [decide_eq_true_iff] at hg ⊢; omega
    clear h
    go_enter Tryd.func3, Tryd.ntmps3
    go_wp2_with ((go_at_call 8; (with_reducible refine (wakes_st hL1.out (by assumption)).mono ?_); rintro e u ⟨rfl, hs⟩))
    go_ret
    exact ⟨rfl, by assumption⟩
  · rcases Bool.eq_false_or_eq_true (isM m) with h1 | h1
    · obtain ⟨x, hx, rfl⟩ := isM_nat h1
      rcases pos s with hp | hp
      · exact tells_in1 x hx s W h.1 h.2 hg hp
      · exact tells_in0 x hx s W h.1 h.2 hg hp
    · rcases pos s with hp | hp
      · exact tells_out1 m h1 s W h.1 h.2 hg hp
      · exact tells_out0 m h1 s W h.1 h.2 hg hp

theorem tells_lifted (os : Os) (started : os.Started) (H : Type) (enc : TypeId × Value → H) :
    ReturnsInHanded {} Tryd.checked os 3 .any (fun w args => (Rows.modeTellsSpec.pre enc Tryd.prog Tryd.f3 [] false w args ∧ laidMetH Tryd.prog [("bursary/mode.goes", Rows.laid_bursary_mode_goes), ("bursary/mode.covers", Rows.laid_bursary_mode_covers), ("bursary/mode.texts", Rows.laid_bursary_mode_texts)] w) ∧ sizedMet enc Tryd.prog Tryd.f3 (OpenSpec.ofChange Rows.modeTellsSpec) false w args)
      (Rows.modeTellsSpec.post enc Tryd.prog Tryd.f3 false true false false) := by
  refine returnsInHanded_of_change_and (C := Tryd.checked) (X := fun w _ => laidMetH Tryd.prog [("bursary/mode.goes", Rows.laid_bursary_mode_goes), ("bursary/mode.covers", Rows.laid_bursary_mode_covers), ("bursary/mode.texts", Rows.laid_bursary_mode_texts)] w) (fun _ _ _ hh h => h.of_heap hh) own started (by kernel_rfl) Tryd.func3
    (ChangeSpec.witness_shaped (enc := enc) (C := Tryd.checked) (os := os) (X := fun w _ => laidMetH Tryd.prog [("bursary/mode.goes", Rows.laid_bursary_mode_goes), ("bursary/mode.covers", Rows.laid_bursary_mode_covers), ("bursary/mode.texts", Rows.laid_bursary_mode_texts)] w) false (World.doorLaid Tryd.prog 400 os) #[.int .i64 0, .string ⟨#[]⟩] 8 rfl (World.shaped_of_RefB (by kernel_rfl) (by kernel_rfl)) (by kernel_rfl) (by kernel_rfl) (by kernel_rfl) (door_met3 os _)) ?_
  intro W base args ds gs before hval0 hW _ _ hL _
  have hval : ∀ (j : Nat) t v, Tryd.f3.params[j]? = some t → args[j]? = some v → Value.okWide Tryd.prog W .any base t v := hval0
  have hW' := hW
  obtain ⟨p, q, hA0, hV, rfl, _, _⟩ := hW
  have hA : DataW.TrodAll enc Tryd.prog W 0 (fun _ => true) true Tryd.f3.params.toList args.toList ds p := hA0
  rw [Tryd.params3] at hA hval
  obtain ⟨v0, v1, d0, d1, q0, q1, rfl, rfl, rfl, h0, h1⟩ := trodAll_two hA
  obtain ⟨rfl, rfl⟩ := trodVars_none hV
  have hT := of_laid3 hL
  obtain ⟨k0, rfl⟩ := okWide_int Tryd.underlying3 (hval 0 3 v0 rfl rfl)
  obtain ⟨s1, rfl⟩ := okWide_string Tryd.underlying9 (hval 1 9 v1 rfl rfl)
  refine (tells_any k0 s1 W hT).mono fun e W' ⟨he, hb⟩ => ?_
  subst he
  exact ⟨_, rfl, law_post laidOut (of_decide_eq_true (by kernel_rfl)) rfl (by kernel_rfl) Tryd.underlying4 hW' ⟨rfl, rfl, rfl⟩ hb⟩

theorem tells_said : Rows.ModeTellsSaid :=
  OpenClaim.holds_of_wide 3 Tryd.f3 rfl rfl rfl rfl rfl rfl rfl ⟨rfl, rfl, rfl, rfl, rfl⟩ rfl rfl rfl rfl rfl (by kernel_rfl) Tryd.func3 (by kernel_rfl)
    (of_decide_eq_true (by kernel_rfl)) (by unfold Func.isWrapper; first | (rw [if_pos (by decide +kernel)]; kernel_rfl) | (rw [if_neg (by decide +kernel)]; exact ⟨rfl, rfl⟩))
    (fun os started H enc _ => tells_lifted os started H enc)

theorem tells_holds : Rows.ModeTellsCardSaid :=
  Claim7.holds_tied_plain_at .later [] [.wider, .wider, .data] true Rows.modeTellsCard.stood.harness false
    tells_said (fun _ h => by cases h) (by kernel_rfl) (fun _ h => by cases h) modeTells_row_tie rfl ⟨rfl, rfl⟩ (by kernel_rfl) rfl
    (fun f fn hf hfn => by
      obtain rfl : f = 3 := Option.some.inj ((show Tryd.prog.funcNamed "bursary/bursarylaw07.ModeTells" = some 3 by kernel_rfl).symm.trans hf) |>.symm
      obtain rfl : fn = Tryd.f3 := (Option.some.inj (Tryd.func3.symm.trans hfn)).symm
      exact ⟨by kernel_rfl, fun j t ht => by
        rw [Tryd.params3] at ht
        have hm : t ∈ [3, 9] := by simpa using Array.mem_of_getElem? ht
        have hall : ([3, 9].all fun u => !Tryd.prog.wantsStandIn u) = true := by kernel_rfl
        exact (show Tryd.prog.wantsStandIn t = false by simpa using List.all_eq_true.1 hall t hm)⟩)
    (by kernel_rfl)

end Go.Proofs.YtfplmflbkhanoaaDoor
