/- The document's own functions of the layer: Is, Name, Tables, Keys, pair, Goes, Covers, Sup. -/
import Derived.Test.YtbgpppbcffpdbaaGreatDoorMTxt
namespace Go.Proofs.YtbgpppbcffpdbaaGreatDoor
open Go.RowKit

theorem is_ok (m : Int) (w : World) (h : isM m = true) : Calls Tryz.prog 94 #[.int .i64 m] w (fun e w' => e = .returned (.bool true) ∧ w = w') := by
  have hn : 0 ≤ m ∧ m ≤ 6 := of_decide_eq_true h
  have d0 : decide (0 ≤ m) = true := decide_eq_true hn.1
  have d1 : decide (m ≤ 6) = true := decide_eq_true hn.2
  clear h hn
  go_enter Tryz.func94, Tryz.ntmps94
  go_wp2
  go_ret
  exact ⟨rfl, rfl⟩
theorem is_no (m : Int) (w : World) (h : isM m = false) : Calls Tryz.prog 94 #[.int .i64 m] w (fun e w' => e = .returned (.bool false) ∧ w = w') := by
  have hn : ¬ (0 ≤ m ∧ m ≤ 6) := of_decide_eq_false h
  clear h
  by_cases h0 : 0 ≤ m
  · have d0 : decide (0 ≤ m) = true := decide_eq_true h0
    have d1 : decide (m ≤ 6) = false := decide_eq_false (by omega)
    clear h0 hn
    go_enter Tryz.func94, Tryz.ntmps94
    go_wp2
    go_ret
    exact ⟨rfl, rfl⟩
  · have d0 : decide (0 ≤ m) = false := decide_eq_false h0
    clear h0 hn
    go_enter Tryz.func94, Tryz.ntmps94
    go_wp2
    go_ret
    exact ⟨rfl, rfl⟩

theorem out_of {m : Int} (h : isM m = false) : (m == 0) = false ∧ (m == 1) = false ∧ (m == 2) = false ∧ (m == 3) = false ∧ (m == 4) = false ∧ (m == 5) = false ∧ (m == 6) = false := by
  have hn : ¬ (0 ≤ m ∧ m ≤ 6) := of_decide_eq_false h
  refine ⟨?_, ?_, ?_, ?_, ?_, ?_, ?_⟩ <;> (rw [beq_eq_false_iff_ne]; omega)

theorem rtab_any (m : Int) (w : World) : Calls Tryz.prog 118 #[.int .i64 m] w (fun e w' => e = .returned (.bool (ofT m)) ∧ w = w') := by
  rcases Bool.eq_false_or_eq_true (isM m) with h | h
  · obtain ⟨x, hx, rfl⟩ := isM_nat h
    clear h
    rcases seven hx with rfl | rfl | rfl | rfl | rfl | rfl | rfl
    all_goals
      go_enter Tryz.func118, Tryz.ntmps118
      go_wp2_with (go_at_call 94; refine (is_ok _ _ (by decide)).mono ?_; rintro e u1 ⟨rfl, rfl⟩)
      go_ret
      exact ⟨rfl, rfl⟩
  · have e : ofT m = false := by unfold ofT; rw [h]; rfl
    rw [e]
    have g := Lib.hid h
    clear h e
    go_enter Tryz.func118, Tryz.ntmps118
    go_wp2_with (go_at_call 94; refine (is_no _ _ g.out).mono ?_; rintro e u1 ⟨rfl, rfl⟩)
    go_ret
    exact ⟨rfl, rfl⟩
theorem rkey_any (m : Int) (w : World) : Calls Tryz.prog 117 #[.int .i64 m] w (fun e w' => e = .returned (.bool (ofK m)) ∧ w = w') := by
  rcases Bool.eq_false_or_eq_true (isM m) with h | h
  · obtain ⟨x, hx, rfl⟩ := isM_nat h
    clear h
    rcases seven hx with rfl | rfl | rfl | rfl | rfl | rfl | rfl
    all_goals
      go_enter Tryz.func117, Tryz.ntmps117
      go_wp2
      go_ret
      exact ⟨rfl, rfl⟩
  · have e : ofK m = false := by unfold ofK; rw [h]; rfl
    rw [e]
    obtain ⟨h0, h1, h2, h3, h4, h5, h6⟩ := out_of h
    clear h e h1 h2 h4
    go_enter Tryz.func117, Tryz.ntmps117
    go_wp2
    go_ret
    exact ⟨rfl, rfl⟩

def pr (a b x y : Int) : Bool := a == x && b == y || a == y && b == x

theorem pair_any (a b x y : Int) (w : World) (z : Bool) (hz : pr a b x y = z) : Calls Tryz.prog 95 #[.int .i64 a, .int .i64 b, .int .i64 x, .int .i64 y] w (fun e w' => e = .returned (.bool z) ∧ w = w') := by
  unfold pr at hz
  obtain ⟨p, hp⟩ : ∃ p, (a == x) = p := ⟨_, rfl⟩
  obtain ⟨q, hq⟩ : ∃ q, (b == y) = q := ⟨_, rfl⟩
  obtain ⟨r, hr⟩ : ∃ r, (a == y) = r := ⟨_, rfl⟩
  obtain ⟨s, hs⟩ : ∃ s, (b == x) = s := ⟨_, rfl⟩
  rw [hp, hq, hr, hs] at hz
  subst hz
  cases p <;> cases q <;> cases r <;> cases s
  all_goals
    go_enter Tryz.func95, Tryz.ntmps95
    go_wp2
    go_ret
    exact ⟨rfl, rfl⟩

/-- which go together, and which cover which, by the document's words -/
def rgB (a b : Int) : Bool := isM a && isM b && (a == 0 || b == 0 || pr a b 1 1 || pr a b 1 2 || pr a b 1 3 || pr a b 1 4 || pr a b 2 2 || pr a b 3 3 || pr a b 6 6)
def rcB (a b : Int) : Bool := isM a && isM b && (a == b || b == 0 || a == 5 || b == 1 && (a == 2 || a == 3 || a == 4) || a == 4 && (b == 2 || b == 3))

set_option maxHeartbeats 2000000 in
theorem rg0 (y : Nat) (hy : y < 7) (w : World) : Calls Tryz.prog 52 #[.int .i64 0, .int .i64 y] w (fun e w' => e = .returned (.bool (rgB 0 y)) ∧ w = w') := by
  rcases seven hy with rfl | rfl | rfl | rfl | rfl | rfl | rfl
  all_goals
    go_enter Tryz.func52, Tryz.ntmps52
    go_wp2_with (first | (go_at_call 94; refine (is_ok _ _ (by decide)).mono ?_; rintro e u1 ⟨rfl, rfl⟩) | (go_at_call 95; refine (pair_any _ _ _ _ _ true (by decide)).mono ?_; rintro e u1 ⟨rfl, rfl⟩) | (go_at_call 95; refine (pair_any _ _ _ _ _ false (by decide)).mono ?_; rintro e u1 ⟨rfl, rfl⟩))
    go_ret
    exact ⟨rfl, rfl⟩

set_option maxHeartbeats 2000000 in
theorem rc0 (y : Nat) (hy : y < 7) (w : World) : Calls Tryz.prog 78 #[.int .i64 0, .int .i64 y] w (fun e w' => e = .returned (.bool (rcB 0 y)) ∧ w = w') := by
  rcases seven hy with rfl | rfl | rfl | rfl | rfl | rfl | rfl
  all_goals
    go_enter Tryz.func78, Tryz.ntmps78
    go_wp2_with ((go_at_call 94; refine (is_ok _ _ (by decide)).mono ?_; rintro e u1 ⟨rfl, rfl⟩))
    go_ret
    exact ⟨rfl, rfl⟩

set_option maxHeartbeats 2000000 in
theorem rg1 (y : Nat) (hy : y < 7) (w : World) : Calls Tryz.prog 52 #[.int .i64 1, .int .i64 y] w (fun e w' => e = .returned (.bool (rgB 1 y)) ∧ w = w') := by
  rcases seven hy with rfl | rfl | rfl | rfl | rfl | rfl | rfl
  all_goals
    go_enter Tryz.func52, Tryz.ntmps52
    go_wp2_with (first | (go_at_call 94; refine (is_ok _ _ (by decide)).mono ?_; rintro e u1 ⟨rfl, rfl⟩) | (go_at_call 95; refine (pair_any _ _ _ _ _ true (by decide)).mono ?_; rintro e u1 ⟨rfl, rfl⟩) | (go_at_call 95; refine (pair_any _ _ _ _ _ false (by decide)).mono ?_; rintro e u1 ⟨rfl, rfl⟩))
    go_ret
    exact ⟨rfl, rfl⟩

set_option maxHeartbeats 2000000 in
theorem rc1 (y : Nat) (hy : y < 7) (w : World) : Calls Tryz.prog 78 #[.int .i64 1, .int .i64 y] w (fun e w' => e = .returned (.bool (rcB 1 y)) ∧ w = w') := by
  rcases seven hy with rfl | rfl | rfl | rfl | rfl | rfl | rfl
  all_goals
    go_enter Tryz.func78, Tryz.ntmps78
    go_wp2_with ((go_at_call 94; refine (is_ok _ _ (by decide)).mono ?_; rintro e u1 ⟨rfl, rfl⟩))
    go_ret
    exact ⟨rfl, rfl⟩

set_option maxHeartbeats 2000000 in
theorem rg2 (y : Nat) (hy : y < 7) (w : World) : Calls Tryz.prog 52 #[.int .i64 2, .int .i64 y] w (fun e w' => e = .returned (.bool (rgB 2 y)) ∧ w = w') := by
  rcases seven hy with rfl | rfl | rfl | rfl | rfl | rfl | rfl
  all_goals
    go_enter Tryz.func52, Tryz.ntmps52
    go_wp2_with (first | (go_at_call 94; refine (is_ok _ _ (by decide)).mono ?_; rintro e u1 ⟨rfl, rfl⟩) | (go_at_call 95; refine (pair_any _ _ _ _ _ true (by decide)).mono ?_; rintro e u1 ⟨rfl, rfl⟩) | (go_at_call 95; refine (pair_any _ _ _ _ _ false (by decide)).mono ?_; rintro e u1 ⟨rfl, rfl⟩))
    go_ret
    exact ⟨rfl, rfl⟩

set_option maxHeartbeats 2000000 in
theorem rc2 (y : Nat) (hy : y < 7) (w : World) : Calls Tryz.prog 78 #[.int .i64 2, .int .i64 y] w (fun e w' => e = .returned (.bool (rcB 2 y)) ∧ w = w') := by
  rcases seven hy with rfl | rfl | rfl | rfl | rfl | rfl | rfl
  all_goals
    go_enter Tryz.func78, Tryz.ntmps78
    go_wp2_with ((go_at_call 94; refine (is_ok _ _ (by decide)).mono ?_; rintro e u1 ⟨rfl, rfl⟩))
    go_ret
    exact ⟨rfl, rfl⟩

set_option maxHeartbeats 2000000 in
theorem rg3 (y : Nat) (hy : y < 7) (w : World) : Calls Tryz.prog 52 #[.int .i64 3, .int .i64 y] w (fun e w' => e = .returned (.bool (rgB 3 y)) ∧ w = w') := by
  rcases seven hy with rfl | rfl | rfl | rfl | rfl | rfl | rfl
  all_goals
    go_enter Tryz.func52, Tryz.ntmps52
    go_wp2_with (first | (go_at_call 94; refine (is_ok _ _ (by decide)).mono ?_; rintro e u1 ⟨rfl, rfl⟩) | (go_at_call 95; refine (pair_any _ _ _ _ _ true (by decide)).mono ?_; rintro e u1 ⟨rfl, rfl⟩) | (go_at_call 95; refine (pair_any _ _ _ _ _ false (by decide)).mono ?_; rintro e u1 ⟨rfl, rfl⟩))
    go_ret
    exact ⟨rfl, rfl⟩

set_option maxHeartbeats 2000000 in
theorem rc3 (y : Nat) (hy : y < 7) (w : World) : Calls Tryz.prog 78 #[.int .i64 3, .int .i64 y] w (fun e w' => e = .returned (.bool (rcB 3 y)) ∧ w = w') := by
  rcases seven hy with rfl | rfl | rfl | rfl | rfl | rfl | rfl
  all_goals
    go_enter Tryz.func78, Tryz.ntmps78
    go_wp2_with ((go_at_call 94; refine (is_ok _ _ (by decide)).mono ?_; rintro e u1 ⟨rfl, rfl⟩))
    go_ret
    exact ⟨rfl, rfl⟩

set_option maxHeartbeats 2000000 in
theorem rg4 (y : Nat) (hy : y < 7) (w : World) : Calls Tryz.prog 52 #[.int .i64 4, .int .i64 y] w (fun e w' => e = .returned (.bool (rgB 4 y)) ∧ w = w') := by
  rcases seven hy with rfl | rfl | rfl | rfl | rfl | rfl | rfl
  all_goals
    go_enter Tryz.func52, Tryz.ntmps52
    go_wp2_with (first | (go_at_call 94; refine (is_ok _ _ (by decide)).mono ?_; rintro e u1 ⟨rfl, rfl⟩) | (go_at_call 95; refine (pair_any _ _ _ _ _ true (by decide)).mono ?_; rintro e u1 ⟨rfl, rfl⟩) | (go_at_call 95; refine (pair_any _ _ _ _ _ false (by decide)).mono ?_; rintro e u1 ⟨rfl, rfl⟩))
    go_ret
    exact ⟨rfl, rfl⟩

set_option maxHeartbeats 2000000 in
theorem rc4 (y : Nat) (hy : y < 7) (w : World) : Calls Tryz.prog 78 #[.int .i64 4, .int .i64 y] w (fun e w' => e = .returned (.bool (rcB 4 y)) ∧ w = w') := by
  rcases seven hy with rfl | rfl | rfl | rfl | rfl | rfl | rfl
  all_goals
    go_enter Tryz.func78, Tryz.ntmps78
    go_wp2_with ((go_at_call 94; refine (is_ok _ _ (by decide)).mono ?_; rintro e u1 ⟨rfl, rfl⟩))
    go_ret
    exact ⟨rfl, rfl⟩

set_option maxHeartbeats 2000000 in
theorem rg5 (y : Nat) (hy : y < 7) (w : World) : Calls Tryz.prog 52 #[.int .i64 5, .int .i64 y] w (fun e w' => e = .returned (.bool (rgB 5 y)) ∧ w = w') := by
  rcases seven hy with rfl | rfl | rfl | rfl | rfl | rfl | rfl
  all_goals
    go_enter Tryz.func52, Tryz.ntmps52
    go_wp2_with (first | (go_at_call 94; refine (is_ok _ _ (by decide)).mono ?_; rintro e u1 ⟨rfl, rfl⟩) | (go_at_call 95; refine (pair_any _ _ _ _ _ true (by decide)).mono ?_; rintro e u1 ⟨rfl, rfl⟩) | (go_at_call 95; refine (pair_any _ _ _ _ _ false (by decide)).mono ?_; rintro e u1 ⟨rfl, rfl⟩))
    go_ret
    exact ⟨rfl, rfl⟩

set_option maxHeartbeats 2000000 in
theorem rc5 (y : Nat) (hy : y < 7) (w : World) : Calls Tryz.prog 78 #[.int .i64 5, .int .i64 y] w (fun e w' => e = .returned (.bool (rcB 5 y)) ∧ w = w') := by
  rcases seven hy with rfl | rfl | rfl | rfl | rfl | rfl | rfl
  all_goals
    go_enter Tryz.func78, Tryz.ntmps78
    go_wp2_with ((go_at_call 94; refine (is_ok _ _ (by decide)).mono ?_; rintro e u1 ⟨rfl, rfl⟩))
    go_ret
    exact ⟨rfl, rfl⟩

set_option maxHeartbeats 2000000 in
theorem rg6 (y : Nat) (hy : y < 7) (w : World) : Calls Tryz.prog 52 #[.int .i64 6, .int .i64 y] w (fun e w' => e = .returned (.bool (rgB 6 y)) ∧ w = w') := by
  rcases seven hy with rfl | rfl | rfl | rfl | rfl | rfl | rfl
  all_goals
    go_enter Tryz.func52, Tryz.ntmps52
    go_wp2_with (first | (go_at_call 94; refine (is_ok _ _ (by decide)).mono ?_; rintro e u1 ⟨rfl, rfl⟩) | (go_at_call 95; refine (pair_any _ _ _ _ _ true (by decide)).mono ?_; rintro e u1 ⟨rfl, rfl⟩) | (go_at_call 95; refine (pair_any _ _ _ _ _ false (by decide)).mono ?_; rintro e u1 ⟨rfl, rfl⟩))
    go_ret
    exact ⟨rfl, rfl⟩

set_option maxHeartbeats 2000000 in
theorem rc6 (y : Nat) (hy : y < 7) (w : World) : Calls Tryz.prog 78 #[.int .i64 6, .int .i64 y] w (fun e w' => e = .returned (.bool (rcB 6 y)) ∧ w = w') := by
  rcases seven hy with rfl | rfl | rfl | rfl | rfl | rfl | rfl
  all_goals
    go_enter Tryz.func78, Tryz.ntmps78
    go_wp2_with ((go_at_call 94; refine (is_ok _ _ (by decide)).mono ?_; rintro e u1 ⟨rfl, rfl⟩))
    go_ret
    exact ⟨rfl, rfl⟩

theorem rg_any (a b : Int) (w : World) : Calls Tryz.prog 52 #[.int .i64 a, .int .i64 b] w (fun e w' => e = .returned (.bool (rgB a b)) ∧ w = w') := by
  rcases Bool.eq_false_or_eq_true (isM a) with ha | ha
  · rcases Bool.eq_false_or_eq_true (isM b) with hb | hb
    · obtain ⟨x, hx, rfl⟩ := isM_nat ha
      obtain ⟨y, hy, rfl⟩ := isM_nat hb
      rcases seven hx with rfl | rfl | rfl | rfl | rfl | rfl | rfl
      · exact rg0 y hy w
      · exact rg1 y hy w
      · exact rg2 y hy w
      · exact rg3 y hy w
      · exact rg4 y hy w
      · exact rg5 y hy w
      · exact rg6 y hy w
    · have e : rgB a b = false := by unfold rgB; rw [ha, hb]; rfl
      rw [e]
      have ga := Lib.hid (is_ok a w ha)
      have gb := Lib.hid (is_no b w hb)
      clear ha hb e
      go_enter Tryz.func52, Tryz.ntmps52
      go_wp2_with fail
      refine ga.out.mono ?_
      rintro e u1 ⟨rfl, rfl⟩
      go_wp2_with fail
      refine gb.out.mono ?_
      rintro e u2 ⟨rfl, rfl⟩
      go_wp2
      go_ret
      exact ⟨rfl, rfl⟩
  · have e : rgB a b = false := by unfold rgB; rw [ha]; rfl
    rw [e]
    have ga := Lib.hid (is_no a w ha)
    clear ha e
    go_enter Tryz.func52, Tryz.ntmps52
    go_wp2_with fail
    refine ga.out.mono ?_
    rintro e u1 ⟨rfl, rfl⟩
    go_wp2
    go_ret
    exact ⟨rfl, rfl⟩

theorem rc_any (a b : Int) (w : World) : Calls Tryz.prog 78 #[.int .i64 a, .int .i64 b] w (fun e w' => e = .returned (.bool (rcB a b)) ∧ w = w') := by
  rcases Bool.eq_false_or_eq_true (isM a) with ha | ha
  · rcases Bool.eq_false_or_eq_true (isM b) with hb | hb
    · obtain ⟨x, hx, rfl⟩ := isM_nat ha
      obtain ⟨y, hy, rfl⟩ := isM_nat hb
      rcases seven hx with rfl | rfl | rfl | rfl | rfl | rfl | rfl
      · exact rc0 y hy w
      · exact rc1 y hy w
      · exact rc2 y hy w
      · exact rc3 y hy w
      · exact rc4 y hy w
      · exact rc5 y hy w
      · exact rc6 y hy w
    · have e : rcB a b = false := by unfold rcB; rw [ha, hb]; rfl
      rw [e]
      have ga := Lib.hid (is_ok a w ha)
      have gb := Lib.hid (is_no b w hb)
      clear ha hb e
      go_enter Tryz.func78, Tryz.ntmps78
      go_wp2_with fail
      refine ga.out.mono ?_
      rintro e u1 ⟨rfl, rfl⟩
      go_wp2_with fail
      refine gb.out.mono ?_
      rintro e u2 ⟨rfl, rfl⟩
      go_wp2
      go_ret
      exact ⟨rfl, rfl⟩
  · have e : rcB a b = false := by unfold rcB; rw [ha]; rfl
    rw [e]
    have ga := Lib.hid (is_no a w ha)
    clear ha e
    go_enter Tryz.func78, Tryz.ntmps78
    go_wp2_with fail
    refine ga.out.mono ?_
    rintro e u1 ⟨rfl, rfl⟩
    go_wp2
    go_ret
    exact ⟨rfl, rfl⟩

end Go.Proofs.YtbgpppbcffpdbaaGreatDoor
