/- The document's Sup; wakes. -/
import Derived.Test.YtbgpppbcffpdbaaGreatDoorMRef
namespace Go.Proofs.YtbgpppbcffpdbaaGreatDoor
open Go.RowKit

def both (n a b : Int) : Bool := rcB n a && rcB n b
def lstK (a b m : Int) : Nat → Bool
  | 0 => both m a b
  | n + 1 => lstK a b m n && !(both n a b && !rcB n m)

set_option maxRecDepth 100000 in
set_option maxHeartbeats 2000000 in
theorem rsup_any (a b : Int) (j : Nat) (hj : j < 7) (w : World) (h1 : lstK a b j 7 = true) (h2 : ∀ i : Nat, i < j → lstK a b i 7 = false) :
    Calls Tryz.prog 79 #[.int .i64 a, .int .i64 b] w (fun e w' => e = .returned (.int .i64 j) ∧ w = w') := by
  have g1 := Lib.hid h1
  have g2 := Lib.hid h2
  clear h1 h2
  go_enter Tryz.func79, Tryz.ntmps79
  go_wp2
  go_loop [5] (fun v5 => ∃ m : Nat, m ≤ j ∧ v5 = .int .i64 m) (fun v5 => 7 - (intOf v5).toNat)
  case atStart => exact ⟨0, Nat.zero_le _, rfl⟩
  case round =>
    obtain ⟨m, hm, rfl⟩ := hrel
    have hm6 : (m : Int) ≤ 6 := by omega
    have hz : Hid (lstK a b m 0 = both m a b) := rfl
    obtain ⟨p, hp⟩ : ∃ p, rcB m a = p := ⟨_, rfl⟩
    obtain ⟨q, hq⟩ : ∃ q, rcB m b = q := ⟨_, rfl⟩
    have hz2 : Hid (lstK a b m 0 = (p && q)) := by rw [hz.out]; unfold both; rw [hp, hq]; exact rfl
    have ga := rc_any m a w
    have gb := rc_any m b w
    rw [hp] at ga
    rw [hq] at gb
    have ga1 := Lib.hid ga
    have gb1 := Lib.hid gb
    clear ga gb hp hq
    cases p <;> cases q
    all_goals
      go_wp2_with (first
        | (go_at_call 78; (with_reducible refine ga1.out.mono ?_); rintro e u1 ⟨rfl, rfl⟩)
        | (go_at_call 78; (with_reducible refine gb1.out.mono ?_); rintro e u1 ⟨rfl, rfl⟩))
      go_loop [6, 7] (fun v6 v7 => ∃ (n : Nat) (l : Bool), n ≤ 7 ∧ v7 = .int .i64 n ∧ v6 = .bool l ∧ Hid (lstK a b m n = l)) (fun _ v7 => 7 - (intOf v7).toNat)
      case atStart => exact ⟨0, _, Nat.zero_le _, rfl, rfl, hz2.out⟩
      case round =>
        obtain ⟨n, l, hn, rfl, rfl, hl⟩ := hrel
        by_cases hlt : n < 7
        · have hn6 : (n : Int) ≤ 6 := by omega
          have hs : Hid (lstK a b m (n + 1) = (lstK a b m n && !(both n a b && !rcB n m))) := rfl
          obtain ⟨x, hx⟩ : ∃ x, rcB n a = x := ⟨_, rfl⟩
          obtain ⟨y, hy⟩ : ∃ y, rcB n b = y := ⟨_, rfl⟩
          obtain ⟨z, hzz⟩ : ∃ z, rcB n m = z := ⟨_, rfl⟩
          have hs2 : Hid (lstK a b m (n + 1) = (l && !((x && y) && !z))) := by rw [hs.out]; unfold both; rw [hx, hy, hzz, hl.out]; exact rfl
          have k1 := rc_any n a w
          have k2 := rc_any n b w
          have k3 := rc_any n m w
          rw [hx] at k1
          rw [hy] at k2
          rw [hzz] at k3
          have e1 := Lib.hid k1
          have e2 := Lib.hid k2
          have e3 := Lib.hid k3
          clear k1 k2 k3 hx hy hzz hl
          cases x <;> cases y <;> cases z
          all_goals
            go_wp2_with (first
              | (go_at_call 78; (with_reducible refine e1.out.mono ?_); rintro e u1 ⟨rfl, rfl⟩)
              | (go_at_call 78; (with_reducible refine e2.out.mono ?_); rintro e u1 ⟨rfl, rfl⟩)
              | (go_at_call 78; (with_reducible refine e3.out.mono ?_); rintro e u1 ⟨rfl, rfl⟩))
            go_round
            case rel => exact ⟨n + 1, _, by omega, by go_num, rfl, by show _ = _; rw [hs2.out]; cases l <;> rfl⟩
            case measure => simp [intOf]; omega
        · obtain rfl : n = 7 := by omega
          by_cases hlm : m < j
          · obtain rfl : false = l := (g2.out m hlm).symm.trans hl.out
            go_wp2
            go_round
            case rel => exact ⟨m + 1, by omega, by go_num⟩
            case measure => simp [intOf]; omega
          · obtain rfl : j = m := by omega
            obtain rfl : true = l := g1.out.symm.trans hl.out
            go_wp2
            go_ret
            exact ⟨rfl, rfl⟩

end Go.Proofs.YtbgpppbcffpdbaaGreatDoor
