/- Plus of row and of the document. -/
import Derived.Test.YtkdkncbccofpdaaYFnd
namespace Go.Proofs.Ytkdkncbccofpdaa
open Go.RowKit

def fits (a b : Int) : Bool := decide (-9223372036854775808 ≤ a + b) && decide (a + b ≤ 9223372036854775807)
def plusN (a b : Int) : Int := if fits a b = true then a + b else 0
theorem fits_or (a b : Int) : (-9223372036854775808 ≤ a + b ∧ a + b ≤ 9223372036854775807 ∧ fits a b = true ∧ plusN a b = a + b) ∨ (9223372036854775807 < a + b ∧ fits a b = false ∧ plusN a b = 0) ∨ (a + b < -9223372036854775808 ∧ fits a b = false ∧ plusN a b = 0) := by
  unfold plusN fits
  by_cases h1 : -9223372036854775808 ≤ a + b
  · by_cases h2 : a + b ≤ 9223372036854775807
    · left; simp [h1, h2]
    · right; left; simp [h2]; omega
  · right; right; simp [h1]; omega

set_option maxHeartbeats 1000000 in
theorem plus_any (a b : Int) (w : World) (ha : -9223372036854775808 ≤ a ∧ a ≤ 9223372036854775807) (hb : -9223372036854775808 ≤ b ∧ b ≤ 9223372036854775807) :
    Calls Try.prog 32 #[.int .i64 a, .int .i64 b] w (fun e w' => e = .returned (.tuple #[.int .i64 (plusN a b), .bool (fits a b)]) ∧ Below w.heap.size w w') := by
  rcases fits_or a b with ⟨h1, h2, e1, e2⟩ | ⟨h1, e1, e2⟩ | ⟨h1, e1, e2⟩
  · rw [e1, e2]
    clear e1 e2
    have hw := IntWalk.i64_in (a + b) ⟨h1, h2⟩
    by_cases hp : 0 < b
    · have hq : a < a + b := by omega
      go_enter Try.func32, Try.ntmps32
      go_wp2
      go_ret2
      exact ⟨rfl, by go_grown⟩
    · have hq : ¬ a < a + b := by omega
      go_enter Try.func32, Try.ntmps32
      go_wp2
      go_ret2
      exact ⟨rfl, by go_grown⟩
  · rw [e1, e2]
    clear e1 e2
    have hw : IntKind.i64.wrap (a + b) = a + b - 18446744073709551616 := by rw [IntKind.wrap_i64]; omega
    have hq : ¬ a < a + b - 18446744073709551616 := by omega
    have hp : 0 < b := by omega
    go_enter Try.func32, Try.ntmps32
    go_wp2
    go_ret2
    exact ⟨rfl, by go_grown⟩
  · rw [e1, e2]
    clear e1 e2
    have hw : IntKind.i64.wrap (a + b) = a + b + 18446744073709551616 := by rw [IntKind.wrap_i64]; omega
    have hq : a < a + b + 18446744073709551616 := by omega
    have hp : ¬ 0 < b := by omega
    go_enter Try.func32, Try.ntmps32
    go_wp2
    go_ret2
    exact ⟨rfl, by go_grown⟩

set_option maxRecDepth 100000 in
set_option maxHeartbeats 1000000 in
theorem refPlus_any (a b : Int) (w : World) (ha : -9223372036854775808 ≤ a ∧ a ≤ 9223372036854775807) (hb : -9223372036854775808 ≤ b ∧ b ≤ 9223372036854775807) :
    Calls Try.prog 63 #[.int .i64 a, .int .i64 b] w (fun e w' => e = .returned (.tuple #[.int .i64 (plusN a b), .bool (fits a b)]) ∧ Below w.heap.size w w') := by
  rcases fits_or a b with ⟨h1, h2, e1, e2⟩ | ⟨h1, e1, e2⟩ | ⟨h1, e1, e2⟩
  · rw [e1, e2]
    clear e1 e2
    rcases Int.lt_trichotomy b 0 with hp | hp | hp
    · have hq : ¬ a < -9223372036854775808 - b := by omega
      have hp2 : ¬ 0 < b := by omega
      go_enter Try.func63, Try.ntmps63
      go_wp2
      go_ret2
      exact ⟨rfl, by go_grown⟩
    · subst hp
      rw [Int.add_zero]
      go_enter Try.func63, Try.ntmps63
      go_wp2
      go_ret2
      exact ⟨rfl, by go_grown⟩
    · have hq : ¬ 9223372036854775807 - b < a := by omega
      have hp2 : ¬ b < 0 := by omega
      go_enter Try.func63, Try.ntmps63
      go_wp2
      go_ret2
      exact ⟨rfl, by go_grown⟩
  · rw [e1, e2]
    clear e1 e2
    have hq : 9223372036854775807 - b < a := by omega
    have hp : 0 < b := by omega
    go_enter Try.func63, Try.ntmps63
    go_wp2
    go_ret2
    exact ⟨rfl, by go_grown⟩
  · rw [e1, e2]
    clear e1 e2
    have hq : a < -9223372036854775808 - b := by omega
    have hp : b < 0 := by omega
    have hp2 : ¬ 0 < b := by omega
    go_enter Try.func63, Try.ntmps63
    go_wp2
    go_ret2
    exact ⟨rfl, by go_grown⟩
end Go.Proofs.Ytkdkncbccofpdaa
