/- The document's answers on rows: Compare, Right, KeyError, RowError, RightList. -/
import Derived.Test.YtaiepdhmlmnggaaYSam
namespace Go.Proofs.Ytaiepdhmlmnggaa
open Go.RowKit

theorem eq_keyY (w : World) (a b c d : Int) : (binOp .eql 28 (.agg #[.int .i64 a, .int .u16 b]) (.agg #[.int .i64 c, .int .u16 d])).run Try.prog w = .ok (.bool (eqK ⟨a, b⟩ ⟨c, d⟩)) w := by
  rw [run_eql_struct]
  have hS : Try.prog.underlying 28 = some (.struct (Try.prog.fieldsOf 28)) := by kernel_rfl
  have hp : Try.prog.stoodInHeld 28 = false := by kernel_rfl
  have u3 := Try.underlying3
  have u4 := Try.underlying26
  have a3 := Try.isAgg3
  have a4 := Try.isAgg26
  have z3 := Try.sizeOf3
  have z4 := Try.sizeOf26
  rw [show (10000 : Nat) = 9999 + 1 from rfl, run_equalIn_agg w 9999 28 _ _ hS hp]
  simp only [Program.fieldsOf, Try.underlying28]
  clear hS hp
  unfold eqK
  go_simp
  by_cases h1 : a = c <;> by_cases h2 : b = d <;> simp [h1, h2]

set_option maxRecDepth 100000 in
set_option maxHeartbeats 1000000 in
theorem refCompare_any (a b : Int) (c d : Int) (w : World) : Calls Try.prog 74 #[.agg #[.int .i64 a, .int .u16 b], .agg #[.int .i64 c, .int .u16 d]] w (fun e w' => e = .returned (.int .i64 (cmpK ⟨a, b⟩ ⟨c, d⟩)) ∧ Below w.heap.size w w') := by
  have heq := fun u => eq_keyY u a b c d
  have hb : Hid (Below w.heap.size w ((w.alloc (.cells #[.int .i64 a, .int .u16 b] 28)).alloc (.cells #[.int .i64 c, .int .u16 d] 28))) := ((Below.refl _ _).alloc (Nat.le_refl _) _).alloc (by simp) _
  rcases cmpK_cases ⟨a, b⟩ ⟨c, d⟩ with ⟨h1, e⟩ | ⟨h1, e⟩ | ⟨h1, ⟨h2, e⟩ | ⟨h2, e⟩ | ⟨h2, e⟩⟩
  · have h1' : a < c := h1
    rw [show eqK ⟨a, b⟩ ⟨c, d⟩ = false by rw [eqK_cmp, e]; rfl] at heq
    rw [e]
    clear e h1
    go_enter Try.func74, Try.ntmps74
    go_wp2
    go_ret
    exact ⟨rfl, hb.out⟩
  · have h1' : ¬ a < c := by have : c < a := h1; omega
    have h2' : ¬ a = c := by have : c < a := h1; omega
    rw [show eqK ⟨a, b⟩ ⟨c, d⟩ = false by rw [eqK_cmp, e]; rfl] at heq
    rw [e]
    clear e h1
    go_enter Try.func74, Try.ntmps74
    go_wp2
    go_ret
    exact ⟨rfl, hb.out⟩
  · obtain rfl : a = c := h1
    have h1' : b < d := h2
    rw [show eqK ⟨a, b⟩ ⟨a, d⟩ = false by rw [eqK_cmp, e]; rfl] at heq
    rw [e]
    clear e h2
    go_enter Try.func74, Try.ntmps74
    go_wp2
    go_ret
    exact ⟨rfl, hb.out⟩
  · obtain rfl : a = c := h1
    have h1' : ¬ b < d := by have : d < b := h2; omega
    rw [show eqK ⟨a, b⟩ ⟨a, d⟩ = false by rw [eqK_cmp, e]; rfl] at heq
    rw [e]
    clear e h2
    go_enter Try.func74, Try.ntmps74
    go_wp2
    go_ret
    exact ⟨rfl, hb.out⟩
  · obtain rfl : a = c := h1
    obtain rfl : b = d := h2
    rw [show eqK ⟨a, b⟩ ⟨a, b⟩ = true by rw [eqK_cmp, e]; rfl] at heq
    rw [e]
    clear e
    go_enter Try.func74, Try.ntmps74
    go_wp2
    go_ret
    exact ⟨rfl, hb.out⟩

end Go.Proofs.Ytaiepdhmlmnggaa
