/- Kids compared; Same of codec. -/
import Derived.Test.YtaiepdhmlmnggaaKChk
namespace Go.Proofs.Ytaiepdhmlmnggaa
open Go.RowKit

def eqKid (a b : KidD) : Bool := (a.least.t == b.least.t && a.least.id == b.least.id) && a.page == b.page
theorem eqKid_iff {a b : KidD} : eqKid a b = true ↔ a = b := by
  obtain ⟨⟨at_, ai⟩, ap⟩ := a
  obtain ⟨⟨bt, bi⟩, bp⟩ := b
  unfold eqKid
  constructor
  · intro h
    simp at h
    obtain ⟨⟨h1, h2⟩, h3⟩ := h
    rw [h1, h2, h3]
  · intro h
    cases h
    simp
theorem run_kid (w : World) (a b c d e f : Int) : (Op.equalIn 10000 64 (.agg #[.int .i64 a, .int .u16 b, .int .i64 c]) (.agg #[.int .i64 d, .int .u16 e, .int .i64 f])).run Try.prog w = .ok (eqKid ⟨⟨a, b⟩, c⟩ ⟨⟨d, e⟩, f⟩) w := by
  have hS : Try.prog.underlying 64 = some (.struct (Try.prog.fieldsOf 64)) := by kernel_rfl
  have hp : Try.prog.stoodInHeld 64 = false := by kernel_rfl
  have u3 := Try.underlying3
  have a3 := Try.isAgg3
  have a5 := Try.isAgg28
  have z3 := Try.sizeOf3
  have z5 := Try.sizeOf28
  have hk := fun w => equal_key w a b d e
  rw [show (10000 : Nat) = 9999 + 1 from rfl, run_equalIn_agg w 9999 64 _ _ hS hp]
  simp only [Program.fieldsOf, Try.underlying64]
  clear hS hp
  unfold eqKid
  have hv : ∀ w : World, (Op.equalIn 9999 3 (.int .i64 c) (.int .i64 f)).run Try.prog w = .ok (c == f) w := fun w => run_equalIn_int w 9998 3 .i64 .i64 c f u3
  have x1 : (#[Value.int .i64 a, .int .u16 b, .int .i64 c].extract 0 2) = #[Value.int .i64 a, .int .u16 b] := rfl
  have x2 : (#[Value.int .i64 d, .int .u16 e, .int .i64 f].extract 0 2) = #[Value.int .i64 d, .int .u16 e] := rfl
  have t1 : (#[Value.int .i64 a, .int .u16 b, .int .i64 c])[2]? = some (.int .i64 c) := rfl
  have t2 : (#[Value.int .i64 d, .int .u16 e, .int .i64 f])[2]? = some (.int .i64 f) := rfl
  have n1 : ("Least" : String) ≠ "_" := by decide
  have n2 : ("Page" : String) ≠ "_" := by decide
  simp only [Op.eqFields, part, a5, z5, a3, hk, hv, x1, x2, t1, t2, if_pos n1, if_pos n2, Sem.run_bind, Sem.run_ite, Sem.run_pure, Result.andThen_ok, Nat.zero_add, Bool.false_eq_true, if_false, if_true]
  by_cases h1 : a = d <;> by_cases h2 : b = e <;> by_cases h3 : c = f <;> simp [h1, h2, h3]
theorem eq_kid (w : World) (a b c d e f : Int) : (binOp .eql 64 (.agg #[.int .i64 a, .int .u16 b, .int .i64 c]) (.agg #[.int .i64 d, .int .u16 e, .int .i64 f])).run Try.prog w = .ok (.bool (eqKid ⟨⟨a, b⟩, c⟩ ⟨⟨d, e⟩, f⟩)) w := by
  rw [run_eql_struct, run_kid]
  rfl
theorem neq_kid (w : World) (a b c d e f : Int) : (binOp .neq 64 (.agg #[.int .i64 a, .int .u16 b, .int .i64 c]) (.agg #[.int .i64 d, .int .u16 e, .int .i64 f])).run Try.prog w = .ok (.bool (!eqKid ⟨⟨a, b⟩, c⟩ ⟨⟨d, e⟩, f⟩)) w := by
  rw [run_neq_struct, run_kid]
  rfl
end Go.Proofs.Ytaiepdhmlmnggaa
