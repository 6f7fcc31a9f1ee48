/- Check of row, and the document's Right: which schemas may be. -/
import Derived.Test.YtaiepdhmlmnggaaYCmp
namespace Go.Proofs.Ytaiepdhmlmnggaa
open Go.RowKit

def okS (bs : List BdD) : Bool := decide (1 ≤ bs.length) && (decide (bs.length ≤ 3) && bs.all fun b => decide (b.lo ≤ b.hi))
def schE (bs : List BdD) : Int := if okS bs = true then 0 else 150
theorem okS_iff (bs : List BdD) : okS bs = true ↔ 1 ≤ bs.length ∧ bs.length ≤ 3 ∧ ∀ (i : Nat) (b : BdD), bs[i]? = some b → b.lo ≤ b.hi := by
  unfold okS
  simp only [Bool.and_eq_true, decide_eq_true_eq, List.all_eq_true]
  constructor
  · rintro ⟨h1, h2, h3⟩
    exact ⟨h1, h2, fun i b hb => h3 b (List.mem_of_getElem? hb)⟩
  · rintro ⟨h1, h2, h3⟩
    refine ⟨h1, h2, fun b hb => ?_⟩
    obtain ⟨i, hi⟩ := List.mem_iff_getElem?.1 hb
    exact h3 i b hi
theorem schE_no {bs : List BdD} (h : ¬ okS bs = true) : schE bs = 150 := if_neg h
theorem schE_ok {bs : List BdD} (h : okS bs = true) : schE bs = 0 := if_pos h
theorem sizeRow (t id v : Int) (s : ByteArray) : (Try.prog.info? 30).map (·.size) = some [Value.int .i64 t, Value.int .u16 id, Value.int .i64 v, Value.string s].length := by kernel_rfl
theorem sizeKey (t id : Int) : (Try.prog.info? 28).map (·.size) = some [Value.int .i64 t, Value.int .u16 id].length := by kernel_rfl

def ChkRel (w wr : World) (bs : List BdD) (k : Nat) : Prop := Below w.heap.size w wr ∧ ∀ (i : Nat) (b : BdD), i < k → bs[i]? = some b → b.lo ≤ b.hi

end Go.Proofs.Ytaiepdhmlmnggaa
