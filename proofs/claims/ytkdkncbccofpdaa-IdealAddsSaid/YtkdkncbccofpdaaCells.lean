/- Blocks known whole, and values of several cells in them: load and store at any place, as laws for the walk; nothing of a program is claimed here. -/
import Derived.Test.YtkdkncbccofpdaaRows
import Derived.WalkKit
import Derived.Laws.CopyOwn
import Derived.Lib.Hide
namespace Go.Proofs.Ytkdkncbccofpdaa
open Go.RowKit

/-- The block g holds just these cells (and may be written). -/
def RowV (T : TypeId) (w : World) (g : Nat) (cs : List Value) : Prop := w.heap[g]? = some (.cells cs.toArray T (0, 0))

theorem RowV.cell {T : TypeId} {w : World} {g : Nat} {cs : List Value} (h : RowV T w g cs) (j : Nat) : w.cell? ⟨g, j, none⟩ = cs[j]? := by
  unfold RowV at h
  rw [cell_of_row w g j _ T (0, 0) h]
  simp
theorem RowV.free {T : TypeId} {w : World} {g : Nat} {cs : List Value} (h : RowV T w g cs) (j : Nat) : w.frozen? ⟨g, j, none⟩ = false := frozen_of_row w g j _ T h
theorem RowV.lt {T : TypeId} {w : World} {g : Nat} {cs : List Value} (h : RowV T w g cs) : g < w.heap.size := (Array.getElem?_eq_some_iff.1 h).1
theorem RowV.block {T : TypeId} {w w' : World} {g : Nat} {cs : List Value} (h : RowV T w g cs) (hb : w'.heap[g]? = w.heap[g]?) : RowV T w' g cs := by
  unfold RowV at *; rw [hb]; exact h
theorem RowV.below {T : TypeId} {w w' : World} {g : Nat} {cs : List Value} (h : RowV T w g cs) (hb : Below w.heap.size w w') : RowV T w' g cs := h.block (hb.block g h.lt)
theorem RowV.kept {T : TypeId} {w w' : World} {g k : Nat} {cs : List Value} (h : RowV T w g cs) (hg : w.grownBy w' (some k)) (hne : g ≠ k) : RowV T w' g cs := h.block (hg.block g h.lt (by simpa using hne))
theorem RowV.made {T : TypeId} (w : World) (cs : List Value) : RowV T (w.alloc (.cells cs.toArray T)) w.heap.size cs := heap_alloc_new _ _
theorem RowV.set {T : TypeId} {w : World} {g : Nat} {cs : List Value} (h : RowV T w g cs) (j : Nat) (v : Value) : RowV T (w.setCell ⟨g, j, none⟩ v) g (cs.set j v) := by
  have := heap_setCell_same w g j _ T v h
  unfold RowV
  rw [this]
  simp

theorem setCell_grown (w : World) (g j : Nat) (v : Value) : w.grownBy (w.setCell ⟨g, j, none⟩ v) (some g) :=
  ⟨rfl, rfl, rfl, by simp [World.setCell], fun i _ hne => Below.heap_setCell _ _ _ _ (fun e => hne (by rw [e]))⟩
theorem setRow_grown (w : World) (g : Nat) (cs : Array Value) : w.grownBy (w.setRow g cs) (some g) :=
  ⟨rfl, rfl, rfl, by simp, fun i _ hne => setRow_other w g i cs (by simpa using hne)⟩

theorem grown_trans {a b c : World} {g : Nat} (h : a.grownBy b (some g)) (k : b.grownBy c (some g)) : a.grownBy c (some g) :=
  ⟨k.os.trans h.os, k.tape.trans h.tape, k.output.trans h.output, Nat.le_trans h.size k.size, fun i hi hn => (k.block i (Nat.lt_of_lt_of_le hi h.size) hn).trans (h.block i hi hn)⟩
theorem grown_below {a b c : World} {r : Option Nat} (h : a.grownBy b r) (k : Below b.heap.size b c) : a.grownBy c r :=
  ⟨k.os.trans h.os, k.tape.trans h.tape, k.output.trans h.output, Nat.le_trans h.size k.size, fun i hi hn => (k.block i (Nat.lt_of_lt_of_le hi h.size)).trans (h.block i hi hn)⟩
theorem below_grown {a b : World} (h : Below a.heap.size a b) (r : Option Nat) : a.grownBy b r := ⟨h.os, h.tape, h.output, h.size, fun i hi _ => h.block i hi⟩

section
variable {P : Program} {w : World}

theorem agg_run {ty : TypeId} {d : TypeDesc} (hu : P.underlying ty = some d) (hd : (match d with | .struct _ | .array _ _ => true | _ => false) = true) : (isAgg ty).run P w = .ok true w := by
  unfold isAgg
  rw [Sem.run_bind, run_underlying hu w]
  cases d <;> simp_all

/-- a value of several cells, loaded from wherever they lie -/
theorem run_loadVar_at {ty : TypeId} {d : TypeDesc} (hu : P.underlying ty = some d) (hd : (match d with | .struct _ | .array _ _ => true | _ => false) = true) {vs : List Value} (hi : (P.info? ty).map (·.size) = some vs.length) (ad : Addr)
    (hc : ∀ j v, vs[j]? = some v → w.cell? (ad.add j) = some v) : (loadVar ty ad).run P w = .ok (.agg vs.toArray) w := by
  have hl := run_loadCells_list (P := P) w ad vs hc
  cases hq : P.info? ty with
  | none => simp [hq] at hi
  | some i =>
    have hs : i.size = vs.length := by simpa [hq] using hi
    simp [loadVar, Sem.run_bind, agg_run hu hd, sizeOf, typeInfo, hq, hs, hl]

theorem wpList_load_at {ops : Array Oper} {rest : List Oper} {o : Oper} {a : Act} {Q : Exit → Act → World → Prop} (hgd : o.guard = none) (ty : TypeId) (x : Operand) (ho : o.op = .load ty x) {d : TypeDesc} (hu : P.underlying ty = some d)
    (hd : (match d with | .struct _ | .array _ _ => true | _ => false) = true) {vs : List Value} (hi : (P.info? ty).map (·.size) = some vs.length) {ad : Addr} (hx : a.eval x = .pointer (some ad))
    (hc : ∀ j v, vs[j]? = some v → w.cell? (ad.add j) = some v) (h : wpList P ops Q rest (a.put o.dst (.agg vs.toArray)) w) : wpList P ops Q (o :: rest) a w := by
  refine wpList_plain hgd fun K hK => ?_
  unfold Oper.wp execOp
  simp only [ho, hx, Instr.loadAt, Instr.sureAddr, Sem.run_bind, Sem.run_pure, Result.andThen_ok, run_loadVar_at hu hd hi ad hc]
  exact hK _ _ h

theorem RowV.part {T : TypeId} {g o : Nat} {cs vs rest pre : List Value} (h : RowV T w g cs) (he : cs = pre ++ (vs ++ rest)) (ho : pre.length = o) : ∀ j v, vs[j]? = some v → w.cell? ((⟨g, o, none⟩ : Addr).add j) = some v := by
  intro j v hj
  have hadd : (⟨g, o, none⟩ : Addr).add j = ⟨g, o + j, none⟩ := by unfold Addr.add; split <;> simp_all
  have hl : j < vs.length := (List.getElem?_eq_some_iff.1 hj).1
  rw [hadd, h.cell, he, List.getElem?_append_right (by omega), ho, Nat.add_sub_cancel_left, List.getElem?_append_left hl, hj]

/-- a value of several cells, stored into a block that is known whole -/
theorem run_storeVar_at {T ty : TypeId} {g o : Nat} {cs vs : List Value} (h : RowV T w g cs) (hi : (P.info? ty).map (·.size) = some vs.length) (hfit : o + vs.length ≤ cs.length) (h1 : ∀ v ∈ vs, v.oneCell' = true) :
    ∃ w', (storeVar ty ⟨g, o, none⟩ (.agg vs.toArray)).run P w = .ok () w' ∧ RowV T w' g (splice cs o vs) ∧ w.grownBy w' (some g) := by
  have hst := run_storeCells_at P g o T vs 0 cs.toArray w h (by simpa using hfit) h1
  simp only [Nat.add_zero] at hst
  have hrow : (w.setRow g (cs.take o ++ vs ++ cs.drop (o + vs.length)).toArray).heap[g]? = some (.cells (cs.take o ++ vs ++ cs.drop (o + vs.length)).toArray T (0, 0)) := setRow_heap w g _ _ T _ h
  refine ⟨w.setRow g (cs.take o ++ vs ++ cs.drop (o + vs.length)).toArray, ?_, ?_, setRow_grown w g _⟩
  · cases hq : P.info? ty with
    | none => simp [hq] at hi
    | some i =>
      have hs : vs.length = i.size := by have := hi; simp [hq] at this; omega
      simp [storeVar, sizeOf, typeInfo, hq, Value.cells, hs]
      rw [hs] at hst
      simpa using hst
  · unfold RowV splice
    rw [← List.append_assoc]
    exact hrow

theorem wpList_store_at {ops : Array Oper} {rest : List Oper} {op : Oper} {a : Act} {Q : Exit → Act → World → Prop} (hgd : op.guard = none) (ty : TypeId) (x y : Operand) (ho : op.op = .store ty x y) {T : TypeId} {g o : Nat} {cs vs : List Value}
    (hx : a.eval x = .pointer (some ⟨g, o, none⟩)) (hy : a.eval y = .agg vs.toArray) (h : RowV T w g cs) (hi : (P.info? ty).map (·.size) = some vs.length) (hfit : o + vs.length ≤ cs.length) (h1 : ∀ v ∈ vs, v.oneCell' = true)
    (hK : ∀ w', RowV T w' g (splice cs o vs) → w.grownBy w' (some g) → wpList P ops Q rest (a.put op.dst undef) w') : wpList P ops Q (op :: rest) a w := by
  refine wpList_plain hgd fun K hK' => ?_
  obtain ⟨w', hrun, r1, r2⟩ := run_storeVar_at (P := P) (ty := ty) h hi hfit h1
  unfold Oper.wp execOp
  simp only [ho, hx, hy, Instr.storeAt, Instr.sureAddr, Sem.run_bind, Sem.run_pure, Result.andThen_ok, hrun]
  exact hK' _ _ (hK w' r1 r2)

/-- a new variable, whose noughts stand behind a name -/
theorem wpList_alloc_z {ops : Array Oper} {rest : List Oper} {o : Oper} {a : Act} {Q : Exit → Act → World → Prop} (hgd : o.guard = none) (T : TypeId) (ho : o.op = .alloc T) {cs : List Value}
    (hz : ∀ u, (Instr.alloc T true (.tuple #[])).run P u = .ok (.pointer (some ⟨u.heap.size, 0, none⟩)) (u.alloc (.cells cs.toArray T)))
    (h : wpList P ops Q rest (a.put o.dst (.pointer (some ⟨w.heap.size, 0, none⟩))) (w.alloc (.cells cs.toArray T))) : wpList P ops Q (o :: rest) a w := by
  refine wpList_plain hgd fun K hK => ?_
  unfold Oper.wp execOp
  simp only [ho, Sem.run_bind, Sem.run_pure, Result.andThen_ok, hz]
  exact hK _ _ h
end

end Go.Proofs.Ytkdkncbccofpdaa
