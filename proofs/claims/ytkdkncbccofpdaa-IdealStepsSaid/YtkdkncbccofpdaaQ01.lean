/- Parts of the proof: Blocks known whole, and values of several cells in them: load and store at any place, as laws for the walk; nothing of a program is claimed here; Rows, keys and schemas as they lie in memory; nothing of a program is claimed here; A region that draws its order, walked in the order of its text: what reads is taken first; what is left stands in one order. Nothing of a program is claimed here; Compare of row: how two keys stand; Check of row, and the document's Right: which schemas may be; What a row must be: keyed, noted, bounded, and mustBe -/
import Derived.Test.YtkdkncbccofpdaaRows
import Derived.WalkKit
import Derived.Laws.CopyOwn
import Derived.Lib.Hide
import Derived.Laws.StructEq
import Derived.Laws.OwnMore
import Derived.Handy
import Derived.IntWalk
import Derived.Lib.SmallJoins
import Derived.OrdersHeld
import Derived.StillTailTactics
import Derived.BigQuiet
import Derived.Deep.QuietTactic
namespace Go.Proofs.Ytkdkncbccofpdaa
open Go.RowKit
/-- The block g holds just these cells (and may be written). -/
def RowV (T : TypeId) (w : World) (g : Nat) (cs : List Value) : Prop := w.heap[g]? = some (.cells cs.toArray T (0, 0))
theorem RowV.cell {T : TypeId} {w : World} {g : Nat} {cs : List Value} (h : RowV T w g cs) (j : Nat) : w.cell? ⟨g, j, none⟩ = cs[j]? := by
 unfold RowV at h
 rw [cell_of_row w g j _ T (0, 0) h]
 simp
theorem RowV.free {T : TypeId} {w : World} {g : Nat} {cs : List Value} (h : RowV T w g cs) (j : Nat) : w.frozen? ⟨g, j, none⟩ = false := frozen_of_row w g j _ T h
theorem RowV.lt {T : TypeId} {w : World} {g : Nat} {cs : List Value} (h : RowV T w g cs) : g < w.heap.size := (Array.getElem?_eq_some_iff.1 h).1
theorem RowV.block {T : TypeId} {w w' : World} {g : Nat} {cs : List Value} (h : RowV T w g cs) (hb : w'.heap[g]? = w.heap[g]?) : RowV T w' g cs := by
 unfold RowV at *; rw [hb]; exact h
theorem RowV.below {T : TypeId} {w w' : World} {g : Nat} {cs : List Value} (h : RowV T w g cs) (hb : Below w.heap.size w w') : RowV T w' g cs := h.block (hb.block g h.lt)
theorem RowV.kept {T : TypeId} {w w' : World} {g k : Nat} {cs : List Value} (h : RowV T w g cs) (hg : w.grownBy w' (some k)) (hne : g ≠ k) : RowV T w' g cs := h.block (hg.block g h.lt (by simpa using hne))
theorem RowV.made {T : TypeId} (w : World) (cs : List Value) : RowV T (w.alloc (.cells cs.toArray T)) w.heap.size cs := heap_alloc_new _ _
theorem RowV.set {T : TypeId} {w : World} {g : Nat} {cs : List Value} (h : RowV T w g cs) (j : Nat) (v : Value) : RowV T (w.setCell ⟨g, j, none⟩ v) g (cs.set j v) := by
 have := heap_setCell_same w g j _ T v h
 unfold RowV
 rw [this]
 simp
theorem setCell_grown (w : World) (g j : Nat) (v : Value) : w.grownBy (w.setCell ⟨g, j, none⟩ v) (some g) :=
 ⟨rfl, rfl, rfl, by simp [World.setCell], fun i _ hne => Below.heap_setCell _ _ _ _ (fun e => hne (by rw [e]))⟩
theorem setRow_grown (w : World) (g : Nat) (cs : Array Value) : w.grownBy (w.setRow g cs) (some g) :=
 ⟨rfl, rfl, rfl, by simp, fun i _ hne => setRow_other w g i cs (by simpa using hne)⟩
theorem grown_trans {a b c : World} {g : Nat} (h : a.grownBy b (some g)) (k : b.grownBy c (some g)) : a.grownBy c (some g) :=
 ⟨k.os.trans h.os, k.tape.trans h.tape, k.output.trans h.output, Nat.le_trans h.size k.size, fun i hi hn => (k.block i (Nat.lt_of_lt_of_le hi h.size) hn).trans (h.block i hi hn)⟩
theorem grown_below {a b c : World} {r : Option Nat} (h : a.grownBy b r) (k : Below b.heap.size b c) : a.grownBy c r :=
 ⟨k.os.trans h.os, k.tape.trans h.tape, k.output.trans h.output, Nat.le_trans h.size k.size, fun i hi hn => (k.block i (Nat.lt_of_lt_of_le hi h.size)).trans (h.block i hi hn)⟩
theorem below_grown {a b : World} (h : Below a.heap.size a b) (r : Option Nat) : a.grownBy b r := ⟨h.os, h.tape, h.output, h.size, fun i hi _ => h.block i hi⟩
section
variable {P : Program} {w : World}
theorem agg_run {ty : TypeId} {d : TypeDesc} (hu : P.underlying ty = some d) (hd : (match d with | .struct _ | .array _ _ => true | _ => false) = true) : (isAgg ty).run P w = .ok true w := by
 unfold isAgg
 rw [Sem.run_bind, run_underlying hu w]
 cases d <;> simp_all
/-- a value of several cells, loaded from wherever they lie -/
theorem run_loadVar_at {ty : TypeId} {d : TypeDesc} (hu : P.underlying ty = some d) (hd : (match d with | .struct _ | .array _ _ => true | _ => false) = true) {vs : List Value} (hi : (P.info? ty).map (·.size) = some vs.length) (ad : Addr)
 (hc : ∀ j v, vs[j]? = some v → w.cell? (ad.add j) = some v) : (loadVar ty ad).run P w = .ok (.agg vs.toArray) w := by
 have hl := run_loadCells_list (P := P) w ad vs hc
 cases hq : P.info? ty with
 | none => simp [hq] at hi
 | some i =>
   have hs : i.size = vs.length := by simpa [hq] using hi
   simp [loadVar, Sem.run_bind, agg_run hu hd, sizeOf, typeInfo, hq, hs, hl]
theorem wpList_load_at {ops : Array Oper} {rest : List Oper} {o : Oper} {a : Act} {Q : Exit → Act → World → Prop} (hgd : o.guard = none) (ty : TypeId) (x : Operand) (ho : o.op = .load ty x) {d : TypeDesc} (hu : P.underlying ty = some d)
 (hd : (match d with | .struct _ | .array _ _ => true | _ => false) = true) {vs : List Value} (hi : (P.info? ty).map (·.size) = some vs.length) {ad : Addr} (hx : a.eval x = .pointer (some ad))
 (hc : ∀ j v, vs[j]? = some v → w.cell? (ad.add j) = some v) (h : wpList P ops Q rest (a.put o.dst (.agg vs.toArray)) w) : wpList P ops Q (o :: rest) a w := by
 refine wpList_plain hgd fun K hK => ?_
 unfold Oper.wp execOp
 simp only [ho, hx, Instr.loadAt, Instr.sureAddr, Sem.run_bind, Sem.run_pure, Result.andThen_ok, run_loadVar_at hu hd hi ad hc]
 exact hK _ _ h
theorem RowV.part {T : TypeId} {g o : Nat} {cs vs rest pre : List Value} (h : RowV T w g cs) (he : cs = pre ++ (vs ++ rest)) (ho : pre.length = o) : ∀ j v, vs[j]? = some v → w.cell? ((⟨g, o, none⟩ : Addr).add j) = some v := by
 intro j v hj
 have hadd : (⟨g, o, none⟩ : Addr).add j = ⟨g, o + j, none⟩ := by unfold Addr.add; split <;> simp_all
 have hl : j < vs.length := (List.getElem?_eq_some_iff.1 hj).1
 rw [hadd, h.cell, he, List.getElem?_append_right (by omega), ho, Nat.add_sub_cancel_left, List.getElem?_append_left hl, hj]
/-- a value of several cells, stored into a block that is known whole -/
theorem run_storeVar_at {T ty : TypeId} {g o : Nat} {cs vs : List Value} (h : RowV T w g cs) (hi : (P.info? ty).map (·.size) = some vs.length) (hfit : o + vs.length ≤ cs.length) (h1 : ∀ v ∈ vs, v.oneCell' = true) :
 ∃ w', (storeVar ty ⟨g, o, none⟩ (.agg vs.toArray)).run P w = .ok () w' ∧ RowV T w' g (splice cs o vs) ∧ w.grownBy w' (some g) := by
 have hst := run_storeCells_at P g o T vs 0 cs.toArray w h (by simpa using hfit) h1
 simp only [Nat.add_zero] at hst
 have hrow : (w.setRow g (cs.take o ++ vs ++ cs.drop (o + vs.length)).toArray).heap[g]? = some (.cells (cs.take o ++ vs ++ cs.drop (o + vs.length)).toArray T (0, 0)) := setRow_heap w g _ _ T _ h
 refine ⟨w.setRow g (cs.take o ++ vs ++ cs.drop (o + vs.length)).toArray, ?_, ?_, setRow_grown w g _⟩
 · cases hq : P.info? ty with
   | none => simp [hq] at hi
   | some i =>
     have hs : vs.length = i.size := by have := hi; simp [hq] at this; omega
     simp [storeVar, sizeOf, typeInfo, hq, Value.cells, hs]
     rw [hs] at hst
     simpa using hst
 · unfold RowV splice
   rw [← List.append_assoc]
   exact hrow
theorem wpList_store_at {ops : Array Oper} {rest : List Oper} {op : Oper} {a : Act} {Q : Exit → Act → World → Prop} (hgd : op.guard = none) (ty : TypeId) (x y : Operand) (ho : op.op = .store ty x y) {T : TypeId} {g o : Nat} {cs vs : List Value}
 (hx : a.eval x = .pointer (some ⟨g, o, none⟩)) (hy : a.eval y = .agg vs.toArray) (h : RowV T w g cs) (hi : (P.info? ty).map (·.size) = some vs.length) (hfit : o + vs.length ≤ cs.length) (h1 : ∀ v ∈ vs, v.oneCell' = true)
 (hK : ∀ w', RowV T w' g (splice cs o vs) → w.grownBy w' (some g) → wpList P ops Q rest (a.put op.dst undef) w') : wpList P ops Q (op :: rest) a w := by
 refine wpList_plain hgd fun K hK' => ?_
 obtain ⟨w', hrun, r1, r2⟩ := run_storeVar_at (P := P) (ty := ty) h hi hfit h1
 unfold Oper.wp execOp
 simp only [ho, hx, hy, Instr.storeAt, Instr.sureAddr, Sem.run_bind, Sem.run_pure, Result.andThen_ok, hrun]
 exact hK' _ _ (hK w' r1 r2)
end
end Go.Proofs.Ytkdkncbccofpdaa
namespace Go.Proofs.Ytkdkncbccofpdaa
open Go.RowKit
def I64 (x : Int) : Prop := -9223372036854775808 ≤ x ∧ x < 9223372036854775808
structure KeyD where
 t : Int
 id : Int
def KeyD.cells (k : KeyD) : List Value := [.int .i64 k.t, .int .u16 k.id]
structure RowD where
 key : KeyD
 val : Int
 note : ByteArray
def RowD.cells (r : RowD) : List Value := [.int .i64 r.key.t, .int .u16 r.key.id, .int .i64 r.val, .string r.note]
structure KeyOk (k : KeyD) : Prop where
 t : I64 k.t
 id : 0 ≤ k.id ∧ k.id < 65536
structure RowOk (r : RowD) : Prop where
 key : KeyOk r.key
 val : I64 r.val
 note : r.note.size ≤ maxLen
theorem RowD.one (r : RowD) : ∀ v ∈ r.cells, v.oneCell' = true := by
 intro v hv
 simp only [RowD.cells, List.mem_cons, List.not_mem_nil, or_false] at hv
 rcases hv with rfl | rfl | rfl | rfl <;> rfl
theorem KeyD.one (k : KeyD) : ∀ v ∈ k.cells, v.oneCell' = true := by
 intro v hv
 simp only [KeyD.cells, List.mem_cons, List.not_mem_nil, or_false] at hv
 rcases hv with rfl | rfl <;> rfl
/-- the cells of a list of rows, one behind the other -/
def cellsR : List RowD → List Value
 | [] => []
 | r :: l => r.cells ++ cellsR l
theorem cellsR_len : ∀ l : List RowD, (cellsR l).length = l.length * 4
 | [] => rfl
 | r :: l => by simp [cellsR, cellsR_len l, RowD.cells]; omega
theorem cellsR_append : ∀ l m : List RowD, cellsR (l ++ m) = cellsR l ++ cellsR m
 | [], m => rfl
 | r :: l, m => by simp [cellsR, cellsR_append l m]
theorem cellsR_one : ∀ l : List RowD, ∀ v ∈ cellsR l, v.oneCell' = true
 | [], v, h => by cases h
 | r :: l, v, h => by
   rcases List.mem_append.1 h with h | h
   · exact r.one v h
   · exact cellsR_one l v h
theorem cellsR_get : ∀ (l : List RowD) (i : Nat) (r : RowD), l[i]? = some r → ∀ j x, r.cells[j]? = some x → (cellsR l)[i * 4 + j]? = some x
 | [], i, r, h, _, _, _ => by simp at h
 | s :: l, 0, r, h, j, x, hx => by
   simp at h; subst h
   have hj : j < s.cells.length := (List.getElem?_eq_some_iff.1 hx).1
   simp only [cellsR, Nat.zero_mul, Nat.zero_add]
   rw [List.getElem?_append_left hj]; exact hx
 | s :: l, i + 1, r, h, j, x, hx => by
   simp at h
   have := cellsR_get l i r h j x hx
   simp only [cellsR]
   rw [List.getElem?_append_right (by simp [RowD.cells]; omega)]
   have e : (i + 1) * 4 + j - s.cells.length = i * 4 + j := by simp [RowD.cells]; omega
   rw [e]; exact this
theorem cellsR_get' : ∀ (l : List RowD) (k : Nat) (x : Value), (cellsR l)[k]? = some x → ∃ i r j, k = i * 4 + j ∧ l[i]? = some r ∧ r.cells[j]? = some x
 | [], k, x, h => by simp [cellsR] at h
 | s :: l, k, x, h => by
   simp only [cellsR] at h
   by_cases hk : k < 4
   · rw [List.getElem?_append_left (by simp [RowD.cells]; omega)] at h
     exact ⟨0, s, k, by omega, rfl, h⟩
   · rw [List.getElem?_append_right (by simp [RowD.cells]; omega)] at h
     have e : k - s.cells.length = k - 4 := by simp [RowD.cells]
     rw [e] at h
     obtain ⟨i, r, j, h1, h2, h3⟩ := cellsR_get' l (k - 4) x h
     exact ⟨i + 1, r, j, by omega, by simpa using h2, h3⟩
theorem cell_in {w : World} {a : Addr} {v : Value} (h : w.cell? a = some v) : a.block < w.heap.size := by
 rcases Nat.lt_or_ge a.block w.heap.size with h1 | h1
 · exact h1
 · have hn : w.heap[a.block]? = none := Array.getElem?_eq_none h1
   unfold World.cell? at h
   simp [hn] at h
theorem cell_keeps {B : Nat} {w w' : World} (hb : Below B w w') (hB : w.heap.size ≤ B) {a : Addr} {v : Value} (h : w.cell? a = some v) : w'.cell? a = some v := by
 rw [World.cell?_of_block (w := w) (hb.block _ (Nat.lt_of_lt_of_le (cell_in h) hB))]
 exact h
theorem below_drewN (w : World) (k : Nat) : Below w.heap.size w (w.drewN k) := ⟨rfl, rfl, rfl, Nat.le_refl _, fun _ _ => rfl⟩
theorem below_drew (w : World) : Below w.heap.size w w.drew := ⟨rfl, rfl, rfl, Nat.le_refl _, fun _ _ => rfl⟩
/-- a slice that reads as a list of rows -/
structure RowsOn (w : World) (q : Option Addr) (n c : Nat) (l : List RowD) : Prop where
 len : l.length = n
 le : n ≤ c
 cap : c ≤ maxLen
 nil : q = none → c = 0
 get : ∀ i r, l[i]? = some r → ∃ a, q = some a ∧ ∀ j x, r.cells[j]? = some x → w.cell? ((a.add (i * 4)).add j) = some x
 ok : ∀ r ∈ l, RowOk r
theorem RowsOn.none_ (w : World) : RowsOn w none 0 0 [] := ⟨rfl, Nat.le_refl _, Nat.zero_le _, fun _ => rfl, fun i r h => by simp at h, fun r h => by cases h⟩
theorem RowsOn.below {B : Nat} {w w' : World} {q : Option Addr} {n c : Nat} {l : List RowD} (h : RowsOn w q n c l) (hb : Below B w w') (hB : w.heap.size ≤ B) : RowsOn w' q n c l :=
 ⟨h.len, h.le, h.cap, h.nil, fun i r hi => by
  obtain ⟨a, rfl, hc⟩ := h.get i r hi
  exact ⟨a, rfl, fun j x hj => cell_keeps hb hB (hc j x hj)⟩, h.ok⟩
theorem RowsOn.at {w : World} {q : Option Addr} {n c : Nat} {l : List RowD} (h : RowsOn w q n c l) {i : Nat} (hi : i < n) :
 ∃ a r, q = some a ∧ l[i]? = some r ∧ RowOk r ∧ ∀ j x, r.cells[j]? = some x → w.cell? ((a.add (i * 4)).add j) = some x := by
 have hl := h.len
 have hx : l[i]? = some (l[i]'(by omega)) := List.getElem?_eq_getElem (by omega)
 obtain ⟨a, ha, hc⟩ := h.get i _ hx
 exact ⟨a, _, ha, hx, h.ok _ (List.mem_of_getElem? hx), hc⟩
/-- a slice that reads as a list of keys -/
structure KeysOn (w : World) (q : Option Addr) (n c : Nat) (l : List KeyD) : Prop where
 len : l.length = n
 le : n ≤ c
 cap : c ≤ maxLen
 nil : q = none → c = 0
 get : ∀ i r, l[i]? = some r → ∃ a, q = some a ∧ ∀ j x, r.cells[j]? = some x → w.cell? ((a.add (i * 2)).add j) = some x
 ok : ∀ r ∈ l, KeyOk r
theorem KeysOn.below {B : Nat} {w w' : World} {q : Option Addr} {n c : Nat} {l : List KeyD} (h : KeysOn w q n c l) (hb : Below B w w') (hB : w.heap.size ≤ B) : KeysOn w' q n c l :=
 ⟨h.len, h.le, h.cap, h.nil, fun i r hi => by
  obtain ⟨a, rfl, hc⟩ := h.get i r hi
  exact ⟨a, rfl, fun j x hj => cell_keeps hb hB (hc j x hj)⟩, h.ok⟩
theorem KeysOn.at {w : World} {q : Option Addr} {n c : Nat} {l : List KeyD} (h : KeysOn w q n c l) {i : Nat} (hi : i < n) :
 ∃ a r, q = some a ∧ l[i]? = some r ∧ KeyOk r ∧ ∀ j x, r.cells[j]? = some x → w.cell? ((a.add (i * 2)).add j) = some x := by
 have hl := h.len
 have hx : l[i]? = some (l[i]'(by omega)) := List.getElem?_eq_getElem (by omega)
 obtain ⟨a, ha, hc⟩ := h.get i _ hx
 exact ⟨a, _, ha, hx, h.ok _ (List.mem_of_getElem? hx), hc⟩
/-- the bounds of a table -/
structure BdD where
 lo : Int
 hi : Int
def BdD.cells (b : BdD) : List Value := [.int .i64 b.lo, .int .i64 b.hi]
/-- a slice that reads as a list of bounds -/
structure SchOn (w : World) (q : Option Addr) (n c : Nat) (l : List BdD) : Prop where
 len : l.length = n
 le : n ≤ c
 cap : c ≤ maxLen
 get : ∀ i r, l[i]? = some r → ∃ a, q = some a ∧ ∀ j x, r.cells[j]? = some x → w.cell? ((a.add (i * 2)).add j) = some x
 ok : ∀ r ∈ l, I64 r.lo ∧ I64 r.hi
theorem SchOn.none_ (w : World) : SchOn w none 0 0 [] := ⟨rfl, Nat.le_refl _, Nat.zero_le _, fun i r h => by simp at h, fun r h => by cases h⟩
theorem SchOn.below {B : Nat} {w w' : World} {q : Option Addr} {n c : Nat} {l : List BdD} (h : SchOn w q n c l) (hb : Below B w w') (hB : w.heap.size ≤ B) : SchOn w' q n c l :=
 ⟨h.len, h.le, h.cap, fun i r hi => by
  obtain ⟨a, rfl, hc⟩ := h.get i r hi
  exact ⟨a, rfl, fun j x hj => cell_keeps hb hB (hc j x hj)⟩, h.ok⟩
theorem SchOn.at {w : World} {q : Option Addr} {n c : Nat} {l : List BdD} (h : SchOn w q n c l) {i : Nat} (hi : i < n) :
 ∃ a r, q = some a ∧ l[i]? = some r ∧ (I64 r.lo ∧ I64 r.hi) ∧ ∀ j x, r.cells[j]? = some x → w.cell? ((a.add (i * 2)).add j) = some x := by
 have hl := h.len
 have hx : l[i]? = some (l[i]'(by omega)) := List.getElem?_eq_getElem (by omega)
 obtain ⟨a, ha, hc⟩ := h.get i _ hx
 exact ⟨a, _, ha, hx, h.ok _ (List.mem_of_getElem? hx), hc⟩
/-- The slice v holds just these rows, in a block of its own from block base on. -/
def OwnR (T : TypeId) (w : World) (base : Nat) (v : Value) (l : List RowD) : Prop := w.ownsRow base T 4 v l.length (cellsR l)
theorem OwnR.nil (T : TypeId) (w : World) (base : Nat) : OwnR T w base (.slice none 0 0) [] := World.ownsRow_nil w base T 4
theorem OwnR.shape {T : TypeId} {w : World} {base : Nat} {v : Value} {l : List RowD} (h : OwnR T w base v l) : ∃ q c, v = .slice q l.length c := by
 obtain ⟨_, ⟨he, h0⟩ | ⟨g, cap, cur, he, _⟩⟩ := h
 · exact ⟨none, 0, by rw [he, h0]⟩
 · exact ⟨_, _, he⟩
theorem OwnR.len {T : TypeId} {w : World} {base : Nat} {q : Option Addr} {n c : Nat} {l : List RowD} (h : OwnR T w base (.slice q n c) l) : n = l.length := by
 obtain ⟨q', c', e⟩ := h.shape
 injection e
theorem OwnR.far {T : TypeId} {w : World} {base : Nat} {q : Option Addr} {n c : Nat} {l : List RowD} (h : OwnR T w base (.slice q n c) l) : ∀ a, q = some a → base ≤ a.block ∧ a.block < w.heap.size := by
 intro a ha
 obtain ⟨_, ⟨he, _⟩ | ⟨g, cap, cur, he, hg, hh, _⟩⟩ := h
 · simp only [Value.slice.injEq] at he; obtain ⟨rfl, _⟩ := he; cases ha
 · simp only [Value.slice.injEq] at he; obtain ⟨rfl, _⟩ := he; cases ha; exact ⟨hg, (Array.getElem?_eq_some_iff.1 hh).1⟩
theorem OwnR.kept {T : TypeId} {w w' : World} {base : Nat} {q : Option Addr} {n c : Nat} {l : List RowD} (h : OwnR T w base (.slice q n c) l) (hb : ∀ a, q = some a → w'.heap[a.block]? = w.heap[a.block]?) : OwnR T w' base (.slice q n c) l := by
 obtain ⟨hlen, ⟨he, h0⟩ | ⟨g, cap, cur, he, hg, hh, r⟩⟩ := h
 · exact ⟨hlen, .inl ⟨he, h0⟩⟩
 · simp only [Value.slice.injEq] at he
   obtain ⟨rfl, e2, rfl⟩ := he
   exact ⟨hlen, .inr ⟨g, c, cur, by rw [e2], hg, by rw [hb _ rfl]; exact hh, r⟩⟩
theorem OwnR.below {T : TypeId} {w w' : World} {base : Nat} {q : Option Addr} {n c : Nat} {l : List RowD} (h : OwnR T w base (.slice q n c) l) (hb : Below w.heap.size w w') : OwnR T w' base (.slice q n c) l :=
 h.kept fun a ha => hb.block _ (h.far a ha).2
theorem OwnR.mono {T : TypeId} {w : World} {b b' : Nat} {v : Value} {l : List RowD} (h : OwnR T w b v l) (hb : b' ≤ b) : OwnR T w b' v l := by
 obtain ⟨hlen, hr | ⟨g, cap, cur, he, hg, r⟩⟩ := h
 · exact ⟨hlen, .inl hr⟩
 · exact ⟨hlen, .inr ⟨g, cap, cur, he, Nat.le_trans hb hg, r⟩⟩
/-- what is owned reads as a list of rows -/
theorem OwnR.reads {T : TypeId} {w : World} {base : Nat} {q : Option Addr} {n c : Nat} {l : List RowD} (h : OwnR T w base (.slice q n c) l) (hok : ∀ r ∈ l, RowOk r) : RowsOn w q n c l := by
 have hl := h.len
 have hc := fun g hg => World.ownsRow.cells (h := h) (g := g) hg
 obtain ⟨hlen, ⟨he, h0⟩ | ⟨g, cap, cur, he, hg, hh, hle, hm, r⟩⟩ := h
 · simp only [Value.slice.injEq] at he
   obtain ⟨rfl, rfl, rfl⟩ := he
   exact ⟨hl.symm, Nat.le_refl _, Nat.zero_le _, fun _ => rfl, fun i r hi => by rw [List.eq_nil_of_length_eq_zero hl.symm] at hi; simp at hi, hok⟩
 · simp only [Value.slice.injEq] at he
   obtain ⟨rfl, e2, rfl⟩ := he
   refine ⟨hl.symm, by omega, hm, (fun e => by cases e), fun i r hi => ⟨_, rfl, fun j x hj => ?_⟩, hok⟩
   rw [Go.Deep.add_add]
   exact hc g rfl _ _ (cellsR_get l i r hi j x hj)
end Go.Proofs.Ytkdkncbccofpdaa
namespace Go.Proofs.Ytkdkncbccofpdaa
open Go.RowKit
section
variable {P : Program} {ops : Array Oper} {Q : Exit → Act → World → Prop} {md : Region.Mode} {S : World → Prop}
/-- the one operation that may come up -/
theorem held_one {i : Nat} {o : Oper} {fuel : Nat} {listed : Array Bool} {a : Act} {w : World} (hi : ops[i]? = some o) (hr : Region.ready md ops listed = [i]) (hw : Region.wanted o (yielded ops a.tmps) = true)
 (h : o.wp P a w (fun a' w' => S w' ∧ wpAnyH P md ops Q S fuel (listed.setIfInBounds i true) a' w') Q) : wpAnyH P md ops Q S (fuel + 1) listed a w := by
 refine wpAnyH_all hr (by simp) (fun j hj => ?_)
 rw [List.mem_singleton.1 hj]
 unfold wpOp
 simp only [hi, hw, if_true]
 exact .inl h
/-- it is a call that returns -/
theorem held_call {i : Nat} {o : Oper} {dst : Option Tmp} (hd : o.dst = dst) {fuel : Nat} {listed : Array Bool} {a : Act} {w : World} {f : FuncId} {args : Array Value} {R : Ending → World → Prop} (hi : ops[i]? = some o) (hr : Region.ready md ops listed = [i]) (hw : Region.wanted o (yielded ops a.tmps) = true)
 (hrun : (execOp a.eval o).run P w = .ok (.enter f args) w) (hc : Calls P f args w R) (h : ∀ e w', R e w' → ∃ v, e = .returned v ∧ S w' ∧ wpAnyH P md ops Q S fuel (listed.setIfInBounds i true) (a.put dst v) w') :
 wpAnyH P md ops Q S (fuel + 1) listed a w := by
 subst hd
 refine held_one hi hr hw ?_
 unfold Oper.wp
 rw [hrun, Oper.upon_enter]
 refine hc.mono fun e w' he => ?_
 obtain ⟨v, rfl, h1, h2⟩ := h e w' he
 exact ⟨h1, h2⟩
/-- it gives a value -/
theorem held_value {i : Nat} {o : Oper} {dst : Option Tmp} (hd : o.dst = dst) {fuel : Nat} {listed : Array Bool} {a : Act} {w w' : World} {v : Value} (hi : ops[i]? = some o) (hr : Region.ready md ops listed = [i]) (hw : Region.wanted o (yielded ops a.tmps) = true)
 (hrun : (execOp a.eval o).run P w = .ok (.value v) w') (hS : S w') (h : wpAnyH P md ops Q S fuel (listed.setIfInBounds i true) (a.put dst v) w') : wpAnyH P md ops Q S (fuel + 1) listed a w := by
 subst hd
 refine held_one hi hr hw ?_
 unfold Oper.wp
 rw [hrun, Oper.upon_value]
 exact ⟨hS, h⟩
/-- it gives nothing -/
theorem held_skip {i : Nat} {o : Oper} {dst : Option Tmp} (hd : o.dst = dst) {fuel : Nat} {listed : Array Bool} {a : Act} {w w' : World} (hi : ops[i]? = some o) (hr : Region.ready md ops listed = [i]) (hw : Region.wanted o (yielded ops a.tmps) = true)
 (hrun : (execOp a.eval o).run P w = .ok .skip w') (hS : S w') (h : wpAnyH P md ops Q S fuel (listed.setIfInBounds i true) (a.put dst undef) w') : wpAnyH P md ops Q S (fuel + 1) listed a w := by
 subst hd
 refine held_one hi hr hw ?_
 unfold Oper.wp
 rw [hrun, Oper.upon_skip]
 exact ⟨hS, h⟩
/-- it only reads, and is taken first -/
theorem held_take {i : Nat} {o : Oper} {dst : Option Tmp} (hd : o.dst = dst) {v : Value} {fuel : Nat} {listed : Array Bool} {a : Act} {w : World} (hi : ops[i]? = some o)
 (hs : Region.noSelect ops = true) (hf : Region.free md ops listed i = true) (hr : (Region.ready md ops listed).contains i = true)
 (hQ : ∀ c a w, Q (.panic c) (a.put o.dst v) w → Q (.panic c) a w) (hy : YieldsIf P ops S o v a) (hS : S w)
 (h : wpAnyH P md ops Q S fuel (listed.setIfInBounds i true) (a.put dst v) w) : wpAnyH P md ops Q S (fuel + 1) listed a w := by
 subst hd
 exact wpAnyH_take hi hs hf hr hQ hy hS h
end
section
variable {P : Program} {ops : Array Oper} {S : World → Prop} {a : Act} {o : Oper}
theorem y_move (x : Operand) (ho : o.op = .move x) (hw : Region.wanted o (yielded ops a.tmps) = true) {v : Value} (hx : a.eval x = v) : YieldsIf P ops S o v a := by
 refine .inl ⟨hw, fun w _ => ?_⟩
 subst hx
 unfold execOp
 simp [ho]
theorem y_load_agg (ty : TypeId) (x : Operand) (ho : o.op = .load ty x) (hw : Region.wanted o (yielded ops a.tmps) = true) {ad : Addr} (hx : a.eval x = .pointer (some ad)) {v : Value} (h : ∀ w, S w → (loadVar ty ad).run P w = .ok v w) : YieldsIf P ops S o v a := by
 refine .inl ⟨hw, fun w hS => ?_⟩
 unfold execOp
 simp only [ho, hx, Instr.loadAt, Instr.sureAddr, Sem.run_bind, Sem.run_pure, Result.andThen_ok, h w hS]
end
end Go.Proofs.Ytkdkncbccofpdaa
namespace Go.Proofs.Ytkdkncbccofpdaa
open Go.RowKit
def cmpI (a b : Int) : Int := if a < b then -1 else if b < a then 1 else 0
def orI (x y : Int) : Int := if x = 0 then y else x
def cmpK (a b : KeyD) : Int := orI (cmpI a.t b.t) (cmpI a.id b.id)
def eqK (a b : KeyD) : Bool := a.t == b.t && a.id == b.id
theorem cmpI_cases (a b : Int) : (a < b ∧ cmpI a b = -1) ∨ (b < a ∧ cmpI a b = 1) ∨ (a = b ∧ cmpI a b = 0) := by
 unfold cmpI
 by_cases h1 : a < b
 · exact .inl ⟨h1, if_pos h1⟩
 · by_cases h2 : b < a
   · exact .inr (.inl ⟨h2, by rw [if_neg h1, if_pos h2]⟩)
   · exact .inr (.inr ⟨by omega, by rw [if_neg h1, if_neg h2]⟩)
theorem cmpK_cases (a b : KeyD) : (a.t < b.t ∧ cmpK a b = -1) ∨ (b.t < a.t ∧ cmpK a b = 1) ∨ (a.t = b.t ∧ ((a.id < b.id ∧ cmpK a b = -1) ∨ (b.id < a.id ∧ cmpK a b = 1) ∨ (a.id = b.id ∧ cmpK a b = 0))) := by
 unfold cmpK orI
 rcases cmpI_cases a.t b.t with ⟨h, e⟩ | ⟨h, e⟩ | ⟨h, e⟩
 · exact .inl ⟨h, by rw [e]; rfl⟩
 · exact .inr (.inl ⟨h, by rw [e]; rfl⟩)
 · refine .inr (.inr ⟨h, ?_⟩)
   rw [e, if_pos rfl]
   exact cmpI_cases a.id b.id
theorem KeyD.ext' {a b : KeyD} (h1 : a.t = b.t) (h2 : a.id = b.id) : a = b := by
 cases a; cases b; simp_all
theorem cmpK_zero {a b : KeyD} : cmpK a b = 0 ↔ a = b := by
 constructor
 · intro h
   rcases cmpK_cases a b with ⟨_, e⟩ | ⟨_, e⟩ | ⟨h1, ⟨_, e⟩ | ⟨_, e⟩ | ⟨h2, e⟩⟩ <;> first | omega | exact KeyD.ext' h1 h2
 · rintro rfl
   rcases cmpK_cases a a with ⟨_, e⟩ | ⟨_, e⟩ | ⟨h1, ⟨_, e⟩ | ⟨_, e⟩ | ⟨h2, e⟩⟩ <;> omega
theorem cmpK_anti (a b : KeyD) : cmpK a b = -cmpK b a := by
 rcases cmpK_cases a b with ⟨h, e⟩ | ⟨h, e⟩ | ⟨h, ⟨h1, e⟩ | ⟨h1, e⟩ | ⟨h1, e⟩⟩ <;> rcases cmpK_cases b a with ⟨k, f⟩ | ⟨k, f⟩ | ⟨k, ⟨k1, f⟩ | ⟨k1, f⟩ | ⟨k1, f⟩⟩ <;> omega
theorem cmpK_trans {a b c : KeyD} (h1 : cmpK a b ≤ 0) (h2 : cmpK b c ≤ 0) : cmpK a c ≤ 0 := by
 rcases cmpK_cases a b with ⟨h, e⟩ | ⟨h, e⟩ | ⟨h, ⟨h1, e⟩ | ⟨h1, e⟩ | ⟨h1, e⟩⟩ <;> rcases cmpK_cases b c with ⟨k, f⟩ | ⟨k, f⟩ | ⟨k, ⟨k1, f⟩ | ⟨k1, f⟩ | ⟨k1, f⟩⟩ <;> rcases cmpK_cases a c with ⟨l, g⟩ | ⟨l, g⟩ | ⟨l, ⟨l1, g⟩ | ⟨l1, g⟩ | ⟨l1, g⟩⟩ <;> omega
theorem cmpK_trans' {a b c : KeyD} (h1 : cmpK a b < 0) (h2 : cmpK b c < 0) : cmpK a c < 0 := by
 rcases cmpK_cases a b with ⟨h, e⟩ | ⟨h, e⟩ | ⟨h, ⟨h1, e⟩ | ⟨h1, e⟩ | ⟨h1, e⟩⟩ <;> rcases cmpK_cases b c with ⟨k, f⟩ | ⟨k, f⟩ | ⟨k, ⟨k1, f⟩ | ⟨k1, f⟩ | ⟨k1, f⟩⟩ <;> rcases cmpK_cases a c with ⟨l, g⟩ | ⟨l, g⟩ | ⟨l, ⟨l1, g⟩ | ⟨l1, g⟩ | ⟨l1, g⟩⟩ <;> omega
theorem eqK_iff {a b : KeyD} : eqK a b = true ↔ a = b := by
 unfold eqK
 constructor
 · intro h
   simp only [Bool.and_eq_true, beq_iff_eq] at h
   exact KeyD.ext' h.1 h.2
 · rintro rfl; simp
theorem eqK_cmp (a b : KeyD) : eqK a b = (cmpK a b == 0) := by
 rw [Bool.eq_iff_iff, eqK_iff, beq_iff_eq, cmpK_zero]
set_option maxRecDepth 100000 in
theorem nan_int (x : Int) (w : World) : Calls Try.prog 82 #[.int .i64 x] w (fun e w' => e = .returned (.bool false) ∧ w' = w) := by
 go_enter Try.func82, Try.ntmps82
 go_wp2
 go_ret
 exact ⟨by simp, rfl⟩
set_option maxRecDepth 100000 in
theorem nan_u16 (x : Int) (w : World) : Calls Try.prog 83 #[.int .u16 x] w (fun e w' => e = .returned (.bool false) ∧ w' = w) := by
 go_enter Try.func83, Try.ntmps83
 go_wp2
 go_ret
 exact ⟨by simp, rfl⟩
theorem ret_i {a b : Int} {k : IntKind} (h : a = b) : Ending.returned (.int k a) = .returned (.int k b) := by rw [h]
set_option maxRecDepth 100000 in
theorem cmp_int (x y : Int) (w : World) : Calls Try.prog 67 #[.int .i64 x, .int .i64 y] w (fun e w' => e = .returned (.int .i64 (cmpI x y)) ∧ w' = w) := by
 rcases cmpI_cases x y with ⟨h, e⟩ | ⟨h, e⟩ | ⟨h, e⟩
 all_goals
  rw [e]
  clear e
 · go_enter Try.func67, Try.ntmps67
   go_wp2_with (go_at_call 82; refine (nan_int _ _).mono ?_; rintro e w' ⟨rfl, hw⟩; obtain rfl := hw.symm)
   go_ret
   exact ⟨rfl, rfl⟩
 · have h2 : ¬ x < y := by omega
   go_enter Try.func67, Try.ntmps67
   go_wp2_with (go_at_call 82; refine (nan_int _ _).mono ?_; rintro e w' ⟨rfl, hw⟩; obtain rfl := hw.symm)
   go_ret
   exact ⟨rfl, rfl⟩
 · subst h
   go_enter Try.func67, Try.ntmps67
   go_wp2_with (go_at_call 82; refine (nan_int _ _).mono ?_; rintro e w' ⟨rfl, hw⟩; obtain rfl := hw.symm)
   go_ret
   exact ⟨rfl, rfl⟩
set_option maxRecDepth 100000 in
theorem cmp_u16 (x y : Int) (w : World) : Calls Try.prog 68 #[.int .u16 x, .int .u16 y] w (fun e w' => e = .returned (.int .i64 (cmpI x y)) ∧ w' = w) := by
 rcases cmpI_cases x y with ⟨h, e⟩ | ⟨h, e⟩ | ⟨h, e⟩
 all_goals
  rw [e]
  clear e
 · go_enter Try.func68, Try.ntmps68
   go_wp2_with (go_at_call 83; refine (nan_u16 _ _).mono ?_; rintro e w' ⟨rfl, hw⟩; obtain rfl := hw.symm)
   go_ret
   exact ⟨rfl, rfl⟩
 · have h2 : ¬ x < y := by omega
   go_enter Try.func68, Try.ntmps68
   go_wp2_with (go_at_call 83; refine (nan_u16 _ _).mono ?_; rintro e w' ⟨rfl, hw⟩; obtain rfl := hw.symm)
   go_ret
   exact ⟨rfl, rfl⟩
 · subst h
   go_enter Try.func68, Try.ntmps68
   go_wp2_with (go_at_call 83; refine (nan_u16 _ _).mono ?_; rintro e w' ⟨rfl, hw⟩; obtain rfl := hw.symm)
   go_ret
   exact ⟨rfl, rfl⟩
set_option maxRecDepth 100000 in
set_option maxHeartbeats 1000000 in
theorem or2 (x y : Int) (g : Nat) (w : World) (h0 : w.cell? ⟨g, 0, none⟩ = some (.int .i64 x)) (h1 : w.cell? ⟨g, 1, none⟩ = some (.int .i64 y)) :
 Calls Try.prog 66 #[.slice (some ⟨g, 0, none⟩) 2 2] w (fun e w' => e = .returned (.int .i64 (orI x y)) ∧ w' = w) := by
 go_enter Try.func66, Try.ntmps66
 go_wp2
 go_loop [8] (fun v8 => ∃ k : Nat, k ≤ 2 ∧ v8 = .int .i64 k ∧ (0 < k → x = 0) ∧ (1 < k → y = 0)) (fun v8 => 2 - (intOf v8).toNat)
 case atStart => exact ⟨0, by omega, rfl, (fun h => by omega), (fun h => by omega)⟩
 case round =>
  obtain ⟨k, hk, rfl, hx, hy⟩ := hrel
  match k, hk with
  | 0, _ =>
    by_cases hz : x = 0
    · subst hz
      go_wp2
      go_round
      case rel => exact ⟨1, by omega, by go_num, by simp, by simp⟩
      case measure => simp [intOf]
    · go_wp2
      go_ret
      exact ⟨ret_i (by simp [orI, *]), rfl⟩
  | 1, _ =>
    have hx0 := hx (by omega)
    subst hx0
    by_cases hz : y = 0
    · subst hz
      go_wp2
      go_round
      case rel => exact ⟨2, by omega, by go_num, by simp, by simp⟩
      case measure => simp [intOf]
    · go_wp2
      go_ret
      exact ⟨ret_i (by simp [orI, *]), rfl⟩
  | 2, _ =>
    have hx0 := hx (by omega)
    have hy0 := hy (by omega)
    subst hx0
    subst hy0
    go_wp2
    go_ret
    exact ⟨ret_i (by simp [orI]), rfl⟩
set_option maxRecDepth 100000 in
set_option maxHeartbeats 1000000 in
theorem compare_any (a b : KeyD) (w : World) : Calls Try.prog 57 #[.agg #[.int .i64 a.t, .int .u16 a.id], .agg #[.int .i64 b.t, .int .u16 b.id]] w (fun e w' => e = .returned (.int .i64 (cmpK a b)) ∧ Below w.heap.size w w') := by
 obtain ⟨at_, ai⟩ := a
 obtain ⟨bt, bi⟩ := b
 show Calls _ _ _ _ (fun e w' => e = .returned (.int .i64 (orI (cmpI at_ bt) (cmpI ai bi))) ∧ Below w.heap.size w w')
 go_enter Try.func57, Try.ntmps57
 go_wp2
 go_still_tail 10, (by kernel_rfl)
 change wpStill _ _ (World.drew _) (fun a' => wpList _ _ _ _ a' (World.drew _)) _ _
 repeat still_step
 still_call (cmp_int at_ bt _)
 repeat still_step
 still_call (cmp_u16 ai bi _)
 repeat still_step
 refine wpStill_nil ?_
 go_wp2_with fail
 refine (or2 (cmpI at_ bt) (cmpI ai bi) (w.heap.size + 1 + 1) _ (by go_simp) (by go_simp)).mono ?_
 rintro e w' ⟨rfl, hw⟩
 obtain rfl := hw.symm
 go_wp2
 go_ret
 refine ⟨rfl, ?_⟩
 go_grown
end Go.Proofs.Ytkdkncbccofpdaa
namespace Go.Proofs.Ytkdkncbccofpdaa
open Go.RowKit
def okS (bs : List BdD) : Bool := decide (1 ≤ bs.length) && (decide (bs.length ≤ 3) && bs.all fun b => decide (b.lo ≤ b.hi))
def schE (bs : List BdD) : Int := if okS bs = true then 0 else 150
theorem okS_iff (bs : List BdD) : okS bs = true ↔ 1 ≤ bs.length ∧ bs.length ≤ 3 ∧ ∀ (i : Nat) (b : BdD), bs[i]? = some b → b.lo ≤ b.hi := by
 unfold okS
 simp only [Bool.and_eq_true, decide_eq_true_eq, List.all_eq_true]
 constructor
 · rintro ⟨h1, h2, h3⟩
   exact ⟨h1, h2, fun i b hb => h3 b (List.mem_of_getElem? hb)⟩
 · rintro ⟨h1, h2, h3⟩
   refine ⟨h1, h2, fun b hb => ?_⟩
   obtain ⟨i, hi⟩ := List.mem_iff_getElem?.1 hb
   exact h3 i b hi
theorem schE_no {bs : List BdD} (h : ¬ okS bs = true) : schE bs = 150 := if_neg h
theorem schE_ok {bs : List BdD} (h : okS bs = true) : schE bs = 0 := if_pos h
theorem sizeBd (lo hi : Int) : (Try.prog.info? 75).map (·.size) = some [Value.int .i64 lo, Value.int .i64 hi].length := by kernel_rfl
theorem sizeRow (t id v : Int) (s : ByteArray) : (Try.prog.info? 68).map (·.size) = some [Value.int .i64 t, Value.int .u16 id, Value.int .i64 v, Value.string s].length := by kernel_rfl
theorem sizeKey (t id : Int) : (Try.prog.info? 28).map (·.size) = some [Value.int .i64 t, Value.int .u16 id].length := by kernel_rfl
def ChkRel (w wr : World) (bs : List BdD) (k : Nat) : Prop := Below w.heap.size w wr ∧ ∀ (i : Nat) (b : BdD), i < k → bs[i]? = some b → b.lo ≤ b.hi
set_option maxHeartbeats 1000000 in
theorem check_any (q : Option Addr) (n c : Nat) (bs : List BdD) (w : World) (h : SchOn w q n c bs) :
 Calls Try.prog 39 #[.agg #[.slice q n c]] w (fun e w' => e = .returned (.int .i64 (schE bs)) ∧ Below w.heap.size w w') := by
 have hl := h.len
 have hm := Nat.le_trans h.le h.cap
 unfold maxLen at hm
 have h1 := Lib.hid h
 clear h
 by_cases hn : 1 ≤ n ∧ n ≤ 3
 · obtain ⟨ha, hb⟩ := hn
   have hS0 : Hid (∀ W, Below w.heap.size w W → (∀ (i : Nat) (b : BdD), i < n → bs[i]? = some b → b.lo ≤ b.hi) → schE bs = 0) := fun W _ hk => schE_ok ((okS_iff bs).2 ⟨by omega, by omega, fun i b hi => hk i b (by have := (List.getElem?_eq_some_iff.1 hi).1; omega) hi⟩)
   have hS1 : Hid (∀ (i : Nat) (b : BdD), bs[i]? = some b → ¬ b.lo ≤ b.hi → schE bs = 150) := fun i b hi hlt => schE_no fun hk => hlt (((okS_iff bs).1 hk).2.2 i b hi)
   have hll := Lib.hid hl
   clear hl
   have hr0 : Hid (ChkRel w (w.alloc (.cells #[.slice q n c] 24)) bs 0) := ⟨(Below.refl _ _).alloc (Nat.le_refl _) _, fun i b hi => by omega⟩
   go_enter Try.func39, Try.ntmps39
   go_wp2
   go_loopw [18] (fun v18 wr => ∃ k : Nat, k ≤ n ∧ v18 = .int .i64 k ∧ Hid (ChkRel w wr bs k)) (fun v18 _ => n - (intOf v18).toNat)
   case atStart => exact ⟨0, Nat.zero_le _, rfl, hr0⟩
   case round =>
    obtain ⟨k, hk, rfl, hr⟩ := hrel
    by_cases hlt : k < n
    · obtain ⟨a, ⟨lo, hi⟩, rfl, hx, hok, hc⟩ := (h1.out.below hr.out.1 (Nat.le_refl _)).at hlt
      have hcell : Hid (∀ j x, ([.int .i64 lo, .int .i64 hi] : List Value)[j]? = some x → wr.cell? ((a.add (k * 2)).add j) = some x) := hc
      have hx' := Lib.hid hx
      clear hc hx hok
      by_cases hle : lo ≤ hi
      · go_wp2_with (first | (with_reducible refine wpList_load_at rfl 75 (.tmp 20) rfl Try.underlying75 rfl (sizeBd lo hi) rfl hcell.out ?_))
        go_roundw
        case rel =>
         refine ⟨k + 1, by omega, by go_num, ⟨?_, fun i b hi hb => ?_⟩⟩
         · exact hr.out.1.alloc hr.out.1.size _
         · rcases Nat.lt_or_ge i k with h | h
           · exact hr.out.2 i b h hb
           · obtain rfl : i = k := by omega
             rw [hx'.out] at hb; cases hb; exact hle
        case measure => simp [intOf]; omega
      · have hgt : hi < lo := by omega
        go_wp2_with (first | (with_reducible refine wpList_load_at rfl 75 (.tmp 20) rfl Try.underlying75 rfl (sizeBd lo hi) rfl hcell.out ?_))
        go_ret
        exact ⟨ret_i (hS1.out k _ hx'.out hle).symm, hr.out.1.alloc hr.out.1.size _⟩
    · obtain rfl : n = k := by omega
      go_wp2
      go_ret
      exact ⟨ret_i (hS0.out wr hr.out.1 hr.out.2).symm, hr.out.1⟩
 · have hS : schE bs = 150 := schE_no fun hk => hn ⟨by rw [← hl]; exact ((okS_iff bs).1 hk).1, by rw [← hl]; exact ((okS_iff bs).1 hk).2.1⟩
   rw [hS]
   clear hS hl
   by_cases h0 : n < 1
   · go_enter Try.func39, Try.ntmps39
     go_wp2
     go_ret
     exact ⟨rfl, by go_grown⟩
   · have h3 : 3 < n := by omega
     go_enter Try.func39, Try.ntmps39
     go_wp2
     go_ret
     exact ⟨rfl, by go_grown⟩
end Go.Proofs.Ytkdkncbccofpdaa
namespace Go.Proofs.Ytkdkncbccofpdaa
open Go.RowKit
/-- the block g begins with these cells -/
def Boxed (w : World) (g : Nat) (vs : List Value) : Prop := ∀ j x, vs[j]? = some x → w.cell? ((⟨g, 0, none⟩ : Addr).add j) = some x
theorem Boxed.all {w : World} {g : Nat} {vs : List Value} (h : Boxed w g vs) : ∀ j x, vs[j]? = some x → w.cell? ((⟨g, 0, none⟩ : Addr).add j) = some x := h
theorem Boxed.below {B : Nat} {w w' : World} {g : Nat} {vs : List Value} (h : Boxed w g vs) (hb : Below B w w') (hB : w.heap.size ≤ B) : Boxed w' g vs := fun j x hj => cell_keeps hb hB (h j x hj)
theorem Boxed.made {T : TypeId} (w : World) (vs : List Value) : Boxed (w.alloc (.cells vs.toArray T)) w.heap.size vs := (RowV.made w vs).part (pre := []) (rest := []) (by simp) rfl
theorem Boxed.cell {w : World} {g : Nat} {vs : List Value} (h : Boxed w g vs) (j : Nat) {x : Value} (hx : vs[j]? = some x) : w.cell? ⟨g, j, none⟩ = some x := by
 have := h j x hx
 have hadd : (⟨g, 0, none⟩ : Addr).add j = ⟨g, j, none⟩ := by unfold Addr.add; split <;> simp_all
 rwa [hadd] at this
theorem two_boxes {w W : World} {T1 T2 : TypeId} {xs ys : List Value} (h : (w.alloc (.cells xs.toArray T1)).alloc (.cells ys.toArray T2) = W) : Below w.heap.size w W ∧ Boxed W w.heap.size xs ∧ Boxed W (w.heap.size + 1) ys ∧ W.heap.size = w.heap.size + 2 := by
 subst h
 refine ⟨((Below.refl _ _).alloc (Nat.le_refl _) _).alloc (by simp) _, (Boxed.made w _).below ((Below.refl _ _).alloc (Nat.le_refl _) _) (by simp), ?_, by simp⟩
 have := Boxed.made (T := T2) (w.alloc (.cells xs.toArray T1)) ys
 simpa using this
theorem one_box {w W : World} {T1 : TypeId} {xs : List Value} (h : w.alloc (.cells xs.toArray T1) = W) : Below w.heap.size w W ∧ Boxed W w.heap.size xs ∧ W.heap.size = w.heap.size + 1 := by
 subst h
 exact ⟨(Below.refl _ _).alloc (Nat.le_refl _) _, Boxed.made w _, by simp⟩
def keyE (bs : List BdD) (k : KeyD) : Int := if 0 ≤ k.t ∧ k.t < bs.length then 0 else 151
def noteE (r : RowD) : Int := if r.note.size ≤ 8 then 0 else 3
def inB (b : BdD) (v : Int) : Bool := decide (b.lo ≤ v) && decide (v ≤ b.hi)
def boundE (bs : List BdD) (r : RowD) : Int := match bs[r.key.t.toNat]? with
 | some b => if inB b r.val = true then 0 else 152
 | none => 152
def rowE (bs : List BdD) (r : RowD) : Int := if keyE bs r.key = 0 then (if noteE r = 0 then boundE bs r else 3) else 151
theorem keyE_or (bs : List BdD) (k : KeyD) : (0 ≤ k.t ∧ k.t < bs.length ∧ keyE bs k = 0) ∨ ((k.t < 0 ∨ (bs.length : Int) ≤ k.t) ∧ keyE bs k = 151) := by
 unfold keyE
 by_cases h : 0 ≤ k.t ∧ k.t < bs.length
 · exact .inl ⟨h.1, h.2, if_pos h⟩
 · exact .inr ⟨by omega, if_neg h⟩
theorem noteE_or (r : RowD) : (r.note.size ≤ 8 ∧ noteE r = 0) ∨ (8 < r.note.size ∧ noteE r = 3) := by
 unfold noteE
 by_cases h : r.note.size ≤ 8
 · exact .inl ⟨h, if_pos h⟩
 · exact .inr ⟨by omega, if_neg h⟩
theorem boundE_or {bs : List BdD} {r : RowD} {b : BdD} (h : bs[r.key.t.toNat]? = some b) : (b.lo ≤ r.val ∧ r.val ≤ b.hi ∧ boundE bs r = 0) ∨ ((r.val < b.lo ∨ b.hi < r.val) ∧ boundE bs r = 152) := by
 unfold boundE inB
 rw [h]
 by_cases h1 : b.lo ≤ r.val ∧ r.val ≤ b.hi
 · exact .inl ⟨h1.1, h1.2, by simp [h1]⟩
 · refine .inr ⟨by omega, ?_⟩
   simp only [Bool.and_eq_true, decide_eq_true_eq, if_neg h1]
set_option maxRecDepth 100000 in
set_option maxHeartbeats 1000000 in
theorem keyed_any (q : Option Addr) (n c : Nat) (bs : List BdD) (t id v : Int) (s : ByteArray) (w : World) (hl : bs.length = n) (_hn : n ≤ 9223372036854775807) :
 Calls Try.prog 54 #[.agg #[.slice q n c], .agg #[.int .i64 t, .int .u16 id, .int .i64 v, .string s]] w (fun e w' => e = .returned (.int .i64 (keyE bs ⟨t, id⟩)) ∧ Below w.heap.size w w') := by
 rcases keyE_or bs ⟨t, id⟩ with ⟨h1, h2, e⟩ | ⟨h1, e⟩
 · have h1' : 0 ≤ t := h1
   have h2' : t < (n : Int) := by rw [← hl]; exact h2
   have h3' : ¬ t < 0 := by omega
   rw [e]
   clear e h1 h2 hl
   go_enter Try.func54, Try.ntmps54
   go_wp2
   go_ret
   exact ⟨rfl, by go_grown⟩
 · rw [e]
   clear e
   by_cases h0 : t < 0
   · clear h1 hl
     go_enter Try.func54, Try.ntmps54
     go_wp2
     go_ret
     exact ⟨rfl, by go_grown⟩
   · have h2' : (n : Int) ≤ t := by rw [← hl]; exact h1.resolve_left h0
     have h0' : 0 ≤ t := by omega
     clear h1 hl
     go_enter Try.func54, Try.ntmps54
     go_wp2
     go_ret
     exact ⟨rfl, by go_grown⟩
set_option maxRecDepth 100000 in
set_option maxHeartbeats 1000000 in
theorem noted_any (q : Option Addr) (n c : Nat) (r : RowD) (t id v : Int) (s : ByteArray) (hr : r.note = s) (w : World) (hs : s.size ≤ maxLen) :
 Calls Try.prog 55 #[.agg #[.slice q n c], .agg #[.int .i64 t, .int .u16 id, .int .i64 v, .string s]] w (fun e w' => e = .returned (.int .i64 (noteE r)) ∧ Below w.heap.size w w') := by
 unfold maxLen at hs
 subst hr
 rcases noteE_or r with ⟨h1, e⟩ | ⟨h1, e⟩
 all_goals
  rw [e]
  clear e
  go_enter Try.func55, Try.ntmps55
  go_wp2
  go_ret
  exact ⟨rfl, by go_grown⟩
set_option maxRecDepth 100000 in
set_option maxHeartbeats 1000000 in
theorem bounded_any (q : Option Addr) (n c : Nat) (bs : List BdD) (t id v : Int) (s : ByteArray) (w : World) (h : SchOn w q n c bs) (h0 : 0 ≤ t) (h1 : t < n) :
 Calls Try.prog 56 #[.agg #[.slice q n c], .agg #[.int .i64 t, .int .u16 id, .int .i64 v, .string s]] w (fun e w' => e = .returned (.int .i64 (boundE bs ⟨⟨t, id⟩, v, s⟩)) ∧ Below w.heap.size w w') := by
 have hm := Nat.le_trans h.le h.cap
 unfold maxLen at hm
 obtain ⟨k, rfl⟩ : ∃ k : Nat, t = k := ⟨t.toNat, by omega⟩
 have hk : k < n := by omega
 obtain ⟨a, ⟨lo, hi⟩, rfl, hx, hok, hc⟩ := h.at hk
 have hw2 : Hid (Below w.heap.size w ((w.alloc (.cells #[.slice (some a) n c] 24)).alloc (.cells #[.int .i64 k, .int .u16 id, .int .i64 v, .string s] 68))) := by
  show Below _ _ _
  exact ((Below.refl _ _).alloc (Nat.le_refl _) _).alloc (by simp) _
 have hcell : Hid (∀ j x, ([.int .i64 lo, .int .i64 hi] : List Value)[j]? = some x → (((w.alloc (.cells #[.slice (some a) n c] 24)).alloc (.cells #[.int .i64 k, .int .u16 id, .int .i64 v, .string s] 68))).cell? ((a.add (k * 2)).add j) = some x) :=
  fun j x hj => cell_keeps hw2.out (Nat.le_refl _) (hc j x hj)
 have hb := boundE_or (bs := bs) (r := ⟨⟨k, id⟩, v, s⟩) (b := ⟨lo, hi⟩) (by simpa using hx)
 clear hc hx hok h hw2
 rcases hb with ⟨h2, h3, e⟩ | ⟨h2, e⟩
 · rw [e]
   clear e
   have h2' : lo ≤ v := h2
   have h3' : v ≤ hi := h3
   clear h2 h3
   go_enter Try.func56, Try.ntmps56
   go_wp2_with (first | (with_reducible refine wpList_load_at rfl 75 (.tmp 11) rfl Try.underlying75 rfl (sizeBd lo hi) rfl hcell.out ?_))
   go_ret
   exact ⟨rfl, by go_grown⟩
 · rw [e]
   clear e
   by_cases h4 : v < lo
   · clear h2
     go_enter Try.func56, Try.ntmps56
     go_wp2_with (first | (with_reducible refine wpList_load_at rfl 75 (.tmp 11) rfl Try.underlying75 rfl (sizeBd lo hi) rfl hcell.out ?_))
     go_ret
     exact ⟨rfl, by go_grown⟩
   · have h5 : hi < v := h2.resolve_left h4
     have h6 : lo ≤ v := by omega
     clear h2
     go_enter Try.func56, Try.ntmps56
     go_wp2_with (first | (with_reducible refine wpList_load_at rfl 75 (.tmp 11) rfl Try.underlying75 rfl (sizeBd lo hi) rfl hcell.out ?_))
     go_ret
     exact ⟨rfl, by go_grown⟩
end Go.Proofs.Ytkdkncbccofpdaa
