/- Parts of the proof: Blocks known whole, and values of several cells in them: load and store at any place, as laws for the walk; nothing of a program is claimed here; A store of one cell into a field of a box; Plain mathematics on bytes, and small facts on worlds, for the walks of this seat; nothing is claimed here; The contract of put: it returns new memory that holds what came in, and the number behind it, the highest byte first; The contracts of Put16, Put32, Put64 and bytes.Clone; The contract of the closure in number: it reckons the number that stands in its bytes; The contracts of number and Raw, way by way -/
import Derived.Test.YtocekhckmpkbmaaGreatRows
import Derived.WalkKit
import Derived.Laws.CopyOwn
import Derived.Lib.Hide
import Derived.Great.BuildSlice
import Derived.WalkSpells
import Derived.WalkLawsBesides
import Derived.Lib.SlBuf
import Derived.Handy
import Derived.IntWalk
import Derived.Test.YtocekhckmpkbmaaGreatShelf
namespace Go.Proofs.YtocekhckmpkbmaaGreat
open Go.RowKit
/-- The block g holds just these cells (and may be written). -/
def RowV (T : TypeId) (w : World) (g : Nat) (cs : List Value) : Prop := w.heap[g]? = some (.cells cs.toArray T (0, 0))
theorem RowV.cell {T : TypeId} {w : World} {g : Nat} {cs : List Value} (h : RowV T w g cs) (j : Nat) : w.cell? ⟨g, j, none⟩ = cs[j]? := by
 unfold RowV at h
 rw [cell_of_row w g j _ T (0, 0) h]
 simp
theorem RowV.free {T : TypeId} {w : World} {g : Nat} {cs : List Value} (h : RowV T w g cs) (j : Nat) : w.frozen? ⟨g, j, none⟩ = false := frozen_of_row w g j _ T h
theorem RowV.lt {T : TypeId} {w : World} {g : Nat} {cs : List Value} (h : RowV T w g cs) : g < w.heap.size := (Array.getElem?_eq_some_iff.1 h).1
theorem RowV.block {T : TypeId} {w w' : World} {g : Nat} {cs : List Value} (h : RowV T w g cs) (hb : w'.heap[g]? = w.heap[g]?) : RowV T w' g cs := by
 unfold RowV at *; rw [hb]; exact h
theorem RowV.below {T : TypeId} {w w' : World} {g : Nat} {cs : List Value} (h : RowV T w g cs) (hb : Below w.heap.size w w') : RowV T w' g cs := h.block (hb.block g h.lt)
theorem RowV.kept {T : TypeId} {w w' : World} {g k : Nat} {cs : List Value} (h : RowV T w g cs) (hg : w.grownBy w' (some k)) (hne : g ≠ k) : RowV T w' g cs := h.block (hg.block g h.lt (by simpa using hne))
theorem RowV.made {T : TypeId} (w : World) (cs : List Value) : RowV T (w.alloc (.cells cs.toArray T)) w.heap.size cs := heap_alloc_new _ _
theorem RowV.set {T : TypeId} {w : World} {g : Nat} {cs : List Value} (h : RowV T w g cs) (j : Nat) (v : Value) : RowV T (w.setCell ⟨g, j, none⟩ v) g (cs.set j v) := by
 have := heap_setCell_same w g j _ T v h
 unfold RowV
 rw [this]
 simp
theorem setCell_grown (w : World) (g j : Nat) (v : Value) : w.grownBy (w.setCell ⟨g, j, none⟩ v) (some g) :=
 ⟨rfl, rfl, rfl, by simp [World.setCell], fun i _ hne => Below.heap_setCell _ _ _ _ (fun e => hne (by rw [e]))⟩
theorem setRow_grown (w : World) (g : Nat) (cs : Array Value) : w.grownBy (w.setRow g cs) (some g) :=
 ⟨rfl, rfl, rfl, by simp, fun i _ hne => setRow_other w g i cs (by simpa using hne)⟩
theorem below_grown {a b : World} (h : Below a.heap.size a b) (r : Option Nat) : a.grownBy b r := ⟨h.os, h.tape, h.output, h.size, fun i hi _ => h.block i hi⟩
section
variable {P : Program} {w : World}
theorem agg_run {ty : TypeId} {d : TypeDesc} (hu : P.underlying ty = some d) (hd : (match d with | .struct _ | .array _ _ => true | _ => false) = true) : (isAgg ty).run P w = .ok true w := by
 unfold isAgg
 rw [Sem.run_bind, run_underlying hu w]
 cases d <;> simp_all
/-- a value of several cells, loaded from wherever they lie -/
theorem run_loadVar_at {ty : TypeId} {d : TypeDesc} (hu : P.underlying ty = some d) (hd : (match d with | .struct _ | .array _ _ => true | _ => false) = true) {vs : List Value} (hi : (P.info? ty).map (·.size) = some vs.length) (ad : Addr)
 (hc : ∀ j v, vs[j]? = some v → w.cell? (ad.add j) = some v) : (loadVar ty ad).run P w = .ok (.agg vs.toArray) w := by
 have hl := run_loadCells_list (P := P) w ad vs hc
 cases hq : P.info? ty with
 | none => simp [hq] at hi
 | some i =>
   have hs : i.size = vs.length := by simpa [hq] using hi
   simp [loadVar, Sem.run_bind, agg_run hu hd, sizeOf, typeInfo, hq, hs, hl]
theorem wpList_load_at {ops : Array Oper} {rest : List Oper} {o : Oper} {a : Act} {Q : Exit → Act → World → Prop} (hgd : o.guard = none) (ty : TypeId) (x : Operand) (ho : o.op = .load ty x) {d : TypeDesc} (hu : P.underlying ty = some d)
 (hd : (match d with | .struct _ | .array _ _ => true | _ => false) = true) {vs : List Value} (hi : (P.info? ty).map (·.size) = some vs.length) {ad : Addr} (hx : a.eval x = .pointer (some ad))
 (hc : ∀ j v, vs[j]? = some v → w.cell? (ad.add j) = some v) (h : wpList P ops Q rest (a.put o.dst (.agg vs.toArray)) w) : wpList P ops Q (o :: rest) a w := by
 refine wpList_plain hgd fun K hK => ?_
 unfold Oper.wp execOp
 simp only [ho, hx, Instr.loadAt, Instr.sureAddr, Sem.run_bind, Sem.run_pure, Result.andThen_ok, run_loadVar_at hu hd hi ad hc]
 exact hK _ _ h
theorem RowV.part {T : TypeId} {g o : Nat} {cs vs rest pre : List Value} (h : RowV T w g cs) (he : cs = pre ++ (vs ++ rest)) (ho : pre.length = o) : ∀ j v, vs[j]? = some v → w.cell? ((⟨g, o, none⟩ : Addr).add j) = some v := by
 intro j v hj
 have hadd : (⟨g, o, none⟩ : Addr).add j = ⟨g, o + j, none⟩ := by unfold Addr.add; split <;> simp_all
 have hl : j < vs.length := (List.getElem?_eq_some_iff.1 hj).1
 rw [hadd, h.cell, he, List.getElem?_append_right (by omega), ho, Nat.add_sub_cancel_left, List.getElem?_append_left hl, hj]
/-- a value of several cells, stored into a block that is known whole -/
theorem run_storeVar_at {T ty : TypeId} {g o : Nat} {cs vs : List Value} (h : RowV T w g cs) (hi : (P.info? ty).map (·.size) = some vs.length) (hfit : o + vs.length ≤ cs.length) (h1 : ∀ v ∈ vs, v.oneCell' = true) :
 ∃ w', (storeVar ty ⟨g, o, none⟩ (.agg vs.toArray)).run P w = .ok () w' ∧ RowV T w' g (splice cs o vs) ∧ w.grownBy w' (some g) := by
 have hst := run_storeCells_at P g o T vs 0 cs.toArray w h (by simpa using hfit) h1
 simp only [Nat.add_zero] at hst
 have hrow : (w.setRow g (cs.take o ++ vs ++ cs.drop (o + vs.length)).toArray).heap[g]? = some (.cells (cs.take o ++ vs ++ cs.drop (o + vs.length)).toArray T (0, 0)) := setRow_heap w g _ _ T _ h
 refine ⟨w.setRow g (cs.take o ++ vs ++ cs.drop (o + vs.length)).toArray, ?_, ?_, setRow_grown w g _⟩
 · cases hq : P.info? ty with
   | none => simp [hq] at hi
   | some i =>
     have hs : vs.length = i.size := by have := hi; simp [hq] at this; omega
     simp [storeVar, sizeOf, typeInfo, hq, Value.cells, hs]
     rw [hs] at hst
     simpa using hst
 · unfold RowV splice
   rw [← List.append_assoc]
   exact hrow
theorem wpList_store_at {ops : Array Oper} {rest : List Oper} {op : Oper} {a : Act} {Q : Exit → Act → World → Prop} (hgd : op.guard = none) (ty : TypeId) (x y : Operand) (ho : op.op = .store ty x y) {T : TypeId} {g o : Nat} {cs vs : List Value}
 (hx : a.eval x = .pointer (some ⟨g, o, none⟩)) (hy : a.eval y = .agg vs.toArray) (h : RowV T w g cs) (hi : (P.info? ty).map (·.size) = some vs.length) (hfit : o + vs.length ≤ cs.length) (h1 : ∀ v ∈ vs, v.oneCell' = true)
 (hK : ∀ w', RowV T w' g (splice cs o vs) → w.grownBy w' (some g) → wpList P ops Q rest (a.put op.dst undef) w') : wpList P ops Q (op :: rest) a w := by
 refine wpList_plain hgd fun K hK' => ?_
 obtain ⟨w', hrun, r1, r2⟩ := run_storeVar_at (P := P) (ty := ty) h hi hfit h1
 unfold Oper.wp execOp
 simp only [ho, hx, hy, Instr.storeAt, Instr.sureAddr, Sem.run_bind, Sem.run_pure, Result.andThen_ok, hrun]
 exact hK' _ _ (hK w' r1 r2)
end
end Go.Proofs.YtocekhckmpkbmaaGreat
namespace Go.Proofs.YtocekhckmpkbmaaGreat
section
variable {P : Program} {w : World}
theorem run_storeVar_f {T ty : TypeId} {g o : Nat} {cs : List Value} {v : Value} (h : RowV T w g cs) (hi : (P.info? ty).map (·.size) = some 1) (hfit : o < cs.length) (h1 : v.oneCell' = true) :
 ∃ w', (storeVar ty ⟨g, o, none⟩ v).run P w = .ok () w' ∧ RowV T w' g (splice cs o [v]) ∧ w.grownBy w' (some g) := by
 obtain ⟨w', a, b, c⟩ := run_storeVar_at (P := P) (ty := ty) (vs := [v]) h hi (by show o + 1 ≤ cs.length; omega) (by simpa using h1)
 refine ⟨w', ?_, b, c⟩
 rw [← a]
 have hc : v.cells = #[v] := by cases v <;> first | rfl | simp [Value.oneCell'] at h1
 have hc2 : (Value.agg [v].toArray).cells = #[v] := rfl
 unfold storeVar
 rw [hc, hc2]
theorem wpList_store_f {ops : Array Oper} {rest : List Oper} {op : Oper} {a : Act} {Q : Exit → Act → World → Prop} (hgd : op.guard = none) (ty : TypeId) (x y : Operand) (ho : op.op = .store ty x y) {T : TypeId} {g o : Nat} {cs : List Value} {v : Value}
 (hx : a.eval x = .pointer (some ⟨g, o, none⟩)) (hy : a.eval y = v) (h : RowV T w g cs) (hi : (P.info? ty).map (·.size) = some 1) (hfit : o < cs.length) (h1 : v.oneCell' = true)
 (hK : ∀ w', RowV T w' g (splice cs o [v]) → w.grownBy w' (some g) → wpList P ops Q rest (a.put op.dst undef) w') : wpList P ops Q (op :: rest) a w := by
 refine wpList_plain hgd fun K hK' => ?_
 obtain ⟨w', hrun, r1, r2⟩ := run_storeVar_f (P := P) (ty := ty) h hi hfit h1
 unfold Oper.wp execOp
 simp only [ho, hx, hy, Instr.storeAt, Instr.sureAddr, Sem.run_bind, Sem.run_pure, Result.andThen_ok, hrun]
 exact hK' _ _ (hK w' r1 r2)
end
end Go.Proofs.YtocekhckmpkbmaaGreat
namespace Go.Proofs.YtocekhckmpkbmaaGreat
open Go.RowKit
/-- the k least digits of x to the base 256, the highest one first -/
def be : Nat → Nat → List UInt8
 | 0, _ => []
 | k + 1, x => be k (x / 256) ++ [UInt8.ofNat x]
theorem length_be : ∀ (k x : Nat), (be k x).length = k
 | 0, _ => rfl
 | k + 1, x => by simp [be, length_be k]
/-- one digit more, in front -/
theorem be_cons : ∀ (k x : Nat), be (k + 1) x = UInt8.ofNat (x / 256 ^ k) :: be k x
 | 0, x => by simp [be]
 | k + 1, x => by
   rw [be, be_cons k (x / 256), be]
   simp [Nat.div_div_eq_div_mul, Nat.pow_succ, Nat.mul_comm]
def vals (l : List UInt8) : List Value := l.map fun x => Value.int .u8 (x.toNat : Int)
theorem length_vals (l : List UInt8) : (vals l).length = l.length := by simp [vals]
theorem vals_append (l m : List UInt8) : vals (l ++ m) = vals l ++ vals m := by simp [vals]
theorem one_vals (l : List UInt8) : ∀ v ∈ vals l, v.oneCell' = true := by
 intro v hv
 obtain ⟨x, _, rfl⟩ := List.mem_map.1 hv
 rfl
theorem vals_get {l : List UInt8} {j : Nat} {v : Value} (h : (vals l)[j]? = some v) : ∃ x, l[j]? = some x ∧ v = .int .u8 (x.toNat : Int) := by
 unfold vals at h
 rw [List.getElem?_map] at h
 obtain ⟨x, hx, rfl⟩ := Option.map_eq_some_iff.1 h
 exact ⟨x, hx, rfl⟩
def zs (m : Nat) : List UInt8 := List.replicate m 0
theorem length_zs (m : Nat) : (zs m).length = m := by simp [zs]
theorem made_zs (m : Nat) : madeCells #[.int .u8 0] m = (vals (zs m)).toArray := by
 apply Array.ext
 · simp [madeCells, vals, zs]
 · intro i h1 h2
   simp [madeCells, vals, zs, Nat.mod_one]
/-- The block g holds just these bytes (and may be written). -/
def Row (T : TypeId) (w : World) (g : Nat) (l : List UInt8) : Prop := w.heap[g]? = some (.cells (vals l).toArray T (0, 0))
theorem Row.cell {T : TypeId} {w : World} {g : Nat} {l : List UInt8} (h : Row T w g l) (j : Nat) (hj : j < l.length) : w.cell? ⟨g, j, none⟩ = some (.int .u8 ((l[j]).toNat : Int)) := by
 unfold Row at h
 simp [World.cell?, h, vals, hj]
theorem Row.free {T : TypeId} {w : World} {g : Nat} {l : List UInt8} (h : Row T w g l) (j : Nat) : w.frozen? ⟨g, j, none⟩ = false := by
 unfold Row at h
 simp [World.frozen?, h]
theorem Row.lt {T : TypeId} {w : World} {g : Nat} {l : List UInt8} (h : Row T w g l) : g < w.heap.size := (Array.getElem?_eq_some_iff.1 h).1
theorem Row.set {T : TypeId} {w : World} {g : Nat} {l : List UInt8} (h : Row T w g l) (j : Nat) (y : UInt8) : Row T (w.setCell ⟨g, j, none⟩ (.int .u8 (y.toNat : Int))) g (l.set j y) := by
 have hlt := h.lt
 have hv : w.heap[g] = .cells (vals l).toArray T (0, 0) := (Array.getElem?_eq_some_iff.1 h).2
 show (w.heap.modify g _)[g]? = _
 rw [Array.getElem?_eq_getElem (by simpa using hlt), Array.getElem_modify_self, hv]
 simp [vals, List.map_set]
theorem Row.holds {T : TypeId} {w : World} {g : Nat} {l : List UInt8} (h : Row T w g l) (c : Nat) : Lib.HoldsBytes w (.slice (some ⟨g, 0, none⟩) l.length c) l := by
 refine ⟨some ⟨g, 0, none⟩, c, rfl, (fun e => by cases e), fun a ha i x hx => ?_⟩
 cases ha
 have hi : i < l.length := (List.getElem?_eq_some_iff.1 hx).1
 have hadd : (⟨g, 0, none⟩ : Addr).add i = ⟨g, i, none⟩ := by unfold Addr.add; split <;> simp_all
 rw [hadd, h.cell i hi]
 rw [(List.getElem?_eq_some_iff.1 hx).2]
theorem Row.block {T : TypeId} {w w' : World} {g : Nat} {l : List UInt8} (h : Row T w g l) (hb : w'.heap[g]? = w.heap[g]?) : Row T w' g l := by
 unfold Row at *; rw [hb]; exact h
theorem holds_below {B : Nat} {w w' : World} {v : Value} {l : List UInt8} (h : Lib.HoldsBytes w v l) (hb : Below B w w') (hB : w.heap.size ≤ B) : Lib.HoldsBytes w' v l := by
 obtain ⟨p, cap, rfl, h1, h2⟩ := h
 exact ⟨p, cap, rfl, h1, fun a ha i x hx => Lib.Below.cellOf hb (h2 a ha i x hx) hB⟩
/-- what 'copy' asks of its source -/
theorem holds_src {w w' : World} {p : Option Addr} {n c : Nat} {l : List UInt8} (h : Lib.HoldsBytes w (.slice p n c) l) (hb : Below w.heap.size w w') :
 n = l.length ∧ (0 < (vals l).length → ∃ ad, p = some ad ∧ ∀ j v, (vals l)[j]? = some v → w'.cell? (ad.add j) = some v) := by
 obtain ⟨q, cap, he, h1, h2⟩ := h
 cases he
 refine ⟨rfl, fun hp => ?_⟩
 rw [length_vals] at hp
 cases p with
 | none => have := h1 rfl; subst this; simp at hp
 | some ad =>
   refine ⟨ad, rfl, fun j v hv => ?_⟩
   obtain ⟨x, hx, rfl⟩ := vals_get hv
   exact Lib.Below.cellOf hb (h2 ad rfl j x hx) (Nat.le_refl _)
theorem splice_front (l : List UInt8) (m : Nat) : splice (vals (zs (l.length + m))) 0 (vals l) = vals (l ++ zs m) := by
 simp [splice, vals, zs]
end Go.Proofs.YtocekhckmpkbmaaGreat
namespace Go.Proofs.YtocekhckmpkbmaaGreat
open Go.RowKit
theorem info5 : (Tryz.prog.info? 5).map (fun i => (i.zero, i.size, i.bytes)) = some (some (.int .u8 0), 1, 1) := by kernel_rfl
theorem size5 : (Tryz.prog.info? 5).map (·.size) = some 1 := by kernel_rfl
def PutPost (w : World) (m : Nat) (l : List UInt8) (e : Ending) (w' : World) : Prop :=
 e = .returned (.slice (some ⟨w.heap.size, 0, none⟩) m m) ∧ Row 5 w' w.heap.size l ∧ Below w.heap.size w w'
def PutRel (w wr : World) (l : List UInt8) (k j x : Nat) : Prop :=
 Below w.heap.size w wr ∧ Row 5 wr w.heap.size (l ++ zs (k - j) ++ be j x)
theorem digit (x j : Nat) : ((x : Int) / 2 ^ (8 * j) % 256) = ((UInt8.ofNat (x / 256 ^ j)).toNat : Int) := by
 have e : (2 : Int) ^ (8 * j) = ((256 ^ j : Nat) : Int) := by
  rw [Int.pow_mul]; norm_cast
 rw [e]
 simp
theorem put_set (l : List UInt8) (k j x : Nat) (h : j < k) :
 (l ++ zs (k - j) ++ be j x).set (l.length + k - 1 - j) (UInt8.ofNat (x / 256 ^ j)) = l ++ zs (k - (j + 1)) ++ be (j + 1) x := by
 have e : zs (k - j) = zs (k - (j + 1)) ++ [0] := by
  have : k - j = (k - (j + 1)) + 1 := by omega
  rw [this]; simp [zs, List.replicate_succ']
 rw [e, be_cons]
 rw [show l ++ (zs (k - (j + 1)) ++ [0]) ++ be j x = (l ++ zs (k - (j + 1))) ++ (0 :: be j x) by simp]
 rw [List.set_append_right _ _ (by simp [zs]; omega)]
 rw [show l.length + k - 1 - j - (l ++ zs (k - (j + 1))).length = 0 by simp [zs]; omega]
 simp
theorem PutRel.cell {w wr : World} {l : List UInt8} {k j x n : Nat} (h : PutRel w wr l k j x) (hn : n = l.length) (hj : j < k) : ∃ v, wr.cell? ⟨w.heap.size, n + k - 1 - j, none⟩ = some v :=
 ⟨_, h.2.cell (n + k - 1 - j) (by simp [zs, length_be]; omega)⟩
theorem PutRel.free {w wr : World} {l : List UInt8} {k j x n : Nat} (h : PutRel w wr l k j x) : wr.frozen? ⟨w.heap.size, n + k - 1 - j, none⟩ = false := h.2.free _
theorem PutRel.step {w wr : World} {l : List UInt8} {k j x n : Nat} (h : PutRel w wr l k j x) (hn : n = l.length) (hj : j < k) :
 PutRel w (wr.setCell ⟨w.heap.size, n + k - 1 - j, none⟩ (.int .u8 ((x : Int) / 2 ^ (8 * j) % 256))) l k (j + 1) x := by
 refine ⟨h.1.setCell (p := ⟨w.heap.size, _, none⟩) (Nat.le_refl _) _, ?_⟩
 rw [digit, ← put_set l k j x hj, hn]
 exact h.2.set _ _
set_option maxHeartbeats 400000 in
theorem put_any (p : Option Addr) (n c k : Nat) (x : Nat) (l : List UInt8) (w : World) (hv : Lib.HoldsBytes w (.slice p n c) l) (hn : n ≤ 140737488355328) (hk : k ≤ 8) :
 Calls Tryz.prog 115 #[.slice p n c, .int .u64 (x : Int), .int .i64 k] w (PutPost w (n + k) (l ++ be k x)) := by
 obtain ⟨i0, hi, hz0, hz1, hz2⟩ := info_parts info5
 have hmk : ∀ u : World, (Instr.makeSlice 36 (.int .i64 ((n : Int) + k)) (.int .i64 ((n : Int) + k))).run Tryz.prog u =
  .ok (.slice (some ⟨u.heap.size, 0, none⟩) (n + k) (n + k)) (u.alloc (.cells (vals (zs (n + k))).toArray 5)) := fun u => by
  have h := run_make (P := Tryz.prog) u 36 5 i0 (.int .u8 0) Tryz.underlying36 hi hz0 .i64 .i64 ((n : Int) + k) ((n : Int) + k) (by omega) (Int.le_refl _) (by rw [hz2]; omega) (by omega)
  have e : ((n : Int) + k).toNat = n + k := by omega
  rw [e, hz1, Nat.mul_one, show (Value.int .u8 0).cells = #[.int .u8 0] from rfl, made_zs] at h
  exact h
 have hB := Lib.hid ((Below.refl w.heap.size w).alloc (Nat.le_refl _) (.cells (vals (zs (n + k))).toArray 5))
 have hs := Lib.hid (holds_src hv hB.out)
 have c1 := Lib.hid (heap_alloc_new w (.cells (vals (zs (n + k))).toArray 5))
 have c2 : Hid ((vals l).length = Nat.min n (n + k)) := by show _ = min n (n + k); rw [length_vals, hs.out.1]; omega
 have c4 : Hid (0 + (vals l).length ≤ (vals (zs (n + k))).length) := by show _ ≤ _; rw [length_vals, length_vals, length_zs, hs.out.1]; omega
 have c5 := Lib.hid (one_vals l)
 have hv1 := Lib.hid hv
 clear hv
 clear hi hz0 hz1 hz2
 go_enter Tryz.func115, Tryz.ntmps115
 go_wp2_with (with_reducible (refine wpList_copy_splice rfl (.tmp 14) (.tmp 15) 36 36 rfl 5 Tryz.underlying36 size5 _ _ _ _ _ _ rfl rfl w.heap.size 0 (vals (zs (n + k))) 5 c1.out (vals l) c2.out (fun h => ⟨rfl, hs.out.2 h⟩) c4.out c5.out w.heap.size w hB.out (Nat.le_refl _) ?_; intro w2 HG2 hB2))
 have hrow0 : PutRel w w2 l k 0 x := ⟨hB2, by
  have h := HG2.out
  have e := hs.out.1
  subst e
  rw [splice_front] at h
  show _ = _
  rw [h]; simp [be]⟩
 clear HG2 hB2
 go_loopw [18] (fun v18 wr => ∃ j : Nat, j ≤ k ∧ v18 = .int .i64 j ∧ PutRel w wr l k j x) (fun v18 _ => k - (intOf v18).toNat)
 case atStart => exact ⟨0, Nat.zero_le _, rfl, hrow0⟩
 case round =>
  obtain ⟨j, hj, rfl, hr⟩ := hrel
  by_cases hlt : j < k
  · obtain ⟨v0, hcell⟩ := hr.cell hs.out.1 hlt
    have hfree := hr.free (n := n)
    have hnext := Lib.hid (hr.step hs.out.1 hlt)
    go_wp2
    go_roundw
    case rel => exact ⟨j + 1, by omega, by go_num, hnext.out⟩
    case measure => simp [intOf]; omega
  · obtain rfl : j = k := by omega
    go_wp2
    go_ret
    refine ⟨rfl, ?_, hr.1⟩
    have h := hr.2
    simpa [zs] using h
end Go.Proofs.YtocekhckmpkbmaaGreat
namespace Go.Proofs.YtocekhckmpkbmaaGreat
open Go.RowKit
theorem put_int (p : Option Addr) (n c : Nat) (k x : Int) (l : List UInt8) (w : World) (hv : Lib.HoldsBytes w (.slice p n c) l) (hn : n ≤ 140737488355328) (hx : 0 ≤ x) (hk0 : 0 ≤ k) (hk : k ≤ 8) :
 Calls Tryz.prog 115 #[.slice p n c, .int .u64 x, .int .i64 k] w (PutPost w (n + k.toNat) (l ++ be k.toNat x.toNat)) := by
 have h := put_any p n c k.toNat x.toNat l w hv hn (by omega)
 rwa [Int.toNat_of_nonneg hx, Int.toNat_of_nonneg hk0] at h
set_option maxHeartbeats 400000 in
theorem put64 (p : Option Addr) (n c : Nat) (x : Int) (l : List UInt8) (w : World) (hv : Lib.HoldsBytes w (.slice p n c) l) (hn : n ≤ 140737488355328) (hx : 0 ≤ x) :
 Calls Tryz.prog 93 #[.slice p n c, .int .u64 x] w (PutPost w (n + 8) (l ++ be 8 x.toNat)) := by
 have hv1 := Lib.hid hv
 clear hv
 go_enter Tryz.func93, Tryz.ntmps93
 go_wp2_with (go_at_call 115; refine (put_int p n c 8 x l w hv1.out hn hx (by omega) (by omega)).mono ?_; rintro e w' ⟨rfl, hrow, hb⟩)
 go_ret
 exact ⟨rfl, hrow, hb⟩
set_option maxHeartbeats 400000 in
theorem put16 (p : Option Addr) (n c : Nat) (x : Int) (l : List UInt8) (w : World) (hv : Lib.HoldsBytes w (.slice p n c) l) (hn : n ≤ 140737488355328) (hx : 0 ≤ x) (hx1 : x < 65536) :
 Calls Tryz.prog 159 #[.slice p n c, .int .u16 x] w (PutPost w (n + 2) (l ++ be 2 x.toNat)) := by
 have hv1 := Lib.hid hv
 clear hv
 go_enter Tryz.func159, Tryz.ntmps159
 go_wp2_with (go_at_call 115; refine (put_int p n c 2 x l w hv1.out hn hx (by omega) (by omega)).mono ?_; rintro e w' ⟨rfl, hrow, hb⟩)
 go_ret
 exact ⟨rfl, hrow, hb⟩
/-- A slice of the bytes l whose array, if there is one, lies at block B or later. -/
def New (B : Nat) (w : World) (v : Value) (l : List UInt8) : Prop :=
 Lib.HoldsBytes w v l ∧ ∀ a n c, v = .slice (some a) n c → B ≤ a.block ∧ a.block < w.heap.size ∧ n ≤ c
def ClonePost (w : World) (l : List UInt8) (e : Ending) (w' : World) : Prop :=
 ∃ q c', e = .returned (.slice q l.length c') ∧ New w.heap.size w' (.slice q l.length c') l ∧ Below w.heap.size w w'
theorem clone (p : Option Addr) (n c : Nat) (l : List UInt8) (w : World) (hv : Lib.HoldsBytes w (.slice p n c) l) (hn : n ≤ 140737488355328) :
 Calls Tryz.prog 100 #[.slice p n c] w (ClonePost w l) := by
 obtain ⟨q, cap, he, h1, h2⟩ := hv
 cases he
 cases p with
 | none =>
   have := h1 rfl
   subst this
   refine (Tryz.bytes_Clone_nil _ c w).mono ?_
   rintro e w' ⟨rfl, rfl⟩
   exact ⟨none, 0, rfl, ⟨⟨none, 0, rfl, fun _ => rfl, fun a ha => by cases ha⟩, fun a n c h => by cases h⟩, Below.refl _ _⟩
 | some a =>
   refine (Tryz.bytes_Clone_at a l.length c (Lib.numsL l) w (Lib.numsL_length l) hn (fun i hi => ?_)).mono ?_
   · rw [h2 a rfl i l[i] (List.getElem?_eq_getElem hi)]
     simp [Lib.numsL, List.getD, hi]
   rintro e w' ⟨v', rfl, hown, hne, hb⟩
   obtain ⟨hlen, hr | ⟨g, cap', cur, rfl, hg, hh, hle, hm, hsz, htk⟩⟩ := hown
   · exact absurd hr.1 hne
   · refine ⟨some ⟨g, 0, none⟩, cap', rfl, ⟨⟨some ⟨g, 0, none⟩, cap', rfl, (fun h => by cases h), fun a ha i x hx => ?_⟩, fun a n c h => by cases h; exact ⟨hg, (Array.getElem?_eq_some_iff.1 hh).1, hle⟩⟩, hb⟩
     cases ha
     have hadd : (⟨g, 0, none⟩ : Addr).add i = ⟨g, i, none⟩ := by unfold Addr.add; split <;> simp_all
     have hi : i < l.length := (List.getElem?_eq_some_iff.1 hx).1
     rw [hadd, cell_of_row w' g i cur 5 (0, 0) hh]
     have h3 := congrArg (·[i]?) htk
     simp only [Nat.mul_one] at h3
     rw [List.getElem?_take_of_lt hi] at h3
     rw [← Array.getElem?_toList, h3]
     simp [Lib.numsL, hx]
end Go.Proofs.YtocekhckmpkbmaaGreat
namespace Go.Proofs.YtocekhckmpkbmaaGreat
open Go.RowKit
def num (l : List UInt8) : Nat := l.foldl (fun a b => a * 256 + b.toNat) 0
theorem num_snoc (l : List UInt8) (b : UInt8) : num (l ++ [b]) = num l * 256 + b.toNat := by simp [num]
theorem num_go_lt : ∀ (l : List UInt8) (a : Nat), l.foldl (fun a b => a * 256 + b.toNat) a < (a + 1) * 256 ^ l.length
 | [], a => by simp
 | b :: l, a => by
   have h := num_go_lt l (a * 256 + b.toNat)
   have hb := b.toNat_lt
   rw [List.foldl_cons, List.length_cons, Nat.pow_succ]
   refine Nat.lt_of_lt_of_le h ?_
   rw [Nat.mul_comm (256 ^ l.length) 256, ← Nat.mul_assoc]
   exact Nat.mul_le_mul_right _ (by omega)
theorem num_lt (l : List UInt8) : num l < 256 ^ l.length := by
 have h := num_go_lt l 0
 simpa [num] using h
/-- the call's own variables: the width, the number so far -/
structure NumRel (w wr : World) (bk bx : Nat) (k i : Nat) (l : List UInt8) : Prop where
 grown : w.grownBy wr (some bx)
 size : wr.heap.size = w.heap.size
 var : wr.heap[bx]? = some (.cells #[.int .u64 (num (l.take i) : Int)] 24 (0, 0))
theorem or_digit (x : Nat) (b : UInt8) (h : x * 256 + b.toNat < 18446744073709551616) :
 bits .or .u64 (IntKind.u64.wrap ((x : Int) * 256)) (IntKind.u64.wrap (b.toNat : Int)) = ((x * 256 + b.toNat : Nat) : Int) := by
 have hb := b.toNat_lt
 have e1 : IntKind.u64.wrap ((x : Int) * 256) = ((x * 256 : Nat) : Int) := by rw [IntWalk.u64_in _ (by omega)]; omega
 have e2 : IntKind.u64.wrap (b.toNat : Int) = ((b.toNat : Nat) : Int) := IntWalk.u64_in _ (by omega)
 rw [e1, e2, u64_or_nat (x * 256) b.toNat (Nat.lt_of_le_of_lt (Nat.le_add_right _ _) h) (Nat.lt_of_le_of_lt (Nat.le_add_left _ _) h)]
 congr 1
 have h2 := Nat.shiftLeft_add_eq_or_of_lt (i := 8) (b := b.toNat) hb x
 rw [Nat.shiftLeft_eq, show (2 : Nat) ^ 8 = 256 from rfl] at h2
 exact h2.symm
theorem NumRel.step {w wr : World} {bk bx k i n : Nat} {l : List UInt8} {b : UInt8} (h : NumRel w wr bk bx k i l) (hb : l[i]? = some b) (hl : l.length = n) (hn : n ≤ 8) :
 NumRel w (wr.setCell ⟨bx, 0, none⟩ (.int .u64 (bits .or .u64 (IntKind.u64.wrap ((num (l.take i) : Int) * 256)) (IntKind.u64.wrap (b.toNat : Int))))).drew bk bx k (i + 1) l := by
 have hi : i < l.length := (List.getElem?_eq_some_iff.1 hb).1
 have e : l.take (i + 1) = l.take i ++ [b] := by
  rw [List.take_add_one, hb]; rfl
 have hlt := num_lt (l.take (i + 1))
 have hp : 256 ^ (l.take (i + 1)).length ≤ 256 ^ 8 := Nat.pow_le_pow_right (by omega) (by rw [List.length_take]; omega)
 rw [e, num_snoc] at hlt
 rw [or_digit _ _ (by rw [e] at hp; have h8 : (256 : Nat) ^ 8 = 18446744073709551616 := by decide
                      omega)]
 refine ⟨⟨h.grown.os, h.grown.tape, h.grown.output, ?_, ?_⟩, ?_, ?_⟩
 · have := h.size
   simp [World.setCell, World.drew]; omega
 · intro k hk hne
   show (wr.setCell _ _).heap[k]? = _
   rw [Below.heap_setCell _ _ _ _ (fun h' => hne (by rw [h']))]
   exact h.grown.block k hk hne
 · show (wr.setCell _ _).heap.size = _
   simp [World.setCell, h.size]
 · show (wr.setCell _ _).heap[bx]? = _
   rw [one_setCell h.var, e, num_snoc]
theorem NumRel.old {w wr : World} {bk bx k i n c : Nat} {l : List UInt8} {q : Option Addr} (h : NumRel w wr bk bx k i l) (hv : Lib.HoldsBytes w (.slice q n c) l) (hq : ∀ a, q = some a → a.block ≠ bx) (hi : i < n) :
 ∃ a b, q = some a ∧ l[i]? = some b ∧ wr.cell? (a.add i) = some (.int .u8 (b.toNat : Int)) := by
 obtain ⟨p, cap, he, h1, h2⟩ := hv
 cases he
 cases q with
 | none => have := h1 rfl; subst this; simp at hi
 | some a =>
   have hx := List.getElem?_eq_getElem hi
   have hc := h2 a rfl i _ hx
   refine ⟨a, _, rfl, hx, ?_⟩
   have hbl : (a.add i).block = a.block := by unfold Addr.add; split <;> rfl
   rw [World.cell?_of_block (h.grown.block _ (World.block_lt_of_cell? w _ hc) (by rw [hbl]; intro e; exact hq a rfl (by simpa using e)))]
   exact hc
set_option maxHeartbeats 400000 in
theorem number1 (q : Option Addr) (n c bk bx : Nat) (l : List UInt8) (w : World) (hv : Lib.HoldsBytes w (.slice q n c) l) (hn : n ≤ 8)
 (hq : ∀ a, q = some a → a.block ≠ bx) (hk : w.heap[bk]? = some (.cells #[.int .i64 n] 3 (0, 0))) (hx : w.heap[bx]? = some (.cells #[.int .u64 0] 24 (0, 0))) :
 Calls Tryz.prog 119 #[.slice q n c, .pointer (some ⟨bk, 0, none⟩), .pointer (some ⟨bx, 0, none⟩)] w (fun e w' => e = .returned (.tuple #[]) ∧ NumRel w w' bk bx n n l) := by
 have hl1 : Hid (l.length = n) := by obtain ⟨_, _, he, _⟩ := hv; cases he; exact rfl
 have hv1 := Lib.hid hv
 have hk1 := Lib.hid hk
 have hx1 := Lib.hid hx
 have hq1 := Lib.hid hq
 have ck := cell_of_one hk
 clear hv hk hx hq
 go_enter Tryz.func119, Tryz.ntmps119
 go_wp2
 go_loopw [6] (fun v6 wr => ∃ i : Nat, i ≤ n ∧ v6 = .int .i64 i ∧ NumRel w wr bk bx n i l) (fun v6 _ => n - (intOf v6).toNat)
 case atStart => exact ⟨0, Nat.zero_le _, rfl, ⟨⟨rfl, rfl, rfl, Nat.le_refl _, fun _ _ _ => rfl⟩, rfl, hx1.out⟩⟩
 case round =>
  obtain ⟨i, hi, rfl, hr⟩ := hrel
  have cx := cell_of_one hr.var
  have fx := free_of_one hr.var
  by_cases hlt : i < n
  · obtain ⟨a, b, rfl, hb, hcb⟩ : ∃ a b, q = some a ∧ l[i]? = some b ∧ wr.cell? (a.add i) = some (.int .u8 (b.toNat : Int)) := by
     exact hr.old hv1.out hq1.out hlt
    have hnext := Lib.hid (hr.step hb hl1.out hn)
    clear hb
    go_wp2
    go_region
    go_wp2
    go_roundw
    case rel => exact ⟨i + 1, by omega, by go_num, hnext.out⟩
    case measure => simp [intOf]; omega
  · obtain rfl : i = n := by omega
    go_wp2
    go_end0
    exact ⟨rfl, hr⟩
end Go.Proofs.YtocekhckmpkbmaaGreat
namespace Go.Proofs.YtocekhckmpkbmaaGreat
open Go.RowKit
/-- where a slice begins behind its first k elements -/
def tl (p : Option Addr) (c k : Nat) : Option Addr := if c = k then p else p.map (·.add k)
theorem add_zero (a : Addr) : a.add 0 = a := by cases a; unfold Addr.add; split <;> simp_all
set_option maxRecDepth 100000 in
theorem slice_head (p : Option Addr) (n c k : Nat) (hk : k ≤ n) (hn : n ≤ c) (u : World) :
 (Instr.slice 149 (.slice p n c) none (some (.int .i64 (k : Int))) none).run Tryz.prog u = .ok (.slice p k c) u := by
 have h := run_slice_h (P := Tryz.prog) u 149 p n c (by kernel_rfl) .i64 (k : Int) (by omega) (by omega)
 rw [h, show (sizeOf (Tryz.prog.elem 149)).run Tryz.prog u = .ok 1 u by kernel_rfl]
 simp only [Result.andThen, sliced, Int.toNat_natCast, Nat.zero_mul, Nat.sub_zero]
 congr 2
 split
 · rfl
 · cases p <;> simp [add_zero]
set_option maxRecDepth 100000 in
theorem slice_tail (p : Option Addr) (n c k : Nat) (hk : k ≤ n) (u : World) :
 (Instr.slice 149 (.slice p n c) (some (.int .i64 (k : Int))) none none).run Tryz.prog u = .ok (.slice (tl p c k) (n - k) (c - k)) u := by
 have h := run_slice_l (P := Tryz.prog) u 149 p n c (by kernel_rfl) .i64 (k : Int) (by omega) (by omega)
 rw [h, show (sizeOf (Tryz.prog.elem 149)).run Tryz.prog u = .ok 1 u by kernel_rfl]
 simp only [Result.andThen, sliced, Int.toNat_natCast, Nat.mul_one]
 rfl
/-- The reader's own two cells. -/
def RdrV (w : World) (g : Nat) (p : Option Addr) (n c : Nat) (err : Int) : Prop := w.heap[g]? = some (.cells #[.slice p n c, .int .i64 err] 151 (0, 0))
theorem RdrV.c0 {w : World} {g : Nat} {p : Option Addr} {n c : Nat} {err : Int} (h : RdrV w g p n c err) : w.cell? ⟨g, 0, none⟩ = some (.slice p n c) := by unfold RdrV at h; simp [World.cell?, h]
theorem RdrV.c1 {w : World} {g : Nat} {p : Option Addr} {n c : Nat} {err : Int} (h : RdrV w g p n c err) : w.cell? ⟨g, 1, none⟩ = some (.int .i64 err) := by unfold RdrV at h; simp [World.cell?, h]
theorem RdrV.fz {w : World} {g : Nat} {p : Option Addr} {n c : Nat} {err : Int} (h : RdrV w g p n c err) (o : Nat) : w.frozen? ⟨g, o, none⟩ = false := by unfold RdrV at h; simp [World.frozen?, h]
theorem RdrV.lt {w : World} {g : Nat} {p : Option Addr} {n c : Nat} {err : Int} (h : RdrV w g p n c err) : g < w.heap.size := (Array.getElem?_eq_some_iff.1 h).1
theorem RdrV.set0 {w : World} {g : Nat} {p q : Option Addr} {n c m d : Nat} {err : Int} (h : RdrV w g p n c err) : RdrV (w.setCell ⟨g, 0, none⟩ (.slice q m d)) g q m d err := by
 have hlt := h.lt
 have hv : w.heap[g] = .cells #[.slice p n c, .int .i64 err] 151 (0, 0) := (Array.getElem?_eq_some_iff.1 h).2
 show (w.heap.modify g _)[g]? = _
 rw [Array.getElem?_eq_getElem (by simpa using hlt), Array.getElem_modify_self, hv]
 rfl
theorem RdrV.set1 {w : World} {g : Nat} {p : Option Addr} {n c : Nat} {err e2 : Int} (h : RdrV w g p n c err) : RdrV (w.setCell ⟨g, 1, none⟩ (.int .i64 e2)) g p n c e2 := by
 have hlt := h.lt
 have hv : w.heap[g] = .cells #[.slice p n c, .int .i64 err] 151 (0, 0) := (Array.getElem?_eq_some_iff.1 h).2
 show (w.heap.modify g _)[g]? = _
 rw [Array.getElem?_eq_getElem (by simpa using hlt), Array.getElem_modify_self, hv]
 rfl
theorem RdrV.block {w w' : World} {g : Nat} {p : Option Addr} {n c : Nat} {err : Int} (h : RdrV w g p n c err) (hb : w'.heap[g]? = w.heap[g]?) : RdrV w' g p n c err := by
 unfold RdrV at *; rw [hb]; exact h
def NumPost (w : World) (g : Nat) (p : Option Addr) (n c k : Nat) (l : List UInt8) (e : Ending) (w' : World) : Prop :=
 e = .returned (.int .u64 (num (l.take k) : Int)) ∧ w.grownBy w' (some g) ∧ RdrV w' g (tl p c k) (n - k) (c - k) 0
theorem holds_take {w w' : World} {p : Option Addr} {n c k : Nat} {l : List UInt8} (h : Lib.HoldsBytes w (.slice p n c) l) (hb : Below w.heap.size w w') (hk : k ≤ n) : Lib.HoldsBytes w' (.slice p k c) (l.take k) := by
 obtain ⟨q, cap, he, h1, h2⟩ := h
 cases he
 refine ⟨p, c, ?_, fun hp => by rw [h1 hp]; simp, fun a ha i x hx => ?_⟩
 · rw [List.length_take, Nat.min_eq_left hk]
 · rw [List.getElem?_take] at hx
   split at hx
   · exact Lib.Below.cellOf hb (h2 a ha i x hx) (Nat.le_refl _)
   · cases hx
theorem num_old {w w1 : World} {A B : Obj} {k i : Nat} {l : List UInt8} (hr : NumRel ((w.alloc A).alloc B) w1 w.heap.size (w.heap.size + 1) k i l) (j : Nat) (hj : j < w.heap.size) : w1.heap[j]? = w.heap[j]? := by
 rw [hr.grown.block j (by simp; omega) (by simp; omega), heap_alloc_old _ _ (by simp; omega), heap_alloc_old _ _ hj]
theorem num_grown {w w1 : World} {A B : Obj} {k i g : Nat} {v : Value} {l : List UInt8} (hr : NumRel ((w.alloc A).alloc B) w1 w.heap.size (w.heap.size + 1) k i l) : w.grownBy (w1.setCell ⟨g, 0, none⟩ v) (some g) := by
 have hs := hr.size
 have h1 := hr.grown
 refine ⟨h1.os, h1.tape, h1.output, by simp [World.setCell] at hs ⊢; omega, fun j hj hne => ?_⟩
 rw [Below.heap_setCell _ _ _ _ (fun e => hne (by rw [e]))]
 exact num_old hr j hj
set_option maxRecDepth 100000 in
set_option maxHeartbeats 400000 in
theorem number_ok (g n c k : Nat) (p : Option Addr) (l : List UInt8) (w : World) (h : RdrV w g p n c 0) (hv : Lib.HoldsBytes w (.slice p n c) l) (hnc : n ≤ c)
 (hp : ∀ a, p = some a → a.block < w.heap.size) (hk : k ≤ n) (hk8 : k ≤ 8) :
 Calls Tryz.prog 101 #[.pointer (some ⟨g, 0, none⟩), .int .i64 k] w (NumPost w g p n c k l) := by
 have c0 := h.c0
 have c1 := h.c1
 have f0 := h.fz 0
 have hg := h.lt
 have s1 := slice_head p n c k hk hnc
 have s2 := slice_tail p n c k hk
 have hB := Lib.hid (((Below.refl w.heap.size w).alloc (Nat.le_refl _) (.cells #[.int .i64 k] 3)).alloc (by simp) (.cells #[.int .u64 0] 24))
 have hv1 := Lib.hid (holds_take hv hB.out hk)
 have hp1 : Hid (∀ a, p = some a → a.block ≠ w.heap.size + 1) := fun a ha => by have := hp a ha; omega
 have h1 := Lib.hid h
 have hx2 : Hid (((w.alloc (.cells #[.int .i64 k] 3)).alloc (.cells #[.int .u64 0] 24)).heap[w.heap.size]? = some (.cells #[.int .i64 k] 3 (0, 0))) := by
  show _ = _; rw [heap_alloc_old _ _ (by simp), heap_alloc_new]
 have hx3 : Hid (((w.alloc (.cells #[.int .i64 k] 3)).alloc (.cells #[.int .u64 0] 24)).heap[w.heap.size + 1]? = some (.cells #[.int .u64 0] 24 (0, 0))) := by
  have := heap_alloc_new (w.alloc (.cells #[.int .i64 k] 3)) (.cells #[.int .u64 0] 24)
  rw [World.size_alloc] at this
  exact this
 clear hv hp h
 go_enter Tryz.func101, Tryz.ntmps101
 go_wp2_with (first
  | (go_at_call 119
     refine (number1 p k c w.heap.size (w.heap.size + 1) (l.take k) _ hv1.out hk8 hp1.out hx2.out hx3.out).mono ?_
     rintro e w1 ⟨rfl, hr⟩
     have hr1 := h1.out.block (num_old hr g hg)
     have d0 := hr1.c0
     have d1 := hr1.fz 0
     have d2 := cell_of_one hr.var
     have hr2 := Lib.hid hr
     have hr3 := Lib.hid hr1
     clear hr hr1)
  | go_in)
 all_goals
  go_ret
  refine ⟨?_, num_grown hr2.out, hr3.out.set0⟩
  exact congrArg (fun x : List UInt8 => Ending.returned (.int .u64 (num x : Int))) (by rw [List.take_take, Nat.min_self])
set_option maxRecDepth 100000 in
set_option maxHeartbeats 400000 in
theorem number_stuck (g n c : Nat) (k err : Int) (p : Option Addr) (w : World) (h : RdrV w g p n c err) (he : err ≠ 0) :
 Calls Tryz.prog 101 #[.pointer (some ⟨g, 0, none⟩), .int .i64 k] w (fun e w' => e = .returned (.int .u64 0) ∧ Below w.heap.size w w') := by
 have c1 := h.c1
 have hg := h.lt
 have he1 : (err == 0) = false := by simpa using he
 have he2 : (err != 0) = true := by simpa using he
 clear h
 go_enter Tryz.func101, Tryz.ntmps101
 go_wp2
 go_ret
 exact ⟨rfl, ((Below.refl _ _).alloc (Nat.le_refl _) _).alloc (by simp) _⟩
theorem set_grown {w : World} {g o : Nat} {v : Value} : w.grownBy (w.setCell ⟨g, o, none⟩ v) (some g) :=
 ⟨rfl, rfl, rfl, by simp [World.setCell], fun j _ hne => Below.heap_setCell _ _ _ _ (fun e => hne (by rw [e]))⟩
theorem grown_alloc {w w1 : World} {g : Nat} (h : w.grownBy w1 (some g)) (A : Obj) : w.grownBy (w1.alloc A) (some g) :=
 ⟨h.os, h.tape, h.output, by have := h.size; simp; omega, fun j hj hne => by rw [heap_alloc_old _ _ (by have := h.size; omega)]; exact h.block j hj hne⟩
theorem RdrV.alloc {w : World} {g : Nat} {p : Option Addr} {n c : Nat} {err : Int} (h : RdrV w g p n c err) (A : Obj) : RdrV (w.alloc A) g p n c err := h.block (heap_alloc_old _ _ h.lt)
set_option maxRecDepth 100000 in
set_option maxHeartbeats 400000 in
theorem number_short (g n c k : Nat) (p : Option Addr) (w : World) (h : RdrV w g p n c 0) (hk : n < k) :
 Calls Tryz.prog 101 #[.pointer (some ⟨g, 0, none⟩), .int .i64 k] w (fun e w' => e = .returned (.int .u64 0) ∧ w.grownBy w' (some g) ∧ RdrV w' g p n c 7) := by
 have c0 := h.c0
 have c1 := h.c1
 have f1 := h.fz 1
 have hg := h.lt
 have h1 := Lib.hid h
 clear h
 go_enter Tryz.func101, Tryz.ntmps101
 go_wp2
 go_ret
 exact ⟨rfl, grown_alloc (grown_alloc set_grown _) _, (h1.out.set1.alloc _).alloc _⟩
set_option maxRecDepth 100000 in
set_option maxHeartbeats 400000 in
theorem raw_stuck (g n c : Nat) (k err : Int) (p : Option Addr) (w : World) (h : RdrV w g p n c err) (he : err ≠ 0) :
 Calls Tryz.prog 147 #[.pointer (some ⟨g, 0, none⟩), .int .i64 k] w (fun e w' => e = .returned (.slice none 0 0) ∧ Below w.heap.size w w') := by
 have c1 := h.c1
 have hg := h.lt
 have he1 : (err == 0) = false := by simpa using he
 have he2 : (err != 0) = true := by simpa using he
 clear h
 go_enter Tryz.func147, Tryz.ntmps147
 go_wp2
 go_ret
 exact ⟨rfl, (Below.refl _ _).alloc (Nat.le_refl _) _⟩
set_option maxRecDepth 100000 in
set_option maxHeartbeats 400000 in
theorem raw_short (g n c : Nat) (k : Int) (p : Option Addr) (w : World) (h : RdrV w g p n c 0) (hk : (n : Int) < k) :
 Calls Tryz.prog 147 #[.pointer (some ⟨g, 0, none⟩), .int .i64 k] w (fun e w' => e = .returned (.slice none 0 0) ∧ w.grownBy w' (some g) ∧ RdrV w' g p n c 7) := by
 have c0 := h.c0
 have c1 := h.c1
 have f1 := h.fz 1
 have hg := h.lt
 have h1 := Lib.hid h
 clear h
 go_enter Tryz.func147, Tryz.ntmps147
 go_wp2
 go_ret
 exact ⟨rfl, grown_alloc set_grown _, h1.out.set1.alloc _⟩
set_option maxRecDepth 100000 in
set_option maxHeartbeats 400000 in
theorem raw_neg (g n c : Nat) (k : Int) (p : Option Addr) (w : World) (h : RdrV w g p n c 0) (hk : k < 0) :
 Calls Tryz.prog 147 #[.pointer (some ⟨g, 0, none⟩), .int .i64 k] w (fun e w' => e = .returned (.slice none 0 0) ∧ w.grownBy w' (some g) ∧ RdrV w' g p n c 2) := by
 have c0 := h.c0
 have c1 := h.c1
 have f1 := h.fz 1
 have hg := h.lt
 have h1 := Lib.hid h
 clear h
 go_enter Tryz.func147, Tryz.ntmps147
 go_wp2
 go_ret
 exact ⟨rfl, grown_alloc set_grown _, h1.out.set1.alloc _⟩
def RawPost (w : World) (g : Nat) (p : Option Addr) (n c k : Nat) (l : List UInt8) (e : Ending) (w' : World) : Prop :=
 ∃ q c', e = .returned (.slice q k c') ∧ New w.heap.size w' (.slice q k c') (l.take k) ∧ w.grownBy w' (some g) ∧ RdrV w' g (tl p c k) (n - k) (c - k) 0
theorem raw_old {w w1 : World} {A : Obj} (hb : Below (w.alloc A).heap.size (w.alloc A) w1) (j : Nat) (hj : j < w.heap.size) : w1.heap[j]? = w.heap[j]? := by
 rw [hb.block j (by simp; omega), heap_alloc_old _ _ hj]
theorem raw_box {w w1 : World} {A : Obj} (hb : Below (w.alloc A).heap.size (w.alloc A) w1) : w1.heap[w.heap.size]? = some A := by
 rw [hb.block _ (by simp), heap_alloc_new]
theorem holds_block {w w' : World} {v : Value} {l : List UInt8} (h : Lib.HoldsBytes w v l) (hb : ∀ a n c, v = .slice (some a) n c → w'.heap[a.block]? = w.heap[a.block]?) : Lib.HoldsBytes w' v l := by
 obtain ⟨p, cap, rfl, h1, h2⟩ := h
 refine ⟨p, cap, rfl, h1, fun a ha i x hx => ?_⟩
 subst ha
 have hbl : (a.add i).block = a.block := by unfold Addr.add; split <;> rfl
 rw [World.cell?_of_block (w := w) (by rw [hbl]; exact hb a _ _ rfl)]
 exact h2 a rfl i x hx
theorem raw_shut {w w1 : World} {A : Obj} {g n c k c' : Nat} {p q : Option Addr} {l : List UInt8} (hb : Below (w.alloc A).heap.size (w.alloc A) w1) (hr : RdrV w1 g p n c 0) (hnew : New (w.alloc A).heap.size w1 (.slice q k c') (l.take k)) (hg : g < w.heap.size) :
 RawPost w g p n c k l (.returned (.slice q k c')) ((w1.setCell ⟨w.heap.size, 0, none⟩ (.slice q k c')).setCell ⟨g, 0, none⟩ (.slice (tl p c k) (n - k) (c - k))) := by
 have hs := hb.size
 have hne : g ≠ w.heap.size := by omega
 refine ⟨q, c', rfl, ⟨holds_block hnew.1 ?_, fun a n c h => by have := hnew.2 a n c h; simp [World.setCell] at this ⊢; omega⟩, ⟨hb.os, hb.tape, hb.output, by simp [World.setCell] at hs ⊢; omega, fun j hj hj2 => ?_⟩, ?_⟩
 · intro a n' c'' h
   have := hnew.2 a n' c'' h
   simp at this
   rw [Below.heap_setCell _ _ _ _ (by simp; omega), Below.heap_setCell _ _ _ _ (by simp; omega)]
 · rw [Below.heap_setCell _ _ _ _ (fun e => hj2 (by rw [e])), Below.heap_setCell _ _ _ _ (by simp; omega)]
   exact raw_old hb j hj
 · exact (hr.block (Below.heap_setCell _ _ _ _ (by simpa using hne))).set0
set_option maxRecDepth 100000 in
set_option maxHeartbeats 400000 in
theorem raw_ok (g n c k : Nat) (p : Option Addr) (l : List UInt8) (w : World) (h : RdrV w g p n c 0) (hv : Lib.HoldsBytes w (.slice p n c) l) (hnc : n ≤ c)
 (hk : k ≤ n) (hk8 : k ≤ 140737488355328) :
 Calls Tryz.prog 147 #[.pointer (some ⟨g, 0, none⟩), .int .i64 k] w (RawPost w g p n c k l) := by
 have c0 := h.c0
 have c1 := h.c1
 have f0 := h.fz 0
 have hg := h.lt
 have s1 := slice_head p n c k hk hnc
 have s2 := slice_tail p n c k hk
 have hB := Lib.hid ((Below.refl w.heap.size w).alloc (Nat.le_refl _) (.cells #[.slice none 0 0] 36))
 have hv1 := Lib.hid (holds_take hv hB.out hk)
 have h1 := Lib.hid h
 have lens := Lib.hid (show l.length = n by obtain ⟨_, _, he, _⟩ := hv; cases he; rfl)
 clear hv h
 go_enter Tryz.func147, Tryz.ntmps147
 go_wp2_with (first
  | (go_at_call 100
     refine (clone p k c (l.take k) _ hv1.out hk8).mono ?_
     rintro e w1 ⟨q, c', rfl, hnew, hb⟩
     rw [List.length_take, lens.out, Nat.min_eq_left hk] at hnew ⊢
     have hr1 := h1.out.block (raw_old hb g hg)
     have hbox := raw_box hb
     have d0 := hr1.c0
     have d1 := hr1.fz 0
     have d2 := cell_of_one hbox
     have d3 := free_of_one hbox
     have hr2 := Lib.hid hb
     have hr3 := Lib.hid hr1
     have hr4 := Lib.hid hnew
     have hgne : g ≠ w.heap.size := by omega
     clear hb hr1 hnew hbox)
  | go_in)
 all_goals
  go_ret
  exact raw_shut hr2.out hr3.out hr4.out hg
end Go.Proofs.YtocekhckmpkbmaaGreat
