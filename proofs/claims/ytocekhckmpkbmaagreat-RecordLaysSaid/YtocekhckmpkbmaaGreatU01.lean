/- Parts of the proof: Blocks known whole, and values of several cells in them: load and store at any place, as laws for the walk; nothing of a program is claimed here; A region that draws its order, walked in the order of its text: what reads is taken first; what is left stands in one order. Nothing of a program is claimed here; Two operations of a region that may come in either order, a call and one that gives a value: both orders end alike. Nothing of a program is claimed here; A region that draws its order and whose operations, reads and calls alike, each give one value in every world that meets S, calls leaving S as it is: one walk. Nothing of a program is claimed here; A store of one cell into a field of a box; Plain mathematics on bytes, and small facts on worlds, for the walks of this seat; nothing is claimed here; The contract of put: it returns new memory that holds what came in, and the number behind it, the highest byte first; The contracts of Put16, Put32, Put64 and bytes.Clone -/
import Derived.Test.YtocekhckmpkbmaaGreatRows
import Derived.WalkKit
import Derived.Laws.CopyOwn
import Derived.Lib.Hide
import Derived.OrdersHeld
import Derived.Handy
import Derived.Great.BuildSlice
import Derived.WalkSpells
import Derived.WalkLawsBesides
import Derived.Lib.SlBuf
import Derived.IntWalk
import Derived.Test.YtocekhckmpkbmaaGreatShelf
namespace Go.Proofs.YtocekhckmpkbmaaGreat
open Go.RowKit
/-- The block g holds just these cells (and may be written). -/
def RowV (T : TypeId) (w : World) (g : Nat) (cs : List Value) : Prop := w.heap[g]? = some (.cells cs.toArray T (0, 0))
theorem RowV.cell {T : TypeId} {w : World} {g : Nat} {cs : List Value} (h : RowV T w g cs) (j : Nat) : w.cell? ⟨g, j, none⟩ = cs[j]? := by
 unfold RowV at h; rw [cell_of_row w g j _ T (0, 0) h]; simp
theorem RowV.free {T : TypeId} {w : World} {g : Nat} {cs : List Value} (h : RowV T w g cs) (j : Nat) : w.frozen? ⟨g, j, none⟩ = false := frozen_of_row w g j _ T h
theorem RowV.lt {T : TypeId} {w : World} {g : Nat} {cs : List Value} (h : RowV T w g cs) : g < w.heap.size := (Array.getElem?_eq_some_iff.1 h).1
theorem RowV.block {T : TypeId} {w w' : World} {g : Nat} {cs : List Value} (h : RowV T w g cs) (hb : w'.heap[g]? = w.heap[g]?) : RowV T w' g cs := by
 unfold RowV at *; rw [hb]; exact h
theorem RowV.below {T : TypeId} {w w' : World} {g : Nat} {cs : List Value} (h : RowV T w g cs) (hb : Below w.heap.size w w') : RowV T w' g cs := h.block (hb.block g h.lt)
theorem RowV.kept {T : TypeId} {w w' : World} {g k : Nat} {cs : List Value} (h : RowV T w g cs) (hg : w.grownBy w' (some k)) (hne : g ≠ k) : RowV T w' g cs := h.block (hg.block g h.lt (by simpa using hne))
theorem RowV.made {T : TypeId} (w : World) (cs : List Value) : RowV T (w.alloc (.cells cs.toArray T)) w.heap.size cs := heap_alloc_new _ _
theorem RowV.set {T : TypeId} {w : World} {g : Nat} {cs : List Value} (h : RowV T w g cs) (j : Nat) (v : Value) : RowV T (w.setCell ⟨g, j, none⟩ v) g (cs.set j v) := by
 have := heap_setCell_same w g j _ T v h; unfold RowV; rw [this]; simp
theorem setCell_grown (w : World) (g j : Nat) (v : Value) : w.grownBy (w.setCell ⟨g, j, none⟩ v) (some g) :=
 ⟨rfl, rfl, rfl, by simp [World.setCell], fun i _ hne => Below.heap_setCell _ _ _ _ (fun e => hne (by rw [e]))⟩
theorem setRow_grown (w : World) (g : Nat) (cs : Array Value) : w.grownBy (w.setRow g cs) (some g) :=
 ⟨rfl, rfl, rfl, by simp, fun i _ hne => setRow_other w g i cs (by simpa using hne)⟩
theorem below_grown {a b : World} (h : Below a.heap.size a b) (r : Option Nat) : a.grownBy b r := ⟨h.os, h.tape, h.output, h.size, fun i hi _ => h.block i hi⟩
section
variable {P : Program} {w : World}
theorem agg_run {ty : TypeId} {d : TypeDesc} (hu : P.underlying ty = some d) (hd : (match d with | .struct _ | .array _ _ => true | _ => false) = true) : (isAgg ty).run P w = .ok true w := by
 unfold isAgg; rw [Sem.run_bind, run_underlying hu w]; cases d <;> simp_all
/-- a value of several cells, loaded from wherever they lie -/
theorem run_loadVar_at {ty : TypeId} {d : TypeDesc} (hu : P.underlying ty = some d) (hd : (match d with | .struct _ | .array _ _ => true | _ => false) = true) {vs : List Value} (hi : (P.info? ty).map (·.size) = some vs.length) (ad : Addr)
 (hc : ∀ j v, vs[j]? = some v → w.cell? (ad.add j) = some v) : (loadVar ty ad).run P w = .ok (.agg vs.toArray) w := by
 have hl := run_loadCells_list (P := P) w ad vs hc; cases hq : P.info? ty with
 | none => simp [hq] at hi
 | some i =>
   have hs : i.size = vs.length := by simpa [hq] using hi
   simp [loadVar, Sem.run_bind, agg_run hu hd, sizeOf, typeInfo, hq, hs, hl]
theorem wpList_load_at {ops : Array Oper} {rest : List Oper} {o : Oper} {a : Act} {Q : Exit → Act → World → Prop} (hgd : o.guard = none) (ty : TypeId) (x : Operand) (ho : o.op = .load ty x) {d : TypeDesc} (hu : P.underlying ty = some d)
 (hd : (match d with | .struct _ | .array _ _ => true | _ => false) = true) {vs : List Value} (hi : (P.info? ty).map (·.size) = some vs.length) {ad : Addr} (hx : a.eval x = .pointer (some ad))
 (hc : ∀ j v, vs[j]? = some v → w.cell? (ad.add j) = some v) (h : wpList P ops Q rest (a.put o.dst (.agg vs.toArray)) w) : wpList P ops Q (o :: rest) a w := by
 refine wpList_plain hgd fun K hK => ?_
 unfold Oper.wp execOp; simp only [ho, hx, Instr.loadAt, Instr.sureAddr, Sem.run_bind, Sem.run_pure, Result.andThen_ok, run_loadVar_at hu hd hi ad hc]; exact hK _ _ h
theorem RowV.part {T : TypeId} {g o : Nat} {cs vs rest pre : List Value} (h : RowV T w g cs) (he : cs = pre ++ (vs ++ rest)) (ho : pre.length = o) : ∀ j v, vs[j]? = some v → w.cell? ((⟨g, o, none⟩ : Addr).add j) = some v := by
 intro j v hj; have hadd : (⟨g, o, none⟩ : Addr).add j = ⟨g, o + j, none⟩ := by unfold Addr.add; split <;> simp_all
 have hl : j < vs.length := (List.getElem?_eq_some_iff.1 hj).1; rw [hadd, h.cell, he, List.getElem?_append_right (by omega), ho, Nat.add_sub_cancel_left, List.getElem?_append_left hl, hj]
/-- a value of several cells, stored into a block that is known whole -/
theorem run_storeVar_at {T ty : TypeId} {g o : Nat} {cs vs : List Value} (h : RowV T w g cs) (hi : (P.info? ty).map (·.size) = some vs.length) (hfit : o + vs.length ≤ cs.length) (h1 : ∀ v ∈ vs, v.oneCell' = true) :
 ∃ w', (storeVar ty ⟨g, o, none⟩ (.agg vs.toArray)).run P w = .ok () w' ∧ RowV T w' g (splice cs o vs) ∧ w.grownBy w' (some g) := by
 have hst := run_storeCells_at P g o T vs 0 cs.toArray w h (by simpa using hfit) h1; simp only [Nat.add_zero] at hst; have hrow : (w.setRow g (cs.take o ++ vs ++ cs.drop (o + vs.length)).toArray).heap[g]? = some (.cells (cs.take o ++ vs ++ cs.drop (o + vs.length)).toArray T (0, 0)) := setRow_heap w g _ _ T _ h; refine ⟨w.setRow g (cs.take o ++ vs ++ cs.drop (o + vs.length)).toArray, ?_, ?_, setRow_grown w g _⟩
 · cases hq : P.info? ty with
   | none => simp [hq] at hi
   | some i =>
     have hs : vs.length = i.size := by have := hi; simp [hq] at this; omega
     simp [storeVar, sizeOf, typeInfo, hq, Value.cells, hs]; rw [hs] at hst; simpa using hst
 · unfold RowV splice; rw [← List.append_assoc]; exact hrow
theorem wpList_store_at {ops : Array Oper} {rest : List Oper} {op : Oper} {a : Act} {Q : Exit → Act → World → Prop} (hgd : op.guard = none) (ty : TypeId) (x y : Operand) (ho : op.op = .store ty x y) {T : TypeId} {g o : Nat} {cs vs : List Value}
 (hx : a.eval x = .pointer (some ⟨g, o, none⟩)) (hy : a.eval y = .agg vs.toArray) (h : RowV T w g cs) (hi : (P.info? ty).map (·.size) = some vs.length) (hfit : o + vs.length ≤ cs.length) (h1 : ∀ v ∈ vs, v.oneCell' = true)
 (hK : ∀ w', RowV T w' g (splice cs o vs) → w.grownBy w' (some g) → wpList P ops Q rest (a.put op.dst undef) w') : wpList P ops Q (op :: rest) a w := by
 refine wpList_plain hgd fun K hK' => ?_
 obtain ⟨w', hrun, r1, r2⟩ := run_storeVar_at (P := P) (ty := ty) h hi hfit h1; unfold Oper.wp execOp; simp only [ho, hx, hy, Instr.storeAt, Instr.sureAddr, Sem.run_bind, Sem.run_pure, Result.andThen_ok, hrun]; exact hK' _ _ (hK w' r1 r2)
end
end Go.Proofs.YtocekhckmpkbmaaGreat
namespace Go.Proofs.YtocekhckmpkbmaaGreat
open Go.RowKit
section
variable {P : Program} {ops : Array Oper} {Q : Exit → Act → World → Prop} {md : Region.Mode} {S : World → Prop}
/-- the one operation that may come up -/
theorem held_one {i : Nat} {o : Oper} {fuel : Nat} {listed : Array Bool} {a : Act} {w : World} (hi : ops[i]? = some o) (hr : Region.ready md ops listed = [i]) (hw : Region.wanted o (yielded ops a.tmps) = true)
 (h : o.wp P a w (fun a' w' => S w' ∧ wpAnyH P md ops Q S fuel (listed.setIfInBounds i true) a' w') Q) : wpAnyH P md ops Q S (fuel + 1) listed a w := by
 refine wpAnyH_all hr (by simp) (fun j hj => ?_); rw [List.mem_singleton.1 hj]; unfold wpOp; simp only [hi, hw, if_true]; exact .inl h
/-- it is a call that returns -/
theorem held_call {i : Nat} {o : Oper} {dst : Option Tmp} (hd : o.dst = dst) {fuel : Nat} {listed : Array Bool} {a : Act} {w : World} {f : FuncId} {args : Array Value} {R : Ending → World → Prop} (hi : ops[i]? = some o) (hr : Region.ready md ops listed = [i]) (hw : Region.wanted o (yielded ops a.tmps) = true)
 (hrun : (execOp a.eval o).run P w = .ok (.enter f args) w) (hc : Calls P f args w R) (h : ∀ e w', R e w' → ∃ v, e = .returned v ∧ S w' ∧ wpAnyH P md ops Q S fuel (listed.setIfInBounds i true) (a.put dst v) w') :
 wpAnyH P md ops Q S (fuel + 1) listed a w := by
 subst hd; refine held_one hi hr hw ?_; unfold Oper.wp; rw [hrun, Oper.upon_enter]; refine hc.mono fun e w' he => ?_
 obtain ⟨v, rfl, h1, h2⟩ := h e w' he; exact ⟨h1, h2⟩
/-- it gives a value -/
theorem held_value {i : Nat} {o : Oper} {dst : Option Tmp} (hd : o.dst = dst) {fuel : Nat} {listed : Array Bool} {a : Act} {w w' : World} {v : Value} (hi : ops[i]? = some o) (hr : Region.ready md ops listed = [i]) (hw : Region.wanted o (yielded ops a.tmps) = true)
 (hrun : (execOp a.eval o).run P w = .ok (.value v) w') (hS : S w') (h : wpAnyH P md ops Q S fuel (listed.setIfInBounds i true) (a.put dst v) w') : wpAnyH P md ops Q S (fuel + 1) listed a w := by
 subst hd; refine held_one hi hr hw ?_; unfold Oper.wp; rw [hrun, Oper.upon_value]; exact ⟨hS, h⟩
/-- it gives nothing -/
theorem held_skip {i : Nat} {o : Oper} {dst : Option Tmp} (hd : o.dst = dst) {fuel : Nat} {listed : Array Bool} {a : Act} {w w' : World} (hi : ops[i]? = some o) (hr : Region.ready md ops listed = [i]) (hw : Region.wanted o (yielded ops a.tmps) = true)
 (hrun : (execOp a.eval o).run P w = .ok .skip w') (hS : S w') (h : wpAnyH P md ops Q S fuel (listed.setIfInBounds i true) (a.put dst undef) w') : wpAnyH P md ops Q S (fuel + 1) listed a w := by
 subst hd; refine held_one hi hr hw ?_; unfold Oper.wp; rw [hrun, Oper.upon_skip]; exact ⟨hS, h⟩
/-- it only reads, and is taken first -/
theorem held_take {i : Nat} {o : Oper} {dst : Option Tmp} (hd : o.dst = dst) {v : Value} {fuel : Nat} {listed : Array Bool} {a : Act} {w : World} (hi : ops[i]? = some o)
 (hs : Region.noSelect ops = true) (hf : Region.free md ops listed i = true) (hr : (Region.ready md ops listed).contains i = true)
 (hQ : ∀ c a w, Q (.panic c) (a.put o.dst v) w → Q (.panic c) a w) (hy : YieldsIf P ops S o v a) (hS : S w)
 (h : wpAnyH P md ops Q S fuel (listed.setIfInBounds i true) (a.put dst v) w) : wpAnyH P md ops Q S (fuel + 1) listed a w := by
 subst hd; exact wpAnyH_take hi hs hf hr hQ hy hS h
end
section
variable {P : Program} {ops : Array Oper} {S : World → Prop} {a : Act} {o : Oper}
theorem y_move (x : Operand) (ho : o.op = .move x) (hw : Region.wanted o (yielded ops a.tmps) = true) {v : Value} (hx : a.eval x = v) : YieldsIf P ops S o v a := by
 refine .inl ⟨hw, fun w _ => ?_⟩; subst hx; unfold execOp; simp [ho]
theorem y_load_agg (ty : TypeId) (x : Operand) (ho : o.op = .load ty x) (hw : Region.wanted o (yielded ops a.tmps) = true) {ad : Addr} (hx : a.eval x = .pointer (some ad)) {v : Value} (h : ∀ w, S w → (loadVar ty ad).run P w = .ok v w) : YieldsIf P ops S o v a := by
 refine .inl ⟨hw, fun w hS => ?_⟩; unfold execOp; simp only [ho, hx, Instr.loadAt, Instr.sureAddr, Sem.run_bind, Sem.run_pure, Result.andThen_ok, h w hS]
end
end Go.Proofs.YtocekhckmpkbmaaGreat
namespace Go.Proofs.YtocekhckmpkbmaaGreat
open Go.RowKit
section
variable {P : Program} {ops : Array Oper} {Q : Exit → Act → World → Prop} {md : Region.Mode} {S : World → Prop}
theorem held_pair {i j : Nat} {oi oj : Oper} {di dj : Option Tmp} (hdi : oi.dst = di) (hdj : oj.dst = dj) {fuel : Nat} {listed : Array Bool} {a : Act} {w : World} {f : FuncId} {args : Array Value} {Z : Value → Value → World → Prop}
 (hi : ops[i]? = some oi) (hj : ops[j]? = some oj) (hr : Region.ready md ops listed = [i, j])
 (hri : Region.ready md ops (listed.setIfInBounds i true) = [j]) (hrj : Region.ready md ops (listed.setIfInBounds j true) = [i])
 (hl : (listed.setIfInBounds j true).setIfInBounds i true = (listed.setIfInBounds i true).setIfInBounds j true)
 (hwi : Region.wanted oi (yielded ops a.tmps) = true) (hwj : Region.wanted oj (yielded ops a.tmps) = true)
 (hwi2 : ∀ u, Region.wanted oi (yielded ops (a.put dj u).tmps) = true) (hwj2 : ∀ v, Region.wanted oj (yielded ops (a.put di v).tmps) = true)
 (hcomm : ∀ v u, (a.put dj u).put di v = (a.put di v).put dj u)
 {R : Ending → World → Prop} (hrun : (execOp a.eval oi).run P w = .ok (.enter f args) w) (hc : Calls P f args w R)
 (h1 : ∀ e w', R e w' → ∃ v u w'', e = .returned v ∧ S w' ∧ (execOp (a.put di v).eval oj).run P w' = .ok (.value u) w'' ∧ S w'' ∧ Z v u w'')
 (h2 : ∃ u w' R', (execOp a.eval oj).run P w = .ok (.value u) w' ∧ S w' ∧ (execOp (a.put dj u).eval oi).run P w' = .ok (.enter f args) w' ∧ Calls P f args w' R' ∧ ∀ e w'', R' e w'' → ∃ v, e = .returned v ∧ S w'' ∧ Z v u w'')
 (h : ∀ v u W, Z v u W → wpAnyH P md ops Q S fuel ((listed.setIfInBounds i true).setIfInBounds j true) ((a.put di v).put dj u) W) :
 wpAnyH P md ops Q S (fuel + 2) listed a w := by
 refine wpAnyH_all hr (by simp) (fun k hk => ?_); rcases List.mem_cons.1 hk with rfl | hk
 · unfold wpOp; simp only [hi, hwi, if_true]; refine .inl ?_; unfold Oper.wp; rw [hrun, Oper.upon_enter]; refine hc.mono fun e w' he => ?_
   obtain ⟨v, u, w'', rfl, hS, hrunj, hS2, hZ⟩ := h1 e w' he; subst hdi; refine ⟨hS, ?_⟩; exact held_value hdj hj hri (hwj2 v) hrunj hS2 (h v u w'' hZ)
 · rw [List.mem_singleton.1 hk]; unfold wpOp; simp only [hj, hwj, if_true]; refine .inl ?_; obtain ⟨u, w', R', hrunj, hS, hruni, hc', hz⟩ := h2; unfold Oper.wp; rw [hrunj, Oper.upon_value]; subst hdj; refine ⟨hS, ?_⟩; refine held_call hdi hi hrj (hwi2 u) hruni hc' (fun e w'' he => ?_); obtain ⟨v, rfl, hS2, hZ⟩ := hz e w'' he; refine ⟨v, rfl, hS2, ?_⟩; rw [hl, hcomm]; exact h v u w'' hZ
end
end Go.Proofs.YtocekhckmpkbmaaGreat
namespace Go.Proofs.YtocekhckmpkbmaaGreat
open Go.RowKit
section
variable {P : Program} {ops : Array Oper} {Q : Exit → Act → World → Prop} {md : Region.Mode} {S : World → Prop}
/-- an operation that gives one value in every world that meets S, and leaves S -/
def Fix (P : Program) (ops : Array Oper) (S : World → Prop) (o : Oper) (v : Value) (a : Act) : Prop :=
 (Region.wanted o (yielded ops a.tmps) = true ∧ ((∀ w, S w → (execOp a.eval o).run P w = .ok (.value v) w) ∨
   ∃ f args, (∀ w, (execOp a.eval o).run P w = .ok (.enter f args) w) ∧ ∀ w, S w → Calls P f args w (fun e w' => e = .returned v ∧ S w'))) ∨
 (Region.wanted o (yielded ops a.tmps) = false ∧ v = undef)
theorem Fix.of_same {o : Oper} {v : Value} {a a' : Act} (hy : Fix P ops S o v a) (he : execOp a'.eval o = execOp a.eval o)
 (hw : Region.wanted o (yielded ops a'.tmps) = Region.wanted o (yielded ops a.tmps)) : Fix P ops S o v a' := by
 unfold Fix at *; rw [he, hw]; exact hy
theorem Fix.wpOp {i : Nat} {o : Oper} {v : Value} {a : Act} (hi : ops[i]? = some o) (hy : Fix P ops S o v a)
 {K : Act → World → Prop} {w : World} (hS : S w) (h : ∀ w', S w' → K (a.put o.dst v) w') : wpOp P ops Q i K a w := by
 unfold Go.wpOp; simp only [hi]; rcases hy with ⟨hw, hv | ⟨f, args, hr, hc⟩⟩ | ⟨hw, rfl⟩
 · simp only [hw, if_true, Oper.wp, hv w hS, Oper.upon]; exact .inl (h w hS)
 · simp only [hw, if_true]; refine .inl ?_; unfold Oper.wp; rw [hr, Oper.upon_enter]; refine (hc w hS).mono fun e w' he => ?_
   obtain ⟨rfl, hS'⟩ := he; exact h w' hS'
 · simp only [hw, Bool.false_eq_true, if_false]; exact h w hS
def wpF (P : Program) (md : Region.Mode) (ops : Array Oper) (Q : Exit → Act → World → Prop) (S : World → Prop) : Nat → Array Bool → Act → Prop
 | 0, listed, a => Region.ready md ops listed = [] ∧ ∀ w, S w → Q .normal a w
 | n + 1, listed, a => (Region.ready md ops listed = [] → ∀ w, S w → Q .normal a w) ∧
   ∀ i ∈ Region.ready md ops listed, ∃ oi v, ops[i]? = some oi ∧ Fix P ops S oi v a ∧ wpF P md ops Q S n (listed.setIfInBounds i true) (a.put oi.dst v)
theorem wpF.held : ∀ (n : Nat) (listed : Array Bool) (a : Act), wpF P md ops Q S n listed a → ∀ w, S w → wpAnyH P md ops Q S n listed a w
 | 0, _, _, h, w, hS => ⟨h.1, h.2 w hS⟩
 | n + 1, _, _, h, w, hS => ⟨fun h0 => h.1 h0 w hS, fun i hi => by
   obtain ⟨oi, v, ho, hf, h'⟩ := h.2 i hi
   exact hf.wpOp ho hS fun w' hS' => ⟨hS', wpF.held n _ _ h' w' hS'⟩⟩
theorem wpF_first {i : Nat} {oi : Oper} {v : Value} (hi : ops[i]? = some oi) (hsel : ∀ (j : Nat) (o : Oper) cs b, ops[j]? = some o → o.op ≠ .select cs b) :
 ∀ (n : Nat) (listed : Array Bool) (a : Act),
  (∀ j oj, ops[j]? = some oj → j ≠ i → listed.getD j true = false → (∀ e ∈ oj.after, Region.binds md e = true → e.on ≠ i) → oi.apart ops oj = true) →
  i ∈ Region.ready md ops listed → Fix P ops S oi v a →
  wpF P md ops Q S n (listed.setIfInBounds i true) (a.put oi.dst v) → wpF P md ops Q S (n + 1) listed a := by
 intro n
 induction n with
 | zero =>
   intro listed a _ hr hy H; refine ⟨fun h => (by rw [h] at hr; cases hr), fun j hj => ?_⟩
   by_cases hji : j = i
   · subst hji; exact ⟨oi, v, hi, hy, H⟩
   · have := ready_mono hj hji; rw [H.1] at this; cases this
 | succ n ih =>
   intro listed a hfree hr hy H; refine ⟨fun h => (by rw [h] at hr; cases hr), fun j hj => ?_⟩
   by_cases hji : j = i
   · subst hji; exact ⟨oi, v, hi, hy, H⟩
   · obtain ⟨oj, u, hoj, hfj, H'⟩ := H.2 j (ready_mono hj hji); obtain ⟨hjun, oj', hoj', hall⟩ := mem_ready.1 hj; rw [hoj] at hoj'; cases hoj'
     have hnot : ∀ e ∈ oj.after, Region.binds md e = true → e.on ≠ i := fun e he hb heq => by
      have h1 := hall e he hb; have h0 := (mem_ready.1 hr).1; rw [heq] at h1; rcases Nat.lt_or_ge i listed.size with h' | h'
      · simp [h'] at h0 h1; rw [h0] at h1; cases h1
      · simp [Array.getElem?_eq_none h'] at h1
     obtain ⟨h1, h2, h3⟩ := Oper.apart_spec (hfree j oj hoj hji hjun hnot); have hsi : ∀ cs b, oi.op ≠ .select cs b := fun cs b => hsel i oi cs b hi
     have hsj : ∀ cs b, oj.op ≠ .select cs b := fun cs b => hsel j oj cs b hoj
     have hfree' : ∀ k ok, ops[k]? = some ok → k ≠ i → (listed.setIfInBounds j true).getD k true = false →
      (∀ e ∈ ok.after, Region.binds md e = true → e.on ≠ i) → oi.apart ops ok = true := fun k ok hk hki hun hno => by
      refine hfree k ok hk hki ?_ hno
      by_cases hjk : j = k
      · subst hjk; exact hjun
      · rw [getD_set_ne true hjk] at hun; exact hun
     refine ⟨oj, u, hoj, hfj.of_same (execOp_put oj hsj a oi.dst v h1).symm (wanted_put oj a oi.dst v h1).symm, ?_⟩; refine ih (listed.setIfInBounds j true) (a.put oj.dst u) hfree' (ready_mono hr (Ne.symm hji)) (hy.of_same (execOp_put oi hsi a oj.dst u h3) (wanted_put oi a oj.dst u h3)) ?_; rw [Array.setIfInBounds_comm _ _ hji, ← Act.put_comm a v u h2]; exact H'
theorem fx {i : Nat} {o : Oper} {dst : Option Tmp} (hd : o.dst = dst) {v : Value} {n : Nat} {listed : Array Bool} {a : Act} (hi : ops[i]? = some o) (hy : Fix P ops S o v a) (h : wpF P md ops Q S n (listed.setIfInBounds i true) (a.put dst v))
 (hs : Region.noSelect ops = true := by kernel_rfl) (hf : Region.free md ops listed i = true := by kernel_rfl) (hr : (Region.ready md ops listed).contains i = true := by kernel_rfl) : wpF P md ops Q S (n + 1) listed a := by
 subst hd; exact wpF_first hi (Region.noSelect_spec hs) n listed a (Region.free_spec hi hf) (by simpa using hr) hy h
theorem fx_done {listed : Array Bool} {a : Act} (h : ∀ w, S w → Q .normal a w) (hr : Region.ready md ops listed = [] := by kernel_rfl) : ∀ n, wpF P md ops Q S n listed a
 | 0 => ⟨hr, h⟩
 | _ + 1 => ⟨fun _ => h, by rw [hr]; simp⟩
end
section
variable {P : Program} {ops : Array Oper} {S : World → Prop} {a : Act} {o : Oper}
theorem fx_read {v : Value} (hy : ∀ w, S w → (execOp a.eval o).run P w = .ok (.value v) w) (hw : Region.wanted o (yielded ops a.tmps) = true := by exact rfl) : Fix P ops S o v a := .inl ⟨hw, .inl hy⟩
theorem fx_off (hw : Region.wanted o (yielded ops a.tmps) = false := by exact rfl) : Fix P ops S o undef a := .inr ⟨hw, rfl⟩
theorem fx_load (ty : TypeId) (x : Operand) {ad : Addr} {v : Value} (h : ∀ w, S w → (loadVar ty ad).run P w = .ok v w) (ho : o.op = .load ty x := by exact rfl) (hx : a.eval x = .pointer (some ad) := by exact rfl) (hw : Region.wanted o (yielded ops a.tmps) = true := by exact rfl) : Fix P ops S o v a :=
 .inl ⟨hw, .inl fun w hS => by
  unfold execOp
  simp only [ho, hx, Instr.loadAt, Instr.sureAddr, Sem.run_bind, Sem.run_pure, Result.andThen_ok, h w hS]⟩
theorem fx_call {f : FuncId} {args : Array Value} {v : Value} (hc : ∀ w, S w → Calls P f args w (fun e w' => e = .returned v ∧ S w')) (hrun : ∀ w, (execOp a.eval o).run P w = .ok (.enter f args) w := by intro w; go_simp) (hw : Region.wanted o (yielded ops a.tmps) = true := by exact rfl) : Fix P ops S o v a :=
 .inl ⟨hw, .inr ⟨f, args, hrun, hc⟩⟩
end
section
variable {P : Program} {ops : Array Oper} {Q : Exit → Act → World → Prop} {md : Region.Mode} {S : World → Prop}
/-- held_take, what a reader need not see asked last -/
theorem held_tk {i : Nat} {o : Oper} {dst : Option Tmp} (hd : o.dst = dst) {v : Value} {fuel : Nat} {listed : Array Bool} {a : Act} {w : World} (hi : ops[i]? = some o) (hy : YieldsIf P ops S o v a) (hS : S w)
 (h : wpAnyH P md ops Q S fuel (listed.setIfInBounds i true) (a.put dst v) w)
 (hs : Region.noSelect ops = true := by kernel_rfl) (hf : Region.free md ops listed i = true := by kernel_rfl) (hr : (Region.ready md ops listed).contains i = true := by kernel_rfl)
 (hQ : ∀ c a w, Q (.panic c) (a.put o.dst v) w → Q (.panic c) a w := by exact fun _ _ _ h => h) : wpAnyH P md ops Q S (fuel + 1) listed a w :=
 held_take hd hi hs hf hr hQ hy hS h
end
section
variable {P : Program} {ops : Array Oper} {Q : Exit → Act → World → Prop} {md : Region.Mode} {S : World → Prop} {o : Oper} {fuel : Nat} {listed : Array Bool} {a : Act} {w : World}
theorem tg (i : Nat) (d : Tmp) (v : Value) (hS : S w) (h : wpAnyH P md ops Q S fuel (listed.setIfInBounds i true) (a.put (some d) v) w)
 (hi : ops[i]? = some o := by exact rfl) (hd : o.dst = some d := by exact rfl) (hw : Region.wanted o (yielded ops a.tmps) = true := by exact rfl) (hy : ∀ u, S u → (execOp a.eval o).run P u = .ok (.value v) u := by intro u hu; go_simp)
 (hs : Region.noSelect ops = true := by kernel_rfl) (hf : Region.free md ops listed i = true := by kernel_rfl) (hr : (Region.ready md ops listed).contains i = true := by kernel_rfl)
 (hQ : ∀ c a w, Q (.panic c) (a.put o.dst v) w → Q (.panic c) a w := by exact fun _ _ _ h => h) : wpAnyH P md ops Q S (fuel + 1) listed a w :=
 held_tk hd hi (.inl ⟨hw, hy⟩) hS h hs hf hr hQ
theorem tu (i : Nat) (d : Tmp) (hS : S w) (h : wpAnyH P md ops Q S fuel (listed.setIfInBounds i true) (a.put (some d) undef) w)
 (hi : ops[i]? = some o := by exact rfl) (hd : o.dst = some d := by exact rfl) (hw : Region.wanted o (yielded ops a.tmps) = false := by exact rfl)
 (hs : Region.noSelect ops = true := by kernel_rfl) (hf : Region.free md ops listed i = true := by kernel_rfl) (hr : (Region.ready md ops listed).contains i = true := by kernel_rfl)
 (hQ : ∀ c a w, Q (.panic c) (a.put o.dst undef) w → Q (.panic c) a w := by exact fun _ _ _ h => h) : wpAnyH P md ops Q S (fuel + 1) listed a w :=
 held_tk hd hi (.inr ⟨hw, rfl⟩) hS h hs hf hr hQ
end
theorem lh {p : Prop} (h : p) : Hid p := Lib.hid h
section
variable {P : Program} {ops : Array Oper} {Q : Exit → Act → World → Prop} {md : Region.Mode} {S : World → Prop} {o : Oper} {n : Nat} {listed : Array Bool} {a : Act}
theorem fg (i : Nat) (d : Tmp) (v : Value) (h : wpF P md ops Q S n (listed.setIfInBounds i true) (a.put (some d) v)) (hi : ops[i]? = some o := by exact rfl) (hd : o.dst = some d := by exact rfl) (hw : Region.wanted o (yielded ops a.tmps) = true := by exact rfl) (hy : ∀ u, S u → (execOp a.eval o).run P u = .ok (.value v) u := by intro u hu; go_simp) (hs : Region.noSelect ops = true := by kernel_rfl) (hf : Region.free md ops listed i = true := by kernel_rfl) (hr : (Region.ready md ops listed).contains i = true := by kernel_rfl) : wpF P md ops Q S (n + 1) listed a := fx hd hi (fx_read hy hw) h hs hf hr
theorem fu (i : Nat) (d : Tmp) (h : wpF P md ops Q S n (listed.setIfInBounds i true) (a.put (some d) undef)) (hi : ops[i]? = some o := by exact rfl) (hd : o.dst = some d := by exact rfl) (hw : Region.wanted o (yielded ops a.tmps) = false := by exact rfl) (hs : Region.noSelect ops = true := by kernel_rfl) (hf : Region.free md ops listed i = true := by kernel_rfl) (hr : (Region.ready md ops listed).contains i = true := by kernel_rfl) : wpF P md ops Q S (n + 1) listed a := fx hd hi (fx_off hw) h hs hf hr
theorem fh (i : Nat) (d : Tmp) (v : Value) (hi : ops[i]? = some o) (hy : Fix P ops S o v a) (h : wpF P md ops Q S n (listed.setIfInBounds i true) (a.put (some d) v)) (hd : o.dst = some d := by exact rfl) (hs : Region.noSelect ops = true := by kernel_rfl) (hf : Region.free md ops listed i = true := by kernel_rfl) (hr : (Region.ready md ops listed).contains i = true := by kernel_rfl) : wpF P md ops Q S (n + 1) listed a := fx hd hi hy h hs hf hr
end
end Go.Proofs.YtocekhckmpkbmaaGreat
namespace Go.Proofs.YtocekhckmpkbmaaGreat
section
variable {P : Program} {w : World}
theorem run_storeVar_f {T ty : TypeId} {g o : Nat} {cs : List Value} {v : Value} (h : RowV T w g cs) (hi : (P.info? ty).map (·.size) = some 1) (hfit : o < cs.length) (h1 : v.oneCell' = true) :
 ∃ w', (storeVar ty ⟨g, o, none⟩ v).run P w = .ok () w' ∧ RowV T w' g (splice cs o [v]) ∧ w.grownBy w' (some g) := by
 obtain ⟨w', a, b, c⟩ := run_storeVar_at (P := P) (ty := ty) (vs := [v]) h hi (by show o + 1 ≤ cs.length; omega) (by simpa using h1); refine ⟨w', ?_, b, c⟩; rw [← a]; have hc : v.cells = #[v] := by cases v <;> first | rfl | simp [Value.oneCell'] at h1
 have hc2 : (Value.agg [v].toArray).cells = #[v] := rfl; unfold storeVar; rw [hc, hc2]
theorem wpList_store_f {ops : Array Oper} {rest : List Oper} {op : Oper} {a : Act} {Q : Exit → Act → World → Prop} (hgd : op.guard = none) (ty : TypeId) (x y : Operand) (ho : op.op = .store ty x y) {T : TypeId} {g o : Nat} {cs : List Value} {v : Value}
 (hx : a.eval x = .pointer (some ⟨g, o, none⟩)) (hy : a.eval y = v) (h : RowV T w g cs) (hi : (P.info? ty).map (·.size) = some 1) (hfit : o < cs.length) (h1 : v.oneCell' = true)
 (hK : ∀ w', RowV T w' g (splice cs o [v]) → w.grownBy w' (some g) → wpList P ops Q rest (a.put op.dst undef) w') : wpList P ops Q (op :: rest) a w := by
 refine wpList_plain hgd fun K hK' => ?_
 obtain ⟨w', hrun, r1, r2⟩ := run_storeVar_f (P := P) (ty := ty) h hi hfit h1; unfold Oper.wp execOp; simp only [ho, hx, hy, Instr.storeAt, Instr.sureAddr, Sem.run_bind, Sem.run_pure, Result.andThen_ok, hrun]; exact hK' _ _ (hK w' r1 r2)
end
end Go.Proofs.YtocekhckmpkbmaaGreat
namespace Go.Proofs.YtocekhckmpkbmaaGreat
open Go.RowKit
/-- the k least digits of x to the base 256, the highest one first -/
def be : Nat → Nat → List UInt8
 | 0, _ => []
 | k + 1, x => be k (x / 256) ++ [UInt8.ofNat x]
theorem length_be : ∀ (k x : Nat), (be k x).length = k
 | 0, _ => rfl
 | k + 1, x => by simp [be, length_be k]
/-- one digit more, in front -/
theorem be_cons : ∀ (k x : Nat), be (k + 1) x = UInt8.ofNat (x / 256 ^ k) :: be k x
 | 0, x => by simp [be]
 | k + 1, x => by rw [be, be_cons k (x / 256), be]; simp [Nat.div_div_eq_div_mul, Nat.pow_succ, Nat.mul_comm]
def vals (l : List UInt8) : List Value := l.map fun x => Value.int .u8 (x.toNat : Int)
theorem length_vals (l : List UInt8) : (vals l).length = l.length := by simp [vals]
theorem vals_append (l m : List UInt8) : vals (l ++ m) = vals l ++ vals m := by simp [vals]
theorem one_vals (l : List UInt8) : ∀ v ∈ vals l, v.oneCell' = true := by
 intro v hv; obtain ⟨x, _, rfl⟩ := List.mem_map.1 hv; rfl
theorem vals_get {l : List UInt8} {j : Nat} {v : Value} (h : (vals l)[j]? = some v) : ∃ x, l[j]? = some x ∧ v = .int .u8 (x.toNat : Int) := by
 unfold vals at h; rw [List.getElem?_map] at h; obtain ⟨x, hx, rfl⟩ := Option.map_eq_some_iff.1 h; exact ⟨x, hx, rfl⟩
def zs (m : Nat) : List UInt8 := List.replicate m 0
theorem length_zs (m : Nat) : (zs m).length = m := by simp [zs]
theorem made_zs (m : Nat) : madeCells #[.int .u8 0] m = (vals (zs m)).toArray := by
 apply Array.ext
 · simp [madeCells, vals, zs]
 · intro i h1 h2; simp [madeCells, vals, zs, Nat.mod_one]
/-- The block g holds just these bytes (and may be written). -/
def Row (T : TypeId) (w : World) (g : Nat) (l : List UInt8) : Prop := w.heap[g]? = some (.cells (vals l).toArray T (0, 0))
theorem Row.cell {T : TypeId} {w : World} {g : Nat} {l : List UInt8} (h : Row T w g l) (j : Nat) (hj : j < l.length) : w.cell? ⟨g, j, none⟩ = some (.int .u8 ((l[j]).toNat : Int)) := by
 unfold Row at h; simp [World.cell?, h, vals, hj]
theorem Row.free {T : TypeId} {w : World} {g : Nat} {l : List UInt8} (h : Row T w g l) (j : Nat) : w.frozen? ⟨g, j, none⟩ = false := by
 unfold Row at h; simp [World.frozen?, h]
theorem Row.lt {T : TypeId} {w : World} {g : Nat} {l : List UInt8} (h : Row T w g l) : g < w.heap.size := (Array.getElem?_eq_some_iff.1 h).1
theorem Row.set {T : TypeId} {w : World} {g : Nat} {l : List UInt8} (h : Row T w g l) (j : Nat) (y : UInt8) : Row T (w.setCell ⟨g, j, none⟩ (.int .u8 (y.toNat : Int))) g (l.set j y) := by
 have hlt := h.lt; have hv : w.heap[g] = .cells (vals l).toArray T (0, 0) := (Array.getElem?_eq_some_iff.1 h).2; show (w.heap.modify g _)[g]? = _; rw [Array.getElem?_eq_getElem (by simpa using hlt), Array.getElem_modify_self, hv]; simp [vals, List.map_set]
theorem Row.holds {T : TypeId} {w : World} {g : Nat} {l : List UInt8} (h : Row T w g l) (c : Nat) : Lib.HoldsBytes w (.slice (some ⟨g, 0, none⟩) l.length c) l := by
 refine ⟨some ⟨g, 0, none⟩, c, rfl, (fun e => by cases e), fun a ha i x hx => ?_⟩; cases ha; have hi : i < l.length := (List.getElem?_eq_some_iff.1 hx).1; have hadd : (⟨g, 0, none⟩ : Addr).add i = ⟨g, i, none⟩ := by unfold Addr.add; split <;> simp_all
 rw [hadd, h.cell i hi]; rw [(List.getElem?_eq_some_iff.1 hx).2]
theorem Row.block {T : TypeId} {w w' : World} {g : Nat} {l : List UInt8} (h : Row T w g l) (hb : w'.heap[g]? = w.heap[g]?) : Row T w' g l := by
 unfold Row at *; rw [hb]; exact h
theorem holds_below {B : Nat} {w w' : World} {v : Value} {l : List UInt8} (h : Lib.HoldsBytes w v l) (hb : Below B w w') (hB : w.heap.size ≤ B) : Lib.HoldsBytes w' v l := by
 obtain ⟨p, cap, rfl, h1, h2⟩ := h; exact ⟨p, cap, rfl, h1, fun a ha i x hx => Lib.Below.cellOf hb (h2 a ha i x hx) hB⟩
/-- what 'copy' asks of its source -/
theorem holds_src {w w' : World} {p : Option Addr} {n c : Nat} {l : List UInt8} (h : Lib.HoldsBytes w (.slice p n c) l) (hb : Below w.heap.size w w') :
 n = l.length ∧ (0 < (vals l).length → ∃ ad, p = some ad ∧ ∀ j v, (vals l)[j]? = some v → w'.cell? (ad.add j) = some v) := by
 obtain ⟨q, cap, he, h1, h2⟩ := h; cases he; refine ⟨rfl, fun hp => ?_⟩; rw [length_vals] at hp; cases p with
 | none => have := h1 rfl; subst this; simp at hp
 | some ad => refine ⟨ad, rfl, fun j v hv => ?_⟩; obtain ⟨x, hx, rfl⟩ := vals_get hv; exact Lib.Below.cellOf hb (h2 ad rfl j x hx) (Nat.le_refl _)
theorem splice_front (l : List UInt8) (m : Nat) : splice (vals (zs (l.length + m))) 0 (vals l) = vals (l ++ zs m) := by
 simp [splice, vals, zs]
end Go.Proofs.YtocekhckmpkbmaaGreat
namespace Go.Proofs.YtocekhckmpkbmaaGreat
open Go.RowKit
theorem info5 : (Tryz.prog.info? 5).map (fun i => (i.zero, i.size, i.bytes)) = some (some (.int .u8 0), 1, 1) := by kernel_rfl
theorem size5 : (Tryz.prog.info? 5).map (·.size) = some 1 := by kernel_rfl
def PutPost (w : World) (m : Nat) (l : List UInt8) (e : Ending) (w' : World) : Prop :=
 e = .returned (.slice (some ⟨w.heap.size, 0, none⟩) m m) ∧ Row 5 w' w.heap.size l ∧ Below w.heap.size w w'
def PutRel (w wr : World) (l : List UInt8) (k j x : Nat) : Prop :=
 Below w.heap.size w wr ∧ Row 5 wr w.heap.size (l ++ zs (k - j) ++ be j x)
theorem digit (x j : Nat) : ((x : Int) / 2 ^ (8 * j) % 256) = ((UInt8.ofNat (x / 256 ^ j)).toNat : Int) := by
 have e : (2 : Int) ^ (8 * j) = ((256 ^ j : Nat) : Int) := by rw [Int.pow_mul]; norm_cast
 rw [e]; simp
theorem put_set (l : List UInt8) (k j x : Nat) (h : j < k) :
 (l ++ zs (k - j) ++ be j x).set (l.length + k - 1 - j) (UInt8.ofNat (x / 256 ^ j)) = l ++ zs (k - (j + 1)) ++ be (j + 1) x := by
 have e : zs (k - j) = zs (k - (j + 1)) ++ [0] := by
  have : k - j = (k - (j + 1)) + 1 := by omega
  rw [this]; simp [zs, List.replicate_succ']
 rw [e, be_cons]; rw [show l ++ (zs (k - (j + 1)) ++ [0]) ++ be j x = (l ++ zs (k - (j + 1))) ++ (0 :: be j x) by simp]; rw [List.set_append_right _ _ (by simp [zs]; omega)]; rw [show l.length + k - 1 - j - (l ++ zs (k - (j + 1))).length = 0 by simp [zs]; omega]; simp
theorem PutRel.cell {w wr : World} {l : List UInt8} {k j x n : Nat} (h : PutRel w wr l k j x) (hn : n = l.length) (hj : j < k) : ∃ v, wr.cell? ⟨w.heap.size, n + k - 1 - j, none⟩ = some v :=
 ⟨_, h.2.cell (n + k - 1 - j) (by simp [zs, length_be]; omega)⟩
theorem PutRel.free {w wr : World} {l : List UInt8} {k j x n : Nat} (h : PutRel w wr l k j x) : wr.frozen? ⟨w.heap.size, n + k - 1 - j, none⟩ = false := h.2.free _
theorem PutRel.step {w wr : World} {l : List UInt8} {k j x n : Nat} (h : PutRel w wr l k j x) (hn : n = l.length) (hj : j < k) :
 PutRel w (wr.setCell ⟨w.heap.size, n + k - 1 - j, none⟩ (.int .u8 ((x : Int) / 2 ^ (8 * j) % 256))) l k (j + 1) x := by
 refine ⟨h.1.setCell (p := ⟨w.heap.size, _, none⟩) (Nat.le_refl _) _, ?_⟩; rw [digit, ← put_set l k j x hj, hn]; exact h.2.set _ _
set_option maxHeartbeats 400000 in
theorem put_any (p : Option Addr) (n c k : Nat) (x : Nat) (l : List UInt8) (w : World) (hv : Lib.HoldsBytes w (.slice p n c) l) (hn : n ≤ 140737488355328) (hk : k ≤ 8) :
 Calls Tryz.prog 115 #[.slice p n c, .int .u64 (x : Int), .int .i64 k] w (PutPost w (n + k) (l ++ be k x)) := by
 obtain ⟨i0, hi, hz0, hz1, hz2⟩ := info_parts info5
 have hmk : ∀ u : World, (Instr.makeSlice 36 (.int .i64 ((n : Int) + k)) (.int .i64 ((n : Int) + k))).run Tryz.prog u =
  .ok (.slice (some ⟨u.heap.size, 0, none⟩) (n + k) (n + k)) (u.alloc (.cells (vals (zs (n + k))).toArray 5)) := fun u => by
  have h := run_make (P := Tryz.prog) u 36 5 i0 (.int .u8 0) Tryz.underlying36 hi hz0 .i64 .i64 ((n : Int) + k) ((n : Int) + k) (by omega) (Int.le_refl _) (by rw [hz2]; omega) (by omega); have e : ((n : Int) + k).toNat = n + k := by omega
  rw [e, hz1, Nat.mul_one, show (Value.int .u8 0).cells = #[.int .u8 0] from rfl, made_zs] at h; exact h
 have hB := lh ((Below.refl w.heap.size w).alloc (Nat.le_refl _) (.cells (vals (zs (n + k))).toArray 5)); have hs := lh (holds_src hv hB.out); have c1 := lh (heap_alloc_new w (.cells (vals (zs (n + k))).toArray 5)); have c2 : Hid ((vals l).length = Nat.min n (n + k)) := by show _ = min n (n + k); rw [length_vals, hs.out.1]; omega
 have c4 : Hid (0 + (vals l).length ≤ (vals (zs (n + k))).length) := by show _ ≤ _; rw [length_vals, length_vals, length_zs, hs.out.1]; omega
 have c5 := lh (one_vals l); have hv1 := lh hv; clear hv; clear hi hz0 hz1 hz2
 go_enter Tryz.func115, Tryz.ntmps115
 go_wp2_with (with_reducible (refine wpList_copy_splice rfl (.tmp 14) (.tmp 15) 36 36 rfl 5 Tryz.underlying36 size5 _ _ _ _ _ _ rfl rfl w.heap.size 0 (vals (zs (n + k))) 5 c1.out (vals l) c2.out (fun h => ⟨rfl, hs.out.2 h⟩) c4.out c5.out w.heap.size w hB.out (Nat.le_refl _) ?_; intro w2 HG2 hB2))
 have hrow0 : PutRel w w2 l k 0 x := ⟨hB2, by
  have h := HG2.out; have e := hs.out.1; subst e; rw [splice_front] at h; show _ = _
  rw [h]; simp [be]⟩
 clear HG2 hB2
 go_loopw [18] (fun v18 wr => ∃ j : Nat, j ≤ k ∧ v18 = .int .i64 j ∧ PutRel w wr l k j x) (fun v18 _ => k - (intOf v18).toNat)
 case atStart => exact ⟨0, Nat.zero_le _, rfl, hrow0⟩
 case round =>
  obtain ⟨j, hj, rfl, hr⟩ := hrel
  by_cases hlt : j < k
  · obtain ⟨v0, hcell⟩ := hr.cell hs.out.1 hlt; have hfree := hr.free (n := n); have hnext := lh (hr.step hs.out.1 hlt); go_wp2
    go_roundw
    case rel => exact ⟨j + 1, by omega, by go_num, hnext.out⟩
    case measure => simp [intOf]; omega
  · obtain rfl : j = k := by omega
    go_wp2; go_ret; refine ⟨rfl, ?_, hr.1⟩; have h := hr.2; simpa [zs] using h
end Go.Proofs.YtocekhckmpkbmaaGreat
namespace Go.Proofs.YtocekhckmpkbmaaGreat
open Go.RowKit
theorem put_int (p : Option Addr) (n c : Nat) (k x : Int) (l : List UInt8) (w : World) (hv : Lib.HoldsBytes w (.slice p n c) l) (hn : n ≤ 140737488355328) (hx : 0 ≤ x) (hk0 : 0 ≤ k) (hk : k ≤ 8) :
 Calls Tryz.prog 115 #[.slice p n c, .int .u64 x, .int .i64 k] w (PutPost w (n + k.toNat) (l ++ be k.toNat x.toNat)) := by
 have h := put_any p n c k.toNat x.toNat l w hv hn (by omega)
 rwa [Int.toNat_of_nonneg hx, Int.toNat_of_nonneg hk0] at h
set_option maxHeartbeats 400000 in
theorem put64 (p : Option Addr) (n c : Nat) (x : Int) (l : List UInt8) (w : World) (hv : Lib.HoldsBytes w (.slice p n c) l) (hn : n ≤ 140737488355328) (hx : 0 ≤ x) :
 Calls Tryz.prog 93 #[.slice p n c, .int .u64 x] w (PutPost w (n + 8) (l ++ be 8 x.toNat)) := by
 have hv1 := lh hv; clear hv
 go_enter Tryz.func93, Tryz.ntmps93
 go_wp2_with (go_at_call 115; refine (put_int p n c 8 x l w hv1.out hn hx (by omega) (by omega)).mono ?_; rintro e w' ⟨rfl, hrow, hb⟩)
 go_ret; exact ⟨rfl, hrow, hb⟩
set_option maxHeartbeats 400000 in
theorem put16 (p : Option Addr) (n c : Nat) (x : Int) (l : List UInt8) (w : World) (hv : Lib.HoldsBytes w (.slice p n c) l) (hn : n ≤ 140737488355328) (hx : 0 ≤ x) (hx1 : x < 65536) :
 Calls Tryz.prog 159 #[.slice p n c, .int .u16 x] w (PutPost w (n + 2) (l ++ be 2 x.toNat)) := by
 have hv1 := lh hv; clear hv
 go_enter Tryz.func159, Tryz.ntmps159
 go_wp2_with (go_at_call 115; refine (put_int p n c 2 x l w hv1.out hn hx (by omega) (by omega)).mono ?_; rintro e w' ⟨rfl, hrow, hb⟩)
 go_ret; exact ⟨rfl, hrow, hb⟩
/-- A slice of the bytes l whose array, if there is one, lies at block B or later. -/
def New (B : Nat) (w : World) (v : Value) (l : List UInt8) : Prop :=
 Lib.HoldsBytes w v l ∧ ∀ a n c, v = .slice (some a) n c → B ≤ a.block ∧ a.block < w.heap.size ∧ n ≤ c
def ClonePost (w : World) (l : List UInt8) (e : Ending) (w' : World) : Prop :=
 ∃ q c', e = .returned (.slice q l.length c') ∧ New w.heap.size w' (.slice q l.length c') l ∧ Below w.heap.size w w'
theorem clone (p : Option Addr) (n c : Nat) (l : List UInt8) (w : World) (hv : Lib.HoldsBytes w (.slice p n c) l) (hn : n ≤ 140737488355328) :
 Calls Tryz.prog 100 #[.slice p n c] w (ClonePost w l) := by
 obtain ⟨q, cap, he, h1, h2⟩ := hv; cases he; cases p with
 | none => have := h1 rfl; subst this; refine (Tryz.bytes_Clone_nil _ c w).mono ?_; rintro e w' ⟨rfl, rfl⟩; exact ⟨none, 0, rfl, ⟨⟨none, 0, rfl, fun _ => rfl, fun a ha => by cases ha⟩, fun a n c h => by cases h⟩, Below.refl _ _⟩
 | some a =>
   refine (Tryz.bytes_Clone_at a l.length c (Lib.numsL l) w (Lib.numsL_length l) hn (fun i hi => ?_)).mono ?_
   · rw [h2 a rfl i l[i] (List.getElem?_eq_getElem hi)]; simp [Lib.numsL, List.getD, hi]
   rintro e w' ⟨v', rfl, hown, hne, hb⟩; obtain ⟨hlen, hr | ⟨g, cap', cur, rfl, hg, hh, hle, hm, hsz, htk⟩⟩ := hown
   · exact absurd hr.1 hne
   · refine ⟨some ⟨g, 0, none⟩, cap', rfl, ⟨⟨some ⟨g, 0, none⟩, cap', rfl, (fun h => by cases h), fun a ha i x hx => ?_⟩, fun a n c h => by cases h; exact ⟨hg, (Array.getElem?_eq_some_iff.1 hh).1, hle⟩⟩, hb⟩; cases ha; have hadd : (⟨g, 0, none⟩ : Addr).add i = ⟨g, i, none⟩ := by unfold Addr.add; split <;> simp_all
     have hi : i < l.length := (List.getElem?_eq_some_iff.1 hx).1; rw [hadd, cell_of_row w' g i cur 5 (0, 0) hh]; have h3 := congrArg (·[i]?) htk; simp only [Nat.mul_one] at h3; rw [List.getElem?_take_of_lt hi] at h3; rw [← Array.getElem?_toList, h3]; simp [Lib.numsL, hx]
end Go.Proofs.YtocekhckmpkbmaaGreat
