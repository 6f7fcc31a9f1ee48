/- A disk of the program and the document's own one beside it, in a call of DiskForks: what each step keeps. No program here but two comparisons. -/
import Derived.Test.YtnjandmlhncapaaSaysD
namespace Go.Proofs.Ytnjandmlhncapaa
open Go.RowKit

theorem ops_run (d : Dk) (o : OpV) : (runRes d o).2.ops = d.ops ∨ (runRes d o).2.ops = d.ops + 1 := by
  unfold runRes rdRes syRes wrRes armRes failRes
  repeat' split
  all_goals first | exact .inl rfl | exact .inr rfl

theorem at_lts {w : World} {p : Pl} {d : Dk} (k : At w p d) : ∀ x ∈ p.L, x < w.heap.size := fun x hx => by
  simp only [Pl.L, List.mem_cons, List.not_mem_nil, or_false] at hx
  rcases hx with rfl | rfl | rfl
  · exact k.glt
  · exact k.hlt
  · exact k.mlt

/-- the program's disk (dp) at p, the document's (the same as dm) in block b -/
structure Two (w W : World) (p : Pl) (b : Nat) (dp dm : Dk) (q : Option Addr) (c : Nat) (S : List Sc) (ops ar fl : Int) (dead : Bool) : Prop where
  mine : Mine w W p dp
  row : RowV 31 W b [.slice q S.length c, .int .i64 ops, .int .i64 ar, .int .i64 fl, .bool dead]
  doc : Doc W q c S dm ops ar fl dead
  lo : w.heap.size ≤ b
  out : b ∉ p.L
  far : ∀ a, q = some a → a.block ≠ b ∧ a.block ∉ p.L

section
variable {w W W' W'' : World} {p : Pl} {b : Nat} {dp dm d' : Dk} {q q' : Option Addr} {c c' : Nat} {S S' : List Sc} {ops ar fl ops' ar' fl' : Int} {dead dead' : Bool}
theorem Two.below (h : Two w W p b dp dm q c S ops ar fl dead) (hb : Below W.heap.size W W') : Two w W' p b dp dm q c S ops ar fl dead :=
  ⟨h.mine.stay hb, h.row.below hb, h.doc.below hb, h.lo, h.out, h.far⟩
theorem Two.run (h : Two w W p b dp dm q c S ops ar fl dead) (hA : At W' p d') (hT : Tch p.L W W') : Two w W' p b d' dm q c S ops ar fl dead :=
  ⟨h.mine.tch hA hT, h.row.tch hT h.out, h.doc.kept (fun a ha => hT.block _ (h.doc.low a ha) (h.far a ha).2) hT.size, h.lo, h.out, h.far⟩
theorem Two.wants (h : Two w W p b dp dm q c S ops ar fl dead) (hb : Below W.heap.size W W') (hd : Doc W' q' c' S' dp ops' ar' fl' dead') (hf : q' = q ∨ ∀ a, q' = some a → W.heap.size ≤ a.block)
    (hr : RowV 31 W'' b [.slice q' S'.length c', .int .i64 ops', .int .i64 ar', .int .i64 fl', .bool dead']) (hg : W'.grownBy W'' (some b)) : Two w W'' p b dp dp q' c' S' ops' ar' fl' dead' := by
  have hm := h.mine.stay hb
  have far' : ∀ a, q' = some a → a.block ≠ b ∧ a.block ∉ p.L := fun a ha => by
    rcases hf with rfl | hf
    · exact h.far a ha
    · have h1 := hf a ha
      have h2 := h.row.lt
      exact ⟨by omega, fun hin => by have := at_lts h.mine.disk _ hin; omega⟩
  refine ⟨⟨hm.disk.other hg h.out, hm.below.grown hg hm.below.size (fun k e => by cases e; exact h.lo), hm.low⟩, hr, hd.kept (fun a ha => hg.block _ (hd.low a ha) (fun e => (far' a ha).1 (Option.some.inj e))) hg.size, h.lo, h.out, far'⟩
theorem Two.room (h : Two w W p b dp dm q c S ops ar fl dead) (h0 : 0 ≤ dp.ops) (h1 : dp.ops ≤ 1000) : Room dp := ⟨h.mine.disk.good, h0, by omega⟩
end

def LoopA (w W : World) (p : Pl) (b : Nat) (N : Int) : Prop :=
  ∃ d q c S ops ar fl dead, Two w W p b d d q c S ops ar fl dead ∧ 0 ≤ d.ops ∧ d.ops ≤ N

theorem wpList_neq_blk {ops : Array Oper} {rest : List Oper} {o : Oper} {a : Act} {w : World} {Q : Exit → Act → World → Prop} {x y : Operand} {t : TypeId} (ho : o.op = .binOp .neq 37 x y t) (hw : Region.wanted o (yielded ops a.tmps) = true) {xs ys : List Int} (hx : a.eval x = agg xs) (hy : a.eval y = agg ys) (h1 : xs.length = 64) (h2 : ys.length = 64)
    (h : wpList Try.prog ops Q rest (a.put o.dst (.bool (!(xs == ys)))) w) : wpList Try.prog ops Q (o :: rest) a w := by
  refine wpList_wanted hw fun K hK => ?_
  unfold Oper.wp execOp
  have hb := run_neq_blk x y xs ys h1 h2 w
  simp only [Sem.run_bind] at hb
  simp only [ho, hx, hy, Sem.run_bind, hb, Result.andThen_ok, Sem.run_pure]
  exact hK _ _ h

theorem alloc31 (u : World) : (Instr.alloc 31 true (.tuple #[])).run Try.prog u = .ok (.pointer (some ⟨u.heap.size, 0, none⟩)) (u.alloc (.cells (dL none 0 0 0 0 0 false).toArray 31)) := by kernel_rfl
theorem run_alloc_op {P : Program} {o : Oper} {a : Act} {w : World} {T : TypeId} {cs : List Value} (ho : o.op = .alloc T) (hz : ∀ u, (Instr.alloc T true (.tuple #[])).run P u = .ok (.pointer (some ⟨u.heap.size, 0, none⟩)) (u.alloc (.cells cs.toArray T))) :
    (execOp a.eval o).run P w = .ok (.value (.pointer (some ⟨w.heap.size, 0, none⟩))) (w.alloc (.cells cs.toArray T)) := by
  unfold execOp
  simp only [ho, Sem.run_bind, Sem.run_pure, Result.andThen_ok, hz]

end Go.Proofs.Ytnjandmlhncapaa
