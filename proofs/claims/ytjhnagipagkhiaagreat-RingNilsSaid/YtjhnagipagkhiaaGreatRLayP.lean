/- What is written, group by group, with a sync behind each: its numbers, and what a function leaves with. No program here but laws. -/
import Derived.Test.YtjhnagipagkhiaaGreatRNou
namespace Go.Proofs.YtjhnagipagkhiaaGreat
open Go.RowKit Go.Maps

def wrAll : Dk → List (Int × List Int) → Int × Dk
  | d, [] => (0, d)
  | d, (i, b) :: r => if (wrRes d i b).1 = 0 then wrAll (wrRes d i b).2 r else wrRes d i b
def layAll : Dk → List (List (Int × List Int)) → Int × Dk
  | d, [] => (0, d)
  | d, g :: r => if (wrAll d g).1 = 0 then (if (syRes (wrAll d g).2).1 = 0 then layAll (syRes (wrAll d g).2).2 r else syRes (wrAll d g).2) else wrAll d g

theorem ops_wr (d : Dk) (i : Int) (b : List Int) : (wrRes d i b).2.ops = d.ops ∨ (wrRes d i b).2.ops = d.ops + 1 := by
  unfold wrRes
  repeat' split
  all_goals first | exact .inl rfl | exact .inr rfl
theorem ops_sy (d : Dk) : (syRes d).2.ops = d.ops ∨ (syRes d).2.ops = d.ops + 1 := by
  unfold syRes
  repeat' split
  all_goals first | exact .inl rfl | exact .inr rfl
theorem wrAll_ops : ∀ (l : List (Int × List Int)) (d : Dk), d.ops ≤ (wrAll d l).2.ops ∧ (wrAll d l).2.ops ≤ d.ops + l.length
  | [], d => by simp [wrAll]
  | (i, b) :: r, d => by
    have h := ops_wr d i b
    unfold wrAll
    split
    · have h2 := wrAll_ops r (wrRes d i b).2
      simp only [List.length_cons]
      omega
    · simp only [List.length_cons]
      omega
theorem wrAll_snoc {d d2 : Dk} : ∀ {l : List (Int × List Int)} {i : Int} {b : List Int} {r : List (Int × List Int)}, wrAll d l = (0, d2) → wrAll d (l ++ (i, b) :: r) = if (wrRes d2 i b).1 = 0 then wrAll (wrRes d2 i b).2 r else wrRes d2 i b
  | [], i, b, r, h => by
    have : d = d2 := by unfold wrAll at h; exact (Prod.mk.inj h).2
    subst this
    rw [List.nil_append]
    conv => lhs; unfold wrAll
  | (j, c) :: l, i, b, r, h => by
    unfold wrAll at h
    rw [List.cons_append]
    conv => lhs; unfold wrAll
    by_cases h0 : (wrRes d j c).1 = 0
    · rw [if_pos h0] at h ⊢
      exact wrAll_snoc h
    · rw [if_neg h0] at h
      rw [h] at h0
      exact absurd rfl h0

/-- the marks of a function's ranges: each block is shut when it is left -/
def Marks (B : Nat) : Nat → List Deferred → World → Prop
  | _, [], _ => True
  | M, d :: ds, W => ∃ D, d = { target := .collected D, args := #[] } ∧ B ≤ D ∧ D < M ∧ W.heap[D]? = some (.deferred (some [])) ∧ Marks B D ds W
theorem Marks.keep {B : Nat} : ∀ {ds : List Deferred} {M M' : Nat} {W W' : World}, Marks B M ds W → (∀ k, B ≤ k → k < M → W'.heap[k]? = W.heap[k]?) → M ≤ M' → Marks B M' ds W'
  | [], _, _, _, _, _, _, _ => trivial
  | d :: ds, M, M', W, W', h, hk, hM => by
    obtain ⟨D, h1, h2, h3, h4, h5⟩ := h
    exact ⟨D, h1, h2, by omega, (hk D h2 h3).trans h4, h5.keep (fun k a b => hk k a (by omega)) (Nat.le_refl _)⟩

theorem leaves_marks {P : Program} {n : Nat} {fn : Func} {tmps : Array Value} {R : Ending → World → Prop} {B : Nat} : ∀ {ds : List Deferred} {M : Nat} {W : World}, Marks B M ds W →
    (∀ W', Below B W W' → LeavesIn Fence.wide n P fn tmps R [] .returning W') → LeavesInM Fence.wide n P fn tmps R ds .returning W
  | [], _, W, _, h => h W (Below.refl _ _)
  | d :: ds, M, W, hm, h => by
    obtain ⟨D, rfl, h2, h3, h4, h5⟩ := hm
    refine ⟨by simp, .inl ⟨D, _, rfl, run_takeDeferred h4, ?_⟩⟩
    have hb : ∀ o : Obj, Below B W (W.putObj D o) := fun o => ⟨rfl, rfl, rfl, by simp, fun k hk => World.putObj_heap_other (by omega)⟩
    refine leaves_marks (h5.keep (fun k a b => World.putObj_heap_other (by omega)) (Nat.le_refl _)) (fun W' hW' => h W' ((hb _).trans hW'))

section
variable {F : Fence} {n : Nat} {P : Program} {w : World}
theorem wpListIn_load_at {ops : Array Oper} {rest : List Oper} {o : Oper} {a : Act} {Q : Exit → Act → World → Prop} (hgd : o.guard = none) (ty : TypeId) (x : Operand) (ho : o.op = .load ty x) {d : TypeDesc} (hu : P.underlying ty = some d)
    (hd : (match d with | .struct _ | .array _ _ => true | _ => false) = true) {vs : List Value} (hi : (P.info? ty).map (·.size) = some vs.length) {ad : Addr} (hx : a.eval x = .pointer (some ad))
    (hc : ∀ j v, vs[j]? = some v → w.cell? (ad.add j) = some v) (h : wpListIn F n P ops Q rest (a.put o.dst (.agg vs.toArray)) w) : wpListIn F n P ops Q (o :: rest) a w := by
  refine wpListIn_plain hgd fun K hK => ?_
  unfold Oper.wpIn
  refine ⟨by simp [Oper.about, ho], ?_⟩
  rw [Oper.semAt_plain F _ _ (by rw [ho]; intro c hc'; cases hc')]
  unfold execOp
  simp only [ho, hx, Instr.loadAt, Instr.sureAddr, Sem.run_bind, Sem.run_pure, Result.andThen_ok, run_loadVar_at hu hd hi ad hc, Oper.uponIn_value]
  exact hK _ _ h
theorem wpListIn_store_at {ops : Array Oper} {rest : List Oper} {op : Oper} {a : Act} {Q : Exit → Act → World → Prop} (hgd : op.guard = none) (ty : TypeId) (x y : Operand) (ho : op.op = .store ty x y) {T : TypeId} {g o : Nat} {cs vs : List Value}
    (hx : a.eval x = .pointer (some ⟨g, o, none⟩)) (hy : a.eval y = .agg vs.toArray) (h : RowV T w g cs) (hi : (P.info? ty).map (·.size) = some vs.length) (hfit : o + vs.length ≤ cs.length) (h1 : ∀ v ∈ vs, v.oneCell' = true)
    (hK : ∀ w', RowV T w' g (splice cs o vs) → w.grownBy w' (some g) → wpListIn F n P ops Q rest (a.put op.dst undef) w') : wpListIn F n P ops Q (op :: rest) a w := by
  refine wpListIn_plain hgd fun K hK' => ?_
  obtain ⟨w', hrun, r1, r2⟩ := run_storeVar_at (P := P) (ty := ty) h hi hfit h1
  unfold Oper.wpIn
  refine ⟨by simp [Oper.about, ho], ?_⟩
  rw [Oper.semAt_plain F _ _ (by rw [ho]; intro c hc'; cases hc')]
  unfold execOp
  simp only [ho, hx, hy, Instr.storeAt, Instr.sureAddr, Sem.run_bind, Sem.run_pure, Result.andThen_ok, hrun, Oper.uponIn_skip]
  exact hK' _ _ (hK w' r1 r2)
theorem wpListIn_alloc_z {ops : Array Oper} {rest : List Oper} {o : Oper} {a : Act} {Q : Exit → Act → World → Prop} (hgd : o.guard = none) (T : TypeId) (ho : o.op = .alloc T) {cs : List Value}
    (hz : ∀ u, (Instr.alloc T true (.tuple #[])).run P u = .ok (.pointer (some ⟨u.heap.size, 0, none⟩)) (u.alloc (.cells cs.toArray T)))
    (h : wpListIn F n P ops Q rest (a.put o.dst (.pointer (some ⟨w.heap.size, 0, none⟩))) (w.alloc (.cells cs.toArray T))) : wpListIn F n P ops Q (o :: rest) a w := by
  refine wpListIn_plain hgd fun K hK => ?_
  unfold Oper.wpIn
  refine ⟨by simp [Oper.about, ho], ?_⟩
  rw [Oper.semAt_plain F _ _ (by rw [ho]; intro c hc'; cases hc')]
  unfold execOp
  simp only [ho, Sem.run_bind, Sem.run_pure, Result.andThen_ok, hz, Oper.uponIn_value]
  exact hK _ _ h
end

end Go.Proofs.YtjhnagipagkhiaaGreat
