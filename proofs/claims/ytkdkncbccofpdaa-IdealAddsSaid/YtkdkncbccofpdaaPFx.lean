/- A region that draws its order and whose operations, reads and calls alike, each give one value in every world that meets S, calls leaving S as it is: one walk. Nothing of a program is claimed here. -/
import Derived.Test.YtkdkncbccofpdaaPair
namespace Go.Proofs.Ytkdkncbccofpdaa
open Go.RowKit

section
variable {P : Program} {ops : Array Oper} {Q : Exit → Act → World → Prop} {md : Region.Mode} {S : World → Prop}
/-- an operation that gives one value in every world that meets S, and leaves S -/
def Fix (P : Program) (ops : Array Oper) (S : World → Prop) (o : Oper) (v : Value) (a : Act) : Prop :=
  (Region.wanted o (yielded ops a.tmps) = true ∧ ((∀ w, S w → (execOp a.eval o).run P w = .ok (.value v) w) ∨
    ∃ f args, (∀ w, (execOp a.eval o).run P w = .ok (.enter f args) w) ∧ ∀ w, S w → Calls P f args w (fun e w' => e = .returned v ∧ S w'))) ∨
  (Region.wanted o (yielded ops a.tmps) = false ∧ v = undef)
theorem Fix.of_same {o : Oper} {v : Value} {a a' : Act} (hy : Fix P ops S o v a) (he : execOp a'.eval o = execOp a.eval o)
    (hw : Region.wanted o (yielded ops a'.tmps) = Region.wanted o (yielded ops a.tmps)) : Fix P ops S o v a' := by
  unfold Fix at *
  rw [he, hw]
  exact hy
theorem Fix.wpOp {i : Nat} {o : Oper} {v : Value} {a : Act} (hi : ops[i]? = some o) (hy : Fix P ops S o v a)
    {K : Act → World → Prop} {w : World} (hS : S w) (h : ∀ w', S w' → K (a.put o.dst v) w') : wpOp P ops Q i K a w := by
  unfold Go.wpOp
  simp only [hi]
  rcases hy with ⟨hw, hv | ⟨f, args, hr, hc⟩⟩ | ⟨hw, rfl⟩
  · simp only [hw, if_true, Oper.wp, hv w hS, Oper.upon]; exact .inl (h w hS)
  · simp only [hw, if_true]
    refine .inl ?_
    unfold Oper.wp
    rw [hr, Oper.upon_enter]
    refine (hc w hS).mono fun e w' he => ?_
    obtain ⟨rfl, hS'⟩ := he
    exact h w' hS'
  · simp only [hw, Bool.false_eq_true, if_false]; exact h w hS

def wpF (P : Program) (md : Region.Mode) (ops : Array Oper) (Q : Exit → Act → World → Prop) (S : World → Prop) : Nat → Array Bool → Act → Prop
  | 0, listed, a => Region.ready md ops listed = [] ∧ ∀ w, S w → Q .normal a w
  | n + 1, listed, a => (Region.ready md ops listed = [] → ∀ w, S w → Q .normal a w) ∧
    ∀ i ∈ Region.ready md ops listed, ∃ oi v, ops[i]? = some oi ∧ Fix P ops S oi v a ∧ wpF P md ops Q S n (listed.setIfInBounds i true) (a.put oi.dst v)
theorem wpF.held : ∀ (n : Nat) (listed : Array Bool) (a : Act), wpF P md ops Q S n listed a → ∀ w, S w → wpAnyH P md ops Q S n listed a w
  | 0, _, _, h, w, hS => ⟨h.1, h.2 w hS⟩
  | n + 1, _, _, h, w, hS => ⟨fun h0 => h.1 h0 w hS, fun i hi => by
    obtain ⟨oi, v, ho, hf, h'⟩ := h.2 i hi
    exact hf.wpOp ho hS fun w' hS' => ⟨hS', wpF.held n _ _ h' w' hS'⟩⟩
theorem wpF_first {i : Nat} {oi : Oper} {v : Value} (hi : ops[i]? = some oi) (hsel : ∀ (j : Nat) (o : Oper) cs b, ops[j]? = some o → o.op ≠ .select cs b) :
    ∀ (n : Nat) (listed : Array Bool) (a : Act),
      (∀ j oj, ops[j]? = some oj → j ≠ i → listed.getD j true = false → (∀ e ∈ oj.after, Region.binds md e = true → e.on ≠ i) → oi.apart ops oj = true) →
      i ∈ Region.ready md ops listed → Fix P ops S oi v a →
      wpF P md ops Q S n (listed.setIfInBounds i true) (a.put oi.dst v) → wpF P md ops Q S (n + 1) listed a := by
  intro n
  induction n with
  | zero =>
    intro listed a _ hr hy H
    refine ⟨fun h => (by rw [h] at hr; cases hr), fun j hj => ?_⟩
    by_cases hji : j = i
    · subst hji; exact ⟨oi, v, hi, hy, H⟩
    · have := ready_mono hj hji
      rw [H.1] at this
      cases this
  | succ n ih =>
    intro listed a hfree hr hy H
    refine ⟨fun h => (by rw [h] at hr; cases hr), fun j hj => ?_⟩
    by_cases hji : j = i
    · subst hji; exact ⟨oi, v, hi, hy, H⟩
    · obtain ⟨oj, u, hoj, hfj, H'⟩ := H.2 j (ready_mono hj hji)
      obtain ⟨hjun, oj', hoj', hall⟩ := mem_ready.1 hj
      rw [hoj] at hoj'
      cases hoj'
      have hnot : ∀ e ∈ oj.after, Region.binds md e = true → e.on ≠ i := fun e he hb heq => by
        have h1 := hall e he hb
        have h0 := (mem_ready.1 hr).1
        rw [heq] at h1
        rcases Nat.lt_or_ge i listed.size with h' | h'
        · simp [h'] at h0 h1; rw [h0] at h1; cases h1
        · simp [Array.getElem?_eq_none h'] at h1
      obtain ⟨h1, h2, h3⟩ := Oper.apart_spec (hfree j oj hoj hji hjun hnot)
      have hsi : ∀ cs b, oi.op ≠ .select cs b := fun cs b => hsel i oi cs b hi
      have hsj : ∀ cs b, oj.op ≠ .select cs b := fun cs b => hsel j oj cs b hoj
      have hfree' : ∀ k ok, ops[k]? = some ok → k ≠ i → (listed.setIfInBounds j true).getD k true = false →
          (∀ e ∈ ok.after, Region.binds md e = true → e.on ≠ i) → oi.apart ops ok = true := fun k ok hk hki hun hno => by
        refine hfree k ok hk hki ?_ hno
        by_cases hjk : j = k
        · subst hjk; exact hjun
        · rw [getD_set_ne true hjk] at hun; exact hun
      refine ⟨oj, u, hoj, hfj.of_same (execOp_put oj hsj a oi.dst v h1).symm (wanted_put oj a oi.dst v h1).symm, ?_⟩
      refine ih (listed.setIfInBounds j true) (a.put oj.dst u) hfree' (ready_mono hr (Ne.symm hji)) (hy.of_same (execOp_put oi hsi a oj.dst u h3) (wanted_put oi a oj.dst u h3)) ?_
      rw [Array.setIfInBounds_comm _ _ hji, ← Act.put_comm a v u h2]
      exact H'
theorem fx {i : Nat} {o : Oper} {dst : Option Tmp} (hd : o.dst = dst) {v : Value} {n : Nat} {listed : Array Bool} {a : Act} (hi : ops[i]? = some o) (hy : Fix P ops S o v a) (h : wpF P md ops Q S n (listed.setIfInBounds i true) (a.put dst v))
    (hs : Region.noSelect ops = true := by kernel_rfl) (hf : Region.free md ops listed i = true := by kernel_rfl) (hr : (Region.ready md ops listed).contains i = true := by kernel_rfl) : wpF P md ops Q S (n + 1) listed a := by
  subst hd
  exact wpF_first hi (Region.noSelect_spec hs) n listed a (Region.free_spec hi hf) (by simpa using hr) hy h
theorem fx_done {listed : Array Bool} {a : Act} (h : ∀ w, S w → Q .normal a w) (hr : Region.ready md ops listed = [] := by kernel_rfl) : ∀ n, wpF P md ops Q S n listed a
  | 0 => ⟨hr, h⟩
  | _ + 1 => ⟨fun _ => h, by rw [hr]; simp⟩
end

section
variable {P : Program} {ops : Array Oper} {S : World → Prop} {a : Act} {o : Oper}
theorem fx_read {v : Value} (hy : ∀ w, S w → (execOp a.eval o).run P w = .ok (.value v) w) (hw : Region.wanted o (yielded ops a.tmps) = true := by exact rfl) : Fix P ops S o v a := .inl ⟨hw, .inl hy⟩
theorem fx_off (hw : Region.wanted o (yielded ops a.tmps) = false := by exact rfl) : Fix P ops S o undef a := .inr ⟨hw, rfl⟩
theorem fx_move (x : Operand) {v : Value} (ho : o.op = .move x := by exact rfl) (hx : a.eval x = v := by exact rfl) (hw : Region.wanted o (yielded ops a.tmps) = true := by exact rfl) : Fix P ops S o v a :=
  .inl ⟨hw, .inl fun w _ => by
    subst hx
    unfold execOp
    simp [ho]⟩
theorem fx_load (ty : TypeId) (x : Operand) {ad : Addr} {v : Value} (h : ∀ w, S w → (loadVar ty ad).run P w = .ok v w) (ho : o.op = .load ty x := by exact rfl) (hx : a.eval x = .pointer (some ad) := by exact rfl) (hw : Region.wanted o (yielded ops a.tmps) = true := by exact rfl) : Fix P ops S o v a :=
  .inl ⟨hw, .inl fun w hS => by
    unfold execOp
    simp only [ho, hx, Instr.loadAt, Instr.sureAddr, Sem.run_bind, Sem.run_pure, Result.andThen_ok, h w hS]⟩
theorem fx_call {f : FuncId} {args : Array Value} {v : Value} (hc : ∀ w, S w → Calls P f args w (fun e w' => e = .returned v ∧ S w')) (hrun : ∀ w, (execOp a.eval o).run P w = .ok (.enter f args) w := by intro w; go_simp) (hw : Region.wanted o (yielded ops a.tmps) = true := by exact rfl) : Fix P ops S o v a :=
  .inl ⟨hw, .inr ⟨f, args, hrun, hc⟩⟩
end

section
variable {P : Program} {ops : Array Oper} {Q : Exit → Act → World → Prop} {md : Region.Mode} {S : World → Prop}
/-- held_take, what a reader need not see asked last -/
theorem held_tk {i : Nat} {o : Oper} {dst : Option Tmp} (hd : o.dst = dst) {v : Value} {fuel : Nat} {listed : Array Bool} {a : Act} {w : World} (hi : ops[i]? = some o) (hy : YieldsIf P ops S o v a) (hS : S w)
    (h : wpAnyH P md ops Q S fuel (listed.setIfInBounds i true) (a.put dst v) w)
    (hs : Region.noSelect ops = true := by kernel_rfl) (hf : Region.free md ops listed i = true := by kernel_rfl) (hr : (Region.ready md ops listed).contains i = true := by kernel_rfl)
    (hQ : ∀ c a w, Q (.panic c) (a.put o.dst v) w → Q (.panic c) a w := by exact fun _ _ _ h => h) : wpAnyH P md ops Q S (fuel + 1) listed a w :=
  held_take hd hi hs hf hr hQ hy hS h
end
end Go.Proofs.Ytkdkncbccofpdaa
