/- Parts of the proof: A region that draws its order and whose operations, reads and calls alike, each give one value in every world that meets S, calls leaving S as it is: one walk. Nothing of a program is claimed here; A region that draws its order, of which a later store (number s) writes what others read ahead of it. Nothing of a program is claimed here; The writer of record: what it has laid; numbers; The writer of record: numbers -/
import Derived.Test.YtocekhckmpkbmaaGreatQ04
import Derived.Test.YtocekhckmpkbmaaGreatQ12
import Derived.Test.YtocekhckmpkbmaaGreatQ01
namespace Go.Proofs.YtocekhckmpkbmaaGreat
open Go.RowKit
section
variable {P : Program} {ops : Array Oper} {Q : Exit → Act → World → Prop} {md : Region.Mode} {S : World → Prop}
/-- an operation that gives one value in every world that meets S, and leaves S -/
def Fix (P : Program) (ops : Array Oper) (S : World → Prop) (o : Oper) (v : Value) (a : Act) : Prop :=
 (Region.wanted o (yielded ops a.tmps) = true ∧ ((∀ w, S w → (execOp a.eval o).run P w = .ok (.value v) w) ∨
   ∃ f args, (∀ w, (execOp a.eval o).run P w = .ok (.enter f args) w) ∧ ∀ w, S w → Calls P f args w (fun e w' => e = .returned v ∧ S w'))) ∨
 (Region.wanted o (yielded ops a.tmps) = false ∧ v = undef)
theorem Fix.of_same {o : Oper} {v : Value} {a a' : Act} (hy : Fix P ops S o v a) (he : execOp a'.eval o = execOp a.eval o)
 (hw : Region.wanted o (yielded ops a'.tmps) = Region.wanted o (yielded ops a.tmps)) : Fix P ops S o v a' := by
 unfold Fix at *
 rw [he, hw]
 exact hy
theorem Fix.wpOp {i : Nat} {o : Oper} {v : Value} {a : Act} (hi : ops[i]? = some o) (hy : Fix P ops S o v a)
 {K : Act → World → Prop} {w : World} (hS : S w) (h : ∀ w', S w' → K (a.put o.dst v) w') : wpOp P ops Q i K a w := by
 unfold Go.wpOp
 simp only [hi]
 rcases hy with ⟨hw, hv | ⟨f, args, hr, hc⟩⟩ | ⟨hw, rfl⟩
 · simp only [hw, if_true, Oper.wp, hv w hS, Oper.upon]; exact .inl (h w hS)
 · simp only [hw, if_true]
   refine .inl ?_
   unfold Oper.wp
   rw [hr, Oper.upon_enter]
   refine (hc w hS).mono fun e w' he => ?_
   obtain ⟨rfl, hS'⟩ := he
   exact h w' hS'
 · simp only [hw, Bool.false_eq_true, if_false]; exact h w hS
def wpF (P : Program) (md : Region.Mode) (ops : Array Oper) (Q : Exit → Act → World → Prop) (S : World → Prop) : Nat → Array Bool → Act → Prop
 | 0, listed, a => Region.ready md ops listed = [] ∧ ∀ w, S w → Q .normal a w
 | n + 1, listed, a => (Region.ready md ops listed = [] → ∀ w, S w → Q .normal a w) ∧
   ∀ i ∈ Region.ready md ops listed, ∃ oi v, ops[i]? = some oi ∧ Fix P ops S oi v a ∧ wpF P md ops Q S n (listed.setIfInBounds i true) (a.put oi.dst v)
theorem wpF.held : ∀ (n : Nat) (listed : Array Bool) (a : Act), wpF P md ops Q S n listed a → ∀ w, S w → wpAnyH P md ops Q S n listed a w
 | 0, _, _, h, w, hS => ⟨h.1, h.2 w hS⟩
 | n + 1, _, _, h, w, hS => ⟨fun h0 => h.1 h0 w hS, fun i hi => by
   obtain ⟨oi, v, ho, hf, h'⟩ := h.2 i hi
   exact hf.wpOp ho hS fun w' hS' => ⟨hS', wpF.held n _ _ h' w' hS'⟩⟩
theorem wpF_first {i : Nat} {oi : Oper} {v : Value} (hi : ops[i]? = some oi) (hsel : ∀ (j : Nat) (o : Oper) cs b, ops[j]? = some o → o.op ≠ .select cs b) :
 ∀ (n : Nat) (listed : Array Bool) (a : Act),
  (∀ j oj, ops[j]? = some oj → j ≠ i → listed.getD j true = false → (∀ e ∈ oj.after, Region.binds md e = true → e.on ≠ i) → oi.apart ops oj = true) →
  i ∈ Region.ready md ops listed → Fix P ops S oi v a →
  wpF P md ops Q S n (listed.setIfInBounds i true) (a.put oi.dst v) → wpF P md ops Q S (n + 1) listed a := by
 intro n
 induction n with
 | zero =>
   intro listed a _ hr hy H
   refine ⟨fun h => (by rw [h] at hr; cases hr), fun j hj => ?_⟩
   by_cases hji : j = i
   · subst hji; exact ⟨oi, v, hi, hy, H⟩
   · have := ready_mono hj hji
     rw [H.1] at this
     cases this
 | succ n ih =>
   intro listed a hfree hr hy H
   refine ⟨fun h => (by rw [h] at hr; cases hr), fun j hj => ?_⟩
   by_cases hji : j = i
   · subst hji; exact ⟨oi, v, hi, hy, H⟩
   · obtain ⟨oj, u, hoj, hfj, H'⟩ := H.2 j (ready_mono hj hji)
     obtain ⟨hjun, oj', hoj', hall⟩ := mem_ready.1 hj
     rw [hoj] at hoj'
     cases hoj'
     have hnot : ∀ e ∈ oj.after, Region.binds md e = true → e.on ≠ i := fun e he hb heq => by
      have h1 := hall e he hb
      have h0 := (mem_ready.1 hr).1
      rw [heq] at h1
      rcases Nat.lt_or_ge i listed.size with h' | h'
      · simp [h'] at h0 h1; rw [h0] at h1; cases h1
      · simp [Array.getElem?_eq_none h'] at h1
     obtain ⟨h1, h2, h3⟩ := Oper.apart_spec (hfree j oj hoj hji hjun hnot)
     have hsi : ∀ cs b, oi.op ≠ .select cs b := fun cs b => hsel i oi cs b hi
     have hsj : ∀ cs b, oj.op ≠ .select cs b := fun cs b => hsel j oj cs b hoj
     have hfree' : ∀ k ok, ops[k]? = some ok → k ≠ i → (listed.setIfInBounds j true).getD k true = false →
      (∀ e ∈ ok.after, Region.binds md e = true → e.on ≠ i) → oi.apart ops ok = true := fun k ok hk hki hun hno => by
      refine hfree k ok hk hki ?_ hno
      by_cases hjk : j = k
      · subst hjk; exact hjun
      · rw [getD_set_ne true hjk] at hun; exact hun
     refine ⟨oj, u, hoj, hfj.of_same (execOp_put oj hsj a oi.dst v h1).symm (wanted_put oj a oi.dst v h1).symm, ?_⟩
     refine ih (listed.setIfInBounds j true) (a.put oj.dst u) hfree' (ready_mono hr (Ne.symm hji)) (hy.of_same (execOp_put oi hsi a oj.dst u h3) (wanted_put oi a oj.dst u h3)) ?_
     rw [Array.setIfInBounds_comm _ _ hji, ← Act.put_comm a v u h2]
     exact H'
theorem fx {i : Nat} {o : Oper} {dst : Option Tmp} (hd : o.dst = dst) {v : Value} {n : Nat} {listed : Array Bool} {a : Act} (hi : ops[i]? = some o) (hy : Fix P ops S o v a) (h : wpF P md ops Q S n (listed.setIfInBounds i true) (a.put dst v))
 (hs : Region.noSelect ops = true := by kernel_rfl) (hf : Region.free md ops listed i = true := by kernel_rfl) (hr : (Region.ready md ops listed).contains i = true := by kernel_rfl) : wpF P md ops Q S (n + 1) listed a := by
 subst hd
 exact wpF_first hi (Region.noSelect_spec hs) n listed a (Region.free_spec hi hf) (by simpa using hr) hy h
theorem fx_done {listed : Array Bool} {a : Act} (h : ∀ w, S w → Q .normal a w) (hr : Region.ready md ops listed = [] := by kernel_rfl) : ∀ n, wpF P md ops Q S n listed a
 | 0 => ⟨hr, h⟩
 | _ + 1 => ⟨fun _ => h, by rw [hr]; simp⟩
end
section
variable {P : Program} {ops : Array Oper} {S : World → Prop} {a : Act} {o : Oper}
theorem fx_read {v : Value} (hy : ∀ w, S w → (execOp a.eval o).run P w = .ok (.value v) w) (hw : Region.wanted o (yielded ops a.tmps) = true := by exact rfl) : Fix P ops S o v a := .inl ⟨hw, .inl hy⟩
theorem fx_off (hw : Region.wanted o (yielded ops a.tmps) = false := by exact rfl) : Fix P ops S o undef a := .inr ⟨hw, rfl⟩
theorem fx_load (ty : TypeId) (x : Operand) {ad : Addr} {v : Value} (h : ∀ w, S w → (loadVar ty ad).run P w = .ok v w) (ho : o.op = .load ty x := by exact rfl) (hx : a.eval x = .pointer (some ad) := by exact rfl) (hw : Region.wanted o (yielded ops a.tmps) = true := by exact rfl) : Fix P ops S o v a :=
 .inl ⟨hw, .inl fun w hS => by
  unfold execOp
  simp only [ho, hx, Instr.loadAt, Instr.sureAddr, Sem.run_bind, Sem.run_pure, Result.andThen_ok, h w hS]⟩
theorem fx_call {f : FuncId} {args : Array Value} {v : Value} (hc : ∀ w, S w → Calls P f args w (fun e w' => e = .returned v ∧ S w')) (hrun : ∀ w, (execOp a.eval o).run P w = .ok (.enter f args) w := by intro w; go_simp) (hw : Region.wanted o (yielded ops a.tmps) = true := by exact rfl) : Fix P ops S o v a :=
 .inl ⟨hw, .inr ⟨f, args, hrun, hc⟩⟩
end
section
variable {P : Program} {ops : Array Oper} {Q : Exit → Act → World → Prop} {md : Region.Mode} {S : World → Prop}
/-- held_take, what a reader need not see asked last -/
theorem held_tk {i : Nat} {o : Oper} {dst : Option Tmp} (hd : o.dst = dst) {v : Value} {fuel : Nat} {listed : Array Bool} {a : Act} {w : World} (hi : ops[i]? = some o) (hy : YieldsIf P ops S o v a) (hS : S w)
 (h : wpAnyH P md ops Q S fuel (listed.setIfInBounds i true) (a.put dst v) w)
 (hs : Region.noSelect ops = true := by kernel_rfl) (hf : Region.free md ops listed i = true := by kernel_rfl) (hr : (Region.ready md ops listed).contains i = true := by kernel_rfl)
 (hQ : ∀ c a w, Q (.panic c) (a.put o.dst v) w → Q (.panic c) a w := by exact fun _ _ _ h => h) : wpAnyH P md ops Q S (fuel + 1) listed a w :=
 held_take hd hi hs hf hr hQ hy hS h
end
section
variable {P : Program} {ops : Array Oper} {Q : Exit → Act → World → Prop} {md : Region.Mode} {S : World → Prop} {o : Oper} {fuel : Nat} {listed : Array Bool} {a : Act} {w : World}
theorem tg (i : Nat) (d : Tmp) (v : Value) (hS : S w) (h : wpAnyH P md ops Q S fuel (listed.setIfInBounds i true) (a.put (some d) v) w)
 (hi : ops[i]? = some o := by exact rfl) (hd : o.dst = some d := by exact rfl) (hw : Region.wanted o (yielded ops a.tmps) = true := by exact rfl) (hy : ∀ u, S u → (execOp a.eval o).run P u = .ok (.value v) u := by intro u hu; go_simp)
 (hs : Region.noSelect ops = true := by kernel_rfl) (hf : Region.free md ops listed i = true := by kernel_rfl) (hr : (Region.ready md ops listed).contains i = true := by kernel_rfl)
 (hQ : ∀ c a w, Q (.panic c) (a.put o.dst v) w → Q (.panic c) a w := by exact fun _ _ _ h => h) : wpAnyH P md ops Q S (fuel + 1) listed a w :=
 held_tk hd hi (.inl ⟨hw, hy⟩) hS h hs hf hr hQ
theorem tu (i : Nat) (d : Tmp) (hS : S w) (h : wpAnyH P md ops Q S fuel (listed.setIfInBounds i true) (a.put (some d) undef) w)
 (hi : ops[i]? = some o := by exact rfl) (hd : o.dst = some d := by exact rfl) (hw : Region.wanted o (yielded ops a.tmps) = false := by exact rfl)
 (hs : Region.noSelect ops = true := by kernel_rfl) (hf : Region.free md ops listed i = true := by kernel_rfl) (hr : (Region.ready md ops listed).contains i = true := by kernel_rfl)
 (hQ : ∀ c a w, Q (.panic c) (a.put o.dst undef) w → Q (.panic c) a w := by exact fun _ _ _ h => h) : wpAnyH P md ops Q S (fuel + 1) listed a w :=
 held_tk hd hi (.inr ⟨hw, rfl⟩) hS h hs hf hr hQ
end
end Go.Proofs.YtocekhckmpkbmaaGreat
namespace Go.Proofs.YtocekhckmpkbmaaGreat
open Go.RowKit
section
variable {P : Program} {ops : Array Oper} {Q : Exit → Act → World → Prop} {md : Region.Mode} {s : Nat} {X : World → Prop}
/-- whatever order is picked from here on; X holds behind each operation as long as the store has not come up -/
def wpAnyX (P : Program) (md : Region.Mode) (ops : Array Oper) (Q : Exit → Act → World → Prop) (s : Nat) (X : World → Prop) : Nat → Array Bool → Act → World → Prop
 | 0, l, a, w => Region.ready md ops l = [] ∧ Q .normal a w
 | k + 1, l, a, w => (Region.ready md ops l = [] → Q .normal a w) ∧ ∀ i ∈ Region.ready md ops l, wpOp P ops Q i (fun a' w' => ((l.setIfInBounds i true).getD s true = false → X w') ∧ wpAnyX P md ops Q s X k (l.setIfInBounds i true) a' w') a w
theorem any_of_x : ∀ {k : Nat} {l : Array Bool} {a : Act} {w : World}, wpAnyX P md ops Q s X k l a w → wpAny P md ops Q k l a w
 | 0, _, _, _, h => h
 | _ + 1, _, _, _, h => ⟨h.1, fun i hi => wpOp_mono (fun _ _ h' => any_of_x h'.2) (h.2 i hi)⟩
theorem wp_region_x {id : Nat} {a : Act} {w : World} (hm : P.follows .mixedOrders = true) (s : Nat) (X : World → Prop) (h : wpAnyX P .any ops Q s X ops.size (Array.replicate ops.size false) a { w with drawn := w.drawn + 1 }) : (Code.region id ops true).wp P Q a w :=
 wp_region_any hm (any_of_x h)
/-- number s waits for number i -/
def edgeB (md : Region.Mode) (ops : Array Oper) (s i : Nat) : Bool := match ops[s]? with
 | some o => o.after.any (fun e => Region.binds md e && e.on == i)
 | none => false
theorem edge_not {i : Nat} {l : Array Bool} (h : edgeB md ops s i = true) (hi : i ∈ Region.ready md ops l) : s ∉ Region.ready md ops l := fun hs => by
 obtain ⟨_, os, hos, hall⟩ := mem_ready.1 hs
 unfold edgeB at h
 rw [hos] at h
 simp only at h
 obtain ⟨e, he, hb⟩ := Array.any_eq_true'.1 h
 simp only [Bool.and_eq_true, beq_iff_eq] at hb
 have h1 := hall e he hb.1
 rw [hb.2] at h1
 have h0 := (mem_ready.1 hi).1
 rcases Nat.lt_or_ge i l.size with h' | h'
 · simp [h'] at h0 h1; rw [h0] at h1; cases h1
 · simp [Array.getElem?_eq_none h'] at h1
theorem x_first {i : Nat} {oi : Oper} {v : Value} (hi : ops[i]? = some oi) (hsel : ∀ (j : Nat) (o : Oper) cs b, ops[j]? = some o → o.op ≠ .select cs b) (hQ : ∀ c a w, Q (.panic c) (a.put oi.dst v) w → Q (.panic c) a w) (hes : edgeB md ops s i = true) (his : i ≠ s) :
 ∀ (k : Nat) (l : Array Bool) (a : Act) (w : World),
  (∀ j oj, ops[j]? = some oj → j ≠ i → l.getD j true = false → (∀ e ∈ oj.after, Region.binds md e = true → e.on ≠ i) → oi.apart ops oj = true) →
  i ∈ Region.ready md ops l → YieldsIf P ops X oi v a → l.getD s true = false → X w →
  wpAnyX P md ops Q s X k (l.setIfInBounds i true) (a.put oi.dst v) w → wpAnyX P md ops Q s X (k + 1) l a w := by
 intro k
 induction k with
 | zero =>
   intro l a w _ hr hy _ hX H
   refine ⟨fun h => (by rw [h] at hr; cases hr), fun j hj => ?_⟩
   by_cases hji : j = i
   · subst hji; exact hy.wpOp hi hX ⟨fun _ => hX, H⟩
   · have := ready_mono hj hji
     rw [H.1] at this
     cases this
 | succ k ih =>
   intro l a w hfree hr hy hls hX H
   refine ⟨fun h => (by rw [h] at hr; cases hr), fun j hj => ?_⟩
   by_cases hji : j = i
   · subst hji; exact hy.wpOp hi hX ⟨fun _ => hX, H⟩
   · have hjs : j ≠ s := fun e => edge_not hes hr (by rw [← e]; exact hj)
     have h1 := H.2 j (ready_mono hj hji)
     obtain ⟨hjun, oj, hoj, hall⟩ := mem_ready.1 hj
     have hnot : ∀ e ∈ oj.after, Region.binds md e = true → e.on ≠ i := fun e he hb heq => by
      have h1 := hall e he hb
      have h0 := (mem_ready.1 hr).1
      rw [heq] at h1
      rcases Nat.lt_or_ge i l.size with h' | h'
      · simp [h'] at h0 h1; rw [h0] at h1; cases h1
      · simp [Array.getElem?_eq_none h'] at h1
     have h2 := wpOp_putIf hoj (hfree j oj hoj hji hjun hnot) (fun cs b => hsel i oi cs b hi) (fun cs b => hsel j oj cs b hoj) hQ hy h1
     have hfree' : ∀ k ok, ops[k]? = some ok → k ≠ i → (l.setIfInBounds j true).getD k true = false → (∀ e ∈ ok.after, Region.binds md e = true → e.on ≠ i) → oi.apart ops ok = true := fun k ok hk hki hun hno => by
      refine hfree k ok hk hki ?_ hno
      by_cases hjk : j = k
      · subst hjk; exact hjun
      · rw [getD_set_ne true hjk] at hun; exact hun
     have hlj : (l.setIfInBounds j true).getD s true = false := by rw [getD_set_ne true hjs]; exact hls
     have hlij : ((l.setIfInBounds i true).setIfInBounds j true).getD s true = false := by rw [getD_set_ne true hjs, getD_set_ne true his]; exact hls
     refine wpOp_mono (fun a' w' h3 => ⟨fun _ => h3.2.1 hlij, ih (l.setIfInBounds j true) a' w' hfree' (ready_mono hr (Ne.symm hji)) h3.1 hlj (h3.2.1 hlij) ?_⟩) h2
     rw [Array.setIfInBounds_comm _ _ hji]
     exact h3.2.2
theorem x_take {i : Nat} {o : Oper} {dst : Option Tmp} (hd : o.dst = dst) {v : Value} {k : Nat} {l : Array Bool} {a : Act} {w : World} (hi : ops[i]? = some o) (hs : Region.noSelect ops = true) (hf : Region.free md ops l i = true) (hr : (Region.ready md ops l).contains i = true)
 (hes : (edgeB md ops s i && !(i == s)) = true) (hls : l.getD s true = false) (hQ : ∀ c a w, Q (.panic c) (a.put o.dst v) w → Q (.panic c) a w) (hy : YieldsIf P ops X o v a) (hX : X w)
 (h : wpAnyX P md ops Q s X k (l.setIfInBounds i true) (a.put dst v) w) : wpAnyX P md ops Q s X (k + 1) l a w := by
 subst hd
 simp only [Bool.and_eq_true, Bool.not_eq_true', beq_eq_false_iff_ne] at hes
 exact x_first hi (Region.noSelect_spec hs) hQ hes.1 hes.2 k l a w (Region.free_spec hi hf) (by simpa using hr) hy hls hX h
theorem x_purel {i : Nat} {oi : Oper} {v : Value} (hi : ops[i]? = some oi) (hsel : ∀ (j : Nat) (o : Oper) cs b, ops[j]? = some o → o.op ≠ .select cs b) (hQ : ∀ c a w, Q (.panic c) (a.put oi.dst v) w → Q (.panic c) a w) (his : i ≠ s) :
 ∀ (k : Nat) (l : Array Bool) (a : Act) (w : World),
  (∀ j oj, ops[j]? = some oj → j ≠ i → l.getD j true = false → (∀ e ∈ oj.after, Region.binds md e = true → e.on ≠ i) → oi.apart ops oj = true) →
  i ∈ Region.ready md ops l → YieldsIf P ops (fun _ => True) oi v a → (l.getD s true = false → X w) →
  wpAnyX P md ops Q s X k (l.setIfInBounds i true) (a.put oi.dst v) w → wpAnyX P md ops Q s X (k + 1) l a w := by
 intro k
 induction k with
 | zero =>
   intro l a w _ hr hy hX H
   refine ⟨fun h => (by rw [h] at hr; cases hr), fun j hj => ?_⟩
   by_cases hji : j = i
   · subst hji; exact hy.wpOp hi trivial ⟨fun h => hX (by rwa [getD_set_ne true his] at h), H⟩
   · have := ready_mono hj hji
     rw [H.1] at this
     cases this
 | succ k ih =>
   intro l a w hfree hr hy hX H
   refine ⟨fun h => (by rw [h] at hr; cases hr), fun j hj => ?_⟩
   by_cases hji : j = i
   · subst hji; exact hy.wpOp hi trivial ⟨fun h => hX (by rwa [getD_set_ne true his] at h), H⟩
   · have h1 := H.2 j (ready_mono hj hji)
     obtain ⟨hjun, oj, hoj, hall⟩ := mem_ready.1 hj
     have hnot : ∀ e ∈ oj.after, Region.binds md e = true → e.on ≠ i := fun e he hb heq => by
      have h1 := hall e he hb
      have h0 := (mem_ready.1 hr).1
      rw [heq] at h1
      rcases Nat.lt_or_ge i l.size with h' | h'
      · simp [h'] at h0 h1; rw [h0] at h1; cases h1
      · simp [Array.getElem?_eq_none h'] at h1
     have h2 := wpOp_putIf hoj (hfree j oj hoj hji hjun hnot) (fun cs b => hsel i oi cs b hi) (fun cs b => hsel j oj cs b hoj) hQ hy h1
     have hfree' : ∀ k ok, ops[k]? = some ok → k ≠ i → (l.setIfInBounds j true).getD k true = false → (∀ e ∈ ok.after, Region.binds md e = true → e.on ≠ i) → oi.apart ops ok = true := fun k ok hk hki hun hno => by
      refine hfree k ok hk hki ?_ hno
      by_cases hjk : j = k
      · subst hjk; exact hjun
      · rw [getD_set_ne true hjk] at hun; exact hun
     have hcomm := Array.setIfInBounds_comm (xs := l) true true hji
     have hX2 : ∀ w', (((l.setIfInBounds i true).setIfInBounds j true).getD s true = false → X w') → (l.setIfInBounds j true).getD s true = false → X w' := fun w' h h2 => h (by rw [← Array.setIfInBounds_comm _ _ hji, getD_set_ne true his]; exact h2)
     refine wpOp_mono (fun a' w' h3 => ⟨hX2 w' h3.2.1, ih (l.setIfInBounds j true) a' w' hfree' (ready_mono hr (Ne.symm hji)) h3.1 (hX2 w' h3.2.1) ?_⟩) h2
     rw [Array.setIfInBounds_comm _ _ hji]
     exact h3.2.2
theorem x_pure {i : Nat} {o : Oper} {dst : Option Tmp} (hd : o.dst = dst) {v : Value} {k : Nat} {l : Array Bool} {a : Act} {w : World} (hi : ops[i]? = some o) (hs : Region.noSelect ops = true) (hf : Region.free md ops l i = true) (hr : (Region.ready md ops l).contains i = true)
 (his : (!(i == s)) = true) (hQ : ∀ c a w, Q (.panic c) (a.put o.dst v) w → Q (.panic c) a w) (hy : YieldsIf P ops (fun _ => True) o v a) (hX : l.getD s true = false → X w)
 (h : wpAnyX P md ops Q s X k (l.setIfInBounds i true) (a.put dst v) w) : wpAnyX P md ops Q s X (k + 1) l a w := by
 subst hd
 simp only [Bool.not_eq_true', beq_eq_false_iff_ne] at his
 exact x_purel hi (Region.noSelect_spec hs) hQ his k l a w (Region.free_spec hi hf) (by simpa using hr) hy hX h
theorem x_all {rs : List Nat} {k : Nat} {l : Array Bool} {a : Act} {w : World} (hr : Region.ready md ops l = rs) (hne : rs ≠ [])
 (h : ∀ i ∈ rs, wpOp P ops Q i (fun a' w' => ((l.setIfInBounds i true).getD s true = false → X w') ∧ wpAnyX P md ops Q s X k (l.setIfInBounds i true) a' w') a w) : wpAnyX P md ops Q s X (k + 1) l a w :=
 ⟨fun h0 => absurd (hr ▸ h0) hne, hr ▸ h⟩
theorem x_done {k : Nat} {l : Array Bool} {a : Act} {w : World} (hr : Region.ready md ops l = []) (h : Q .normal a w) : wpAnyX P md ops Q s X k l a w := by
 cases k with
 | zero => exact ⟨hr, h⟩
 | succ k => exact ⟨fun _ => h, by rw [hr]; simp⟩
theorem x_one {i : Nat} {o : Oper} {k : Nat} {l : Array Bool} {a : Act} {w : World} (hi : ops[i]? = some o) (hr : Region.ready md ops l = [i]) (hw : Region.wanted o (yielded ops a.tmps) = true)
 (h : o.wp P a w (fun a' w' => ((l.setIfInBounds i true).getD s true = false → X w') ∧ wpAnyX P md ops Q s X k (l.setIfInBounds i true) a' w') Q) : wpAnyX P md ops Q s X (k + 1) l a w := by
 refine x_all hr (by simp) (fun j hj => ?_)
 rw [List.mem_singleton.1 hj]
 unfold wpOp
 simp only [hi, hw, if_true]
 exact .inl h
theorem x_value {i : Nat} {o : Oper} {dst : Option Tmp} (hd : o.dst = dst) {k : Nat} {l : Array Bool} {a : Act} {w w' : World} {v : Value} (hi : ops[i]? = some o) (hr : Region.ready md ops l = [i]) (hw : Region.wanted o (yielded ops a.tmps) = true)
 (hrun : (execOp a.eval o).run P w = .ok (.value v) w') (hX : (l.setIfInBounds i true).getD s true = false → X w') (h : wpAnyX P md ops Q s X k (l.setIfInBounds i true) (a.put dst v) w') : wpAnyX P md ops Q s X (k + 1) l a w := by
 subst hd
 refine x_one hi hr hw ?_
 unfold Oper.wp
 rw [hrun, Oper.upon_value]
 exact ⟨hX, h⟩
theorem x_skip {i : Nat} {o : Oper} {dst : Option Tmp} (hd : o.dst = dst) {k : Nat} {l : Array Bool} {a : Act} {w w' : World} (hi : ops[i]? = some o) (hr : Region.ready md ops l = [i]) (hw : Region.wanted o (yielded ops a.tmps) = true)
 (hrun : (execOp a.eval o).run P w = .ok .skip w') (hX : (l.setIfInBounds i true).getD s true = false → X w') (h : wpAnyX P md ops Q s X k (l.setIfInBounds i true) (a.put dst undef) w') : wpAnyX P md ops Q s X (k + 1) l a w := by
 subst hd
 refine x_one hi hr hw ?_
 unfold Oper.wp
 rw [hrun, Oper.upon_skip]
 exact ⟨hX, h⟩
/-- the operation o ends in a value that meets R -/
def EndsV (P : Program) (o : Oper) (a : Act) (w : World) (R : Value → World → Prop) : Prop := ∃ v w', (execOp a.eval o).run P w = .ok (.value v) w' ∧ R v w'
theorem EndsV.op {i : Nat} {o : Oper} {a : Act} {w : World} {K : Act → World → Prop} {R : Value → World → Prop} (hi : ops[i]? = some o) (hw : Region.wanted o (yielded ops a.tmps) = true) (h : EndsV P o a w R) (hR : ∀ v w', R v w' → K (a.put o.dst v) w') : wpOp P ops Q i K a w := by
 unfold wpOp
 simp only [hi, hw, if_true]
 refine .inl ?_
 unfold Oper.wp
 obtain ⟨v, w', hrun, hz⟩ := h
 rw [hrun, Oper.upon_value]
 exact hR v w' hz
/-- two operations that give a value, either first -/
theorem x_two {i j : Nat} {oi oj : Oper} {di dj : Option Tmp} (hdi : oi.dst = di) (hdj : oj.dst = dj) {k : Nat} {l : Array Bool} {a : Act} {w : World} (hi : ops[i]? = some oi) (hj : ops[j]? = some oj) (hr : Region.ready md ops l = [i, j]) (hwi : Region.wanted oi (yielded ops a.tmps) = true) (hwj : Region.wanted oj (yielded ops a.tmps) = true)
 (h1 : EndsV P oi a w (fun v w' => X w' ∧ wpAnyX P md ops Q s X k (l.setIfInBounds i true) (a.put di v) w')) (h2 : EndsV P oj a w (fun v w' => X w' ∧ wpAnyX P md ops Q s X k (l.setIfInBounds j true) (a.put dj v) w')) : wpAnyX P md ops Q s X (k + 1) l a w := by
 subst hdi hdj
 refine x_all hr (by simp) (fun q hq => ?_)
 rcases List.mem_cons.1 hq with rfl | hq
 · exact h1.op hi hwi (fun v w' h => ⟨fun _ => h.1, h.2⟩)
 · rw [List.mem_singleton.1 hq]
   exact h2.op hj hwj (fun v w' h => ⟨fun _ => h.1, h.2⟩)
end
end Go.Proofs.YtocekhckmpkbmaaGreat
namespace Go.Proofs.YtocekhckmpkbmaaGreat
open Go.RowKit
/-- The writer at block g has laid the bytes l; they stand in block o, if there is one. -/
def Wr (w : World) (g : Nat) (o : Option Nat) (l : List UInt8) : Prop :=
 ∃ q c, RowV 109 w g [.slice q l.length c] ∧ Own w (g + 1) (.slice q l.length c) l ∧ q.map (·.block) = o
/-- worlds between which just the block g, the block o and new ones changed; the bytes stand in o', which is o or new -/
structure WStep (w w' : World) (g : Nat) (o o' : Option Nat) : Prop where
 os : w'.os = w.os
 tape : w'.tape = w.tape
 output : w'.output = w.output
 size : w.heap.size ≤ w'.heap.size
 block : ∀ k, k < w.heap.size → k ≠ g → o ≠ some k → w'.heap[k]? = w.heap[k]?
 at_ : o' = o ∨ ∃ k, o' = some k ∧ w.heap.size ≤ k
theorem WStep.refl (w : World) (g : Nat) (o : Option Nat) : WStep w w g o o := ⟨rfl, rfl, rfl, Nat.le_refl _, fun _ _ _ _ => rfl, .inl rfl⟩
theorem WStep.trans {a b c : World} {g : Nat} {o o1 o2 : Option Nat} (h : WStep a b g o o1) (k : WStep b c g o1 o2) : WStep a c g o o2 := by
 refine ⟨k.os.trans h.os, k.tape.trans h.tape, k.output.trans h.output, Nat.le_trans h.size k.size, fun j hj hg ho => ?_, ?_⟩
 · refine (k.block j (Nat.lt_of_lt_of_le hj h.size) hg ?_).trans (h.block j hj hg ho)
   rcases h.at_ with e | ⟨x, e, hx⟩
   · rw [e]; exact ho
   · rw [e]; intro e2; cases e2; omega
 · rcases k.at_ with e | ⟨x, e, hx⟩
   · rw [e]; exact h.at_
   · exact .inr ⟨x, e, Nat.le_trans h.size hx⟩
theorem WStep.of_below {w w' : World} {g : Nat} {o : Option Nat} (h : Below w.heap.size w w') : WStep w w' g o o :=
 ⟨h.os, h.tape, h.output, h.size, fun k hk _ _ => h.block k hk, .inl rfl⟩
theorem WStep.below {B : Nat} {w w' : World} {g : Nat} {o o' : Option Nat} (h : WStep w w' g o o') (hB : B ≤ w.heap.size) (hg : B ≤ g) (ho : ∀ k, o = some k → B ≤ k) : Below B w w' :=
 ⟨h.os, h.tape, h.output, h.size, fun k hk => h.block k (by omega) (by omega) (fun e => by have := ho k e; omega)⟩
theorem WStep.row {T : TypeId} {w w' : World} {g b : Nat} {o o' : Option Nat} {cs : List Value} (h : WStep w w' g o o') (hr : RowV T w b cs) (hg : b ≠ g) (ho : o ≠ some b) : RowV T w' b cs := hr.block (h.block b hr.lt hg ho)
theorem Boxed.wstep {w w' : World} {g b : Nat} {o o' : Option Nat} {vs : List Value} (h : Boxed w b vs) (k : WStep w w' g o o') (hb : b < w.heap.size) (hg : b ≠ g) (ho : o ≠ some b) : Boxed w' b vs := fun j x hj => by
 have e : ((⟨b, 0, none⟩ : Addr).add j).block = b := by unfold Addr.add; split <;> rfl
 rw [World.cell?_of_block (w := w) (by rw [e]; exact k.block b hb hg ho)]
 exact h j x hj
theorem Wr.far {w : World} {g : Nat} {o : Option Nat} {l : List UInt8} (h : Wr w g o l) : ∀ k, o = some k → g < k ∧ k < w.heap.size := by
 obtain ⟨q, c, hr, ho, rfl⟩ := h
 intro k hk
 cases q with
 | none => cases hk
 | some a =>
   have hk : a.block = k := by simpa using hk
   have := ho.holds.2.2 a rfl; omega
theorem Wr.lt {w : World} {g : Nat} {o : Option Nat} {l : List UInt8} (h : Wr w g o l) : g < w.heap.size := by
 obtain ⟨q, c, hr, _⟩ := h; exact hr.lt
theorem Wr.below {w w' : World} {g : Nat} {o : Option Nat} {l : List UInt8} (h : Wr w g o l) (hb : Below w.heap.size w w') : Wr w' g o l := by
 obtain ⟨q, c, hr, ho, e⟩ := h
 exact ⟨q, c, hr.below hb, ho.below hb, e⟩
theorem Wr.made {w w' : World} (h : w.alloc (.cells #[.slice none 0 0] 109) = w') : Wr w' w.heap.size none [] := by
 subst h
 exact ⟨none, 0, heap_alloc_new w _, ⟨rfl, .inl ⟨rfl, rfl⟩⟩, rfl⟩
theorem be_mod : ∀ (j k x : Nat), (be (j + k) x).drop j = be k x
 | 0, k, x => by rw [Nat.zero_add]; rfl
 | j + 1, k, x => by
   rw [show j + 1 + k = (j + k) + 1 by omega, be_cons, List.drop_succ_cons]
   exact be_mod j k x
theorem be_tail {k : Nat} (hk : k ≤ 8) (x : Nat) : (be 8 x).drop (8 - k) = be k x := by
 have h := be_mod (8 - k) k x
 rwa [show 8 - k + k = 8 by omega] at h
def encNums (k : Nat) (xs : List Int) : List UInt8 := xs.flatMap fun x => be k x.toNat
theorem encNums_step {xs : List Int} {k i : Nat} {x : Int} (h : xs[i]? = some x) : encNums k (xs.take (i + 1)) = encNums k (xs.take i) ++ be k x.toNat := by
 unfold encNums
 rw [List.take_add_one, h, List.flatMap_append]
 simp
theorem encNums_len (k : Nat) (xs : List Int) : (encNums k xs).length = k * xs.length := by
 induction xs with
 | nil => simp [encNums]
 | cons a r ih =>
   have e : encNums k (a :: r) = be k a.toNat ++ encNums k r := by simp [encNums]
   rw [e, List.length_append, length_be, ih, List.length_cons, Nat.mul_add]; omega
theorem slice_tail8 (p : Option Addr) (n c k : Nat) (hk : k ≤ n) (u : World) :
 (Instr.slice 36 (.slice p n c) (some (.int .i64 (k : Int))) none none).run Tryz.prog u = .ok (.slice (tl p c k) (n - k) (c - k)) u := by
 have h := run_slice_l (P := Tryz.prog) u 36 p n c (by kernel_rfl) .i64 (k : Int) (by omega) (by omega)
 rw [h, show (sizeOf (Tryz.prog.elem 36)).run Tryz.prog u = .ok 1 u by kernel_rfl]
 simp only [Result.andThen, sliced, Int.toNat_natCast, Nat.mul_one]
 rfl
/-- behind a void call on a writer -/
def WrPost (w : World) (g : Nat) (o : Option Nat) (l : List UInt8) (e : Ending) (w' : World) : Prop :=
 ∃ o', e = .returned (.tuple #[]) ∧ Wr w' g o' l ∧ WStep w w' g o o'
/-- bytes are laid behind those that a writer has -/
theorem wr_app {w w1 w2 : World} {g : Nat} {q q' : Option Addr} {c c' m : Nat} {l k : List UInt8} (hr : RowV 109 w g [.slice q l.length c]) (ho : Own w (g + 1) (.slice q l.length c) l) (hm : k.length = m)
 (ho1 : Own w1 (g + 1) (.slice q' (l.length + m) c') (l ++ k)) (hg1 : w.grownBy w1 (blockOf q)) (hat : q'.map (·.block) = q.map (·.block) ∨ q'.map (·.block) = some w.heap.size)
 (h2 : w1.setCell ⟨g, 0, none⟩ (.slice q' (l.length + m) c') = w2) : Wr w2 g (q'.map (·.block)) (l ++ k) ∧ WStep w w2 g (q.map (·.block)) (q'.map (·.block)) := by
 have hfar : ∀ a, q = some a → g + 1 ≤ a.block ∧ a.block < w.heap.size := ho.holds.2.2
 have hfar1 : ∀ a, q' = some a → g + 1 ≤ a.block ∧ a.block < w1.heap.size := ho1.holds.2.2
 have hr1 : RowV 109 w1 g [.slice q l.length c] := hr.block (hg1.block g hr.lt (fun e => by
  cases q with
  | none => cases e
  | some a => have := hfar a rfl; simp [blockOf] at e; omega))
 have hr2 := hr1.set 0 (.slice q' (l.length + m) c')
 have hs := setCell_grown w1 g 0 (.slice q' (l.length + m) c')
 rw [h2] at hr2 hs
 have hlen : (l ++ k).length = l.length + m := by rw [List.length_append, hm]
 refine ⟨⟨q', c', by rw [hlen]; exact hr2, by rw [hlen]; exact ho1.kept (fun a ha => hs.block _ (hfar1 a ha).2 (fun e => by have := (hfar1 a ha).1; simp at e; omega)), rfl⟩, ⟨hs.os.trans hg1.os, hs.tape.trans hg1.tape, hs.output.trans hg1.output, Nat.le_trans hg1.size hs.size, fun j hj hjg hjo => ?_, ?_⟩⟩
 · refine (hs.block j (Nat.lt_of_lt_of_le hj hg1.size) (by simpa using hjg)).trans (hg1.block j hj (fun e => hjo (by rw [e]; rfl)))
 · rcases hat with e | e
   · exact .inl e
   · exact .inr ⟨_, e, Nat.le_refl _⟩
theorem run_append_bytes_at {w : World} {base : Nat} {q0 q : Option Addr} {n0 c0 m d : Nat} {l k : List UInt8} (ty : TypeId) (hown : Own w base (.slice q0 n0 c0) l) (hk : Lib.HoldsBytes w (.slice q m d) k) (hbig : n0 + m ≤ 1099511627776) (hbase : base ≤ w.heap.size) :
 ∃ q' c' w', (Builtin.append_ #[36, 36] ty #[.slice q0 n0 c0, .slice q m d]).run Tryz.prog w = .ok (.slice q' (n0 + m) c') w' ∧ Own w' base (.slice q' (n0 + m) c') (l ++ k) ∧ w.grownBy w' (blockOf q0) ∧ (q'.map (·.block) = q0.map (·.block) ∨ q'.map (·.block) = some w.heap.size) := by
 have e0 := holds_len hown.holds.1
 have em := holds_len hk
 obtain ⟨i0, hi, hz0, hz1, hz2⟩ := info_parts info5
 obtain ⟨q1, cap, he, h1, h2⟩ := hk
 cases he
 cases q with
 | none =>
   have hk0 := h1 rfl
   subst hk0
   simp only [List.length_nil, Nat.add_zero, List.append_nil]
   refine ⟨q0, c0, w, ?_, hown, ⟨rfl, rfl, rfl, Nat.le_refl _, fun _ _ _ => rfl⟩, .inl rfl⟩
   cases q0 with
   | none =>
     obtain ⟨_, ⟨he, h0⟩ | ⟨g, cap, cur, he, _⟩⟩ := hown
     · cases he
       simp [Builtin.append_, run_underlying Tryz.underlying36, sizeOf, typeInfo, hi, Builtin.lenOf, Builtin.firstCells]
     · cases he
   | some a =>
     obtain ⟨_, ⟨he, h0⟩ | ⟨g, cap, cur, he, hg, hh, hle, _⟩⟩ := hown
     · cases he
     · cases he
       have h := run_append_room_src (P := Tryz.prog) w 36 36 ty 5 i0 Tryz.underlying36 hi g 0 _ _ (.slice none 0 d) 0 [] (Src.ofNil w Tryz.underlying36 d) (by omega) (by intro j hj; simp at hj) (by intro j hj; simp at hj)
       simpa [World.setCells] using h
 | some a =>
   subst e0
   obtain ⟨v', w', hr, hown', hg, _, hat⟩ := run_append_own_at (P := Tryz.prog) w base 36 ty 5 i0 (.int .u8 0) 1 1 Tryz.underlying36 hi hz0 hz1 hz2 rfl (by decide) _ l.length (vals l) hown a k.length d (vals k)
    (by rw [length_vals, Nat.mul_one])
    (fun j u hj => by obtain ⟨x, hx, rfl⟩ := vals_get hj; exact h2 a rfl j x hx) (one_vals k) (by unfold maxLen; omega) (by omega) hbase
   have hown2 : Own w' base v' (l ++ k) := by
    unfold Own
    rw [List.length_append, vals_append]
    exact hown'
   obtain ⟨q', c', rfl⟩ := hown2.shape
   rw [List.length_append] at hr hown2
   exact ⟨q', c', w', hr, hown2, by cases q0 <;> exact hg, by cases q0 <;> cases q' <;> exact hat⟩
end Go.Proofs.YtocekhckmpkbmaaGreat
namespace Go.Proofs.YtocekhckmpkbmaaGreat
open Go.RowKit
theorem no_x {b : Bool} {X : Prop} (h : b = true) : b = false → X := fun e => by rw [h] at e; cases e
theorem run_append_op2 {P : Program} {o : Oper} {a : Act} {w w' : World} {s x : Operand} {t : TypeId} {v1 v2 v : Value} (ho : o.op = .call { callee := .builtin .append, args := #[s, x], argTypes := #[t, t] }) (hs : a.eval s = v1) (hx : a.eval x = v2)
 (h : (Builtin.append_ #[t, t] o.type #[v1, v2]).run P w = .ok v w') : (execOp a.eval o).run P w = .ok (.value v) w' := by
 unfold execOp
 simp only [ho, resolve, invoke, builtin, Sem.run_bind, Sem.run_pure, Result.andThen_ok, List.map_toArray, List.map_cons, List.map_nil, hs, hx, h]
section
variable {P : Program} {ops : Array Oper} {Q : Exit → Act → World → Prop} {md : Region.Mode} {s : Nat} {X : World → Prop}
theorem x_call {i : Nat} {o : Oper} {dst : Option Tmp} (hd : o.dst = dst) {k : Nat} {l : Array Bool} {a : Act} {w : World} {f : FuncId} {args : Array Value} {R : Ending → World → Prop} (hi : ops[i]? = some o) (hr : Region.ready md ops l = [i]) (hw : Region.wanted o (yielded ops a.tmps) = true)
 (hrun : (execOp a.eval o).run P w = .ok (.enter f args) w) (hc : Calls P f args w R) (h : ∀ e w', R e w' → ∃ v, e = .returned v ∧ ((l.setIfInBounds i true).getD s true = false → X w') ∧ wpAnyX P md ops Q s X k (l.setIfInBounds i true) (a.put dst v) w') : wpAnyX P md ops Q s X (k + 1) l a w := by
 subst hd
 refine x_one hi hr hw ?_
 unfold Oper.wp
 rw [hrun, Oper.upon_enter]
 refine hc.mono fun e w' he => ?_
 obtain ⟨v, rfl, h1, h2⟩ := h e w' he
 exact ⟨h1, h2⟩
end
theorem put64n (x : Int) (u : World) (hx : 0 ≤ x) : Calls Tryz.prog 93 #[.slice none 0 0, .int .u64 x] u (fun e w' => e = .returned (.slice (some ⟨u.heap.size, 0, none⟩) 8 8) ∧ Row 5 w' u.heap.size (be 8 x.toNat) ∧ Below u.heap.size u w') :=
 put64 none 0 0 x [] u ⟨none, 0, rfl, fun _ => rfl, fun a ha => by cases ha⟩ (by decide) hx
set_option maxRecDepth 100000 in
set_option maxHeartbeats 4000000 in
theorem numbers_any (g : Nat) (o : Option Nat) (l : List UInt8) (k m n b : Nat) (hk : k + m = 8) (h1k : 1 ≤ k) (xs : List Int) (hn : xs.length = n) (w : World) (h : Wr w g o l) (hx : RowV 24 w b (xs.map (Value.int .u64))) (hbg : b ≠ g) (hbo : o ≠ some b) (hok : ∀ x ∈ xs, U64 x) (hbig : l.length + 8 * n ≤ 549755813888) :
 Calls Tryz.prog 68 #[.pointer (some ⟨g, 0, none⟩), .int .i64 k, .slice (some ⟨b, 0, none⟩) n n] w (WrPost w g o (l ++ encNums k xs)) := by
 have hx := Lib.hid hx
 have hn := Lib.hid hn
 have hok := Lib.hid hok
 have h0 : Hid (∃ o1, Wr w g o1 (l ++ encNums k (xs.take 0)) ∧ WStep w w g o o1) := ⟨o, by rw [show encNums k (xs.take 0) = [] from rfl, List.append_nil]; exact h, WStep.refl w g o⟩
 have hsub : IntKind.i64.wrap (8 - (k : Int)) = (m : Int) := by rw [show (8 - (k : Int)) = (m : Int) by omega]; exact wrap_small m (by omega) (by omega)
 clear h
 go_enter Tryz.func68, Tryz.ntmps68
 go_wp2
 go_loopw [10] (fun v wr => ∃ j : Nat, j ≤ n ∧ v = .int .i64 j ∧ Hid (∃ o1, Wr wr g o1 (l ++ encNums k (xs.take j)) ∧ WStep w wr g o o1)) (fun v _ => n - (RowKit.intOf v).toNat)
 case atStart => exact ⟨0, Nat.zero_le _, rfl, h0⟩
 case round =>
  obtain ⟨j, hj, rfl, hst⟩ := hrel
  clear h0
  by_cases hlt : j < n
  · obtain ⟨x, hxj⟩ : ∃ x, xs[j]? = some x := ⟨_, List.getElem?_eq_getElem (by have := hn.out; omega)⟩
    have hux := hok.out x (List.mem_of_getElem? hxj)
    have hxj := Lib.hid hxj
    obtain ⟨o1, hwr, hstep⟩ := hst.out
    have hrow := Lib.hid (hstep.row hx.out hbg hbo)
    have hstep := Lib.hid hstep
    obtain ⟨q, c, hr, how, hqo⟩ := hwr
    have hr := Lib.hid hr
    have how := Lib.hid how
    have hqo := Lib.hid hqo
    clear hst
    obtain ⟨L, hL⟩ : ∃ L, (l ++ encNums k (xs.take j)).length = L := ⟨_, rfl⟩
    have hLb : L ≤ l.length + 8 * n := by
     rw [← hL, List.length_append, encNums_len, List.length_take]
     have : k * min j xs.length ≤ 8 * n := Nat.mul_le_mul (by omega) (by have := hn.out; omega)
     omega
    have hcell : wr.cell? ⟨b, j, none⟩ = some (.int .u64 x) := by rw [hrow.out.cell, List.getElem?_map, hxj.out]; rfl
    have hL := Lib.hid hL
    have hr' : Hid (RowV 109 wr g [.slice q L c]) := by have h1 := hr.out; rw [hL.out] at h1; exact h1
    have how' : Hid (Own wr (g + 1) (.slice q L c) (l ++ encNums k (xs.take j))) := by have h1 := how.out; rw [hL.out] at h1; exact h1
    have hLb := Lib.hid hLb
    have i0 : (0 : Int) ≤ j := by omega
    have i1 : (j : Int) < n := by omega
    obtain ⟨x0, x1⟩ := hux
    go_wp2_with fail
    clear hcell
    refine wp_region_x (by kernel_rfl) 13 (fun u => RowV 109 u g [.slice q L c]) ?_
    change wpAnyX _ _ _ _ _ _ _ _ _ (World.drew wr)
    have hdr : Below wr.heap.size wr (World.drew wr) := below_drew wr
    have hX : RowV 109 (World.drew wr) g [.slice q L c] := hr'.out.below hdr
    have hstep2 := hstep.out.trans (WStep.of_below hdr)
    have how2 := how'.out.below hdr
    have hlt2 : g < (World.drew wr).heap.size := hX.lt
    generalize World.drew wr = u0 at hX hstep2 how2 hlt2 ⊢
    have kk : ∀ {u : World}, RowV 109 u g [.slice q L c] → u.cell? ⟨g, 0, none⟩ = some (.slice q L c) := fun hu => hu.cell 0
    refine x_pure (i := 0) (dst := some 14) (v := .pointer (some ⟨g, 0, none⟩)) rfl rfl (by kernel_rfl) (by kernel_rfl) (by kernel_rfl) (by kernel_rfl) (fun _ _ _ h => h) (.inl ⟨rfl, fun u hu => by go_simp⟩) (fun _ => hX) ?_; go_frame
    refine x_pure (i := 1) (dst := some 15) (v := .pointer (some ⟨g, 0, none⟩)) rfl rfl (by kernel_rfl) (by kernel_rfl) (by kernel_rfl) (by kernel_rfl) (fun _ _ _ h => h) (.inl ⟨rfl, fun u hu => by go_simp⟩) (fun _ => hX) ?_; go_frame
    refine x_pure (i := 2) (dst := some 16) (v := .pointer (some ⟨g, 0, none⟩)) rfl rfl (by kernel_rfl) (by kernel_rfl) (by kernel_rfl) (by kernel_rfl) (fun _ _ _ h => h) (.inl ⟨rfl, fun u hu => by go_simp⟩) (fun _ => hX) ?_; go_frame
    refine x_pure (i := 3) (dst := some 17) (v := .pointer (some ⟨g, 0, none⟩)) rfl rfl (by kernel_rfl) (by kernel_rfl) (by kernel_rfl) (by kernel_rfl) (fun _ _ _ h => h) (.inl ⟨rfl, fun u hu => by go_simp⟩) (fun _ => hX) ?_; go_frame
    refine x_take (i := 4) (dst := some 18) (v := .slice q L c) rfl rfl (by kernel_rfl) (by kernel_rfl) (by kernel_rfl) (by kernel_rfl) (by kernel_rfl) (fun _ _ _ h => h) (.inl ⟨rfl, fun u hu => by have c1 := kk hu; go_simp⟩) hX ?_; go_frame
    refine x_pure (i := 5) (dst := some 19) (v := .int .u64 x) rfl rfl (by kernel_rfl) (by kernel_rfl) (by kernel_rfl) (by kernel_rfl) (fun _ _ _ h => h) (.inl ⟨rfl, fun u hu => by go_simp⟩) (fun _ => hX) ?_; go_frame
    refine x_pure (i := 7) (dst := some 21) (v := .int .i64 k) rfl rfl (by kernel_rfl) (by kernel_rfl) (by kernel_rfl) (by kernel_rfl) (fun _ _ _ h => h) (.inl ⟨rfl, fun u hu => by go_simp⟩) (fun _ => hX) ?_; go_frame
    refine x_pure (i := 8) (dst := some 22) (v := .int .i64 m) rfl rfl (by kernel_rfl) (by kernel_rfl) (by kernel_rfl) (by kernel_rfl) (fun _ _ _ h => h) (.inl ⟨rfl, fun u hu => by go_simp⟩) (fun _ => hX) ?_; go_frame
    refine x_call (i := 6) (dst := some 20) rfl rfl (by kernel_rfl) rfl (by go_simp) (put64n x u0 x0) ?_
    rintro e u1 ⟨rfl, hrow8, hb1⟩
    have hX1 : RowV 109 u1 g [.slice q L c] := hX.below hb1
    refine ⟨_, rfl, fun _ => hX1, ?_⟩
    go_frame
    have how3 := how2.below hb1
    have hstep3 := hstep2.trans (WStep.of_below hb1)
    have hh8 := hrow8.holds 8
    rw [length_be] at hh8
    have hh8' := holds_drop hh8 (k := m) (by omega) (Nat.le_refl _)
    have e8 : (be 8 x.toNat).drop m = be k x.toNat := by rw [show m = 8 - k by omega]; exact be_tail (by omega) _
    rw [e8] at hh8'
    have hsl := fun u : World => slice_tail8 (some ⟨u0.heap.size, 0, none⟩) 8 8 m (by omega) u
    refine x_pure (i := 9) (dst := some 23) (v := .slice (tl (some ⟨u0.heap.size, 0, none⟩) 8 m) (8 - m) (8 - m)) rfl rfl (by kernel_rfl) (by kernel_rfl) (by kernel_rfl) (by kernel_rfl) (fun _ _ _ h => h) (.inl ⟨rfl, fun u hu => by go_simp⟩) (fun _ => hX1) ?_; go_frame
    obtain ⟨q2, c2, u2, hrun, ho2, hg2, hat2⟩ := run_append_bytes_at (w := u1) 36 how3 hh8' (by have := hLb.out; omega) (by have := hX1.lt; omega)
    have hX2 : RowV 109 u2 g [.slice q L c] := hX1.block (hg2.block g hX1.lt (fun e => by
     cases q with
     | none => cases e
     | some a => have h2 := how3.holds.2.2 a rfl; simp [blockOf] at e; omega))
    refine x_value (i := 10) (dst := some 24) (w' := u2) rfl rfl (by kernel_rfl) rfl (run_append_op2 (s := .tmp 18) (x := .tmp 23) rfl rfl rfl hrun) (fun _ => hX2) ?_; go_frame
    refine x_pure (i := 11) (dst := some 25) (v := .pointer (some ⟨g, 0, none⟩)) rfl rfl (by kernel_rfl) (by kernel_rfl) (by kernel_rfl) (by kernel_rfl) (fun _ _ _ h => h) (.inl ⟨rfl, fun u hu => by go_simp⟩) (fun _ => hX2) ?_; go_frame
    refine x_pure (i := 12) (dst := some 26) (v := .pointer (some ⟨g, 0, none⟩)) rfl rfl (by kernel_rfl) (by kernel_rfl) (by kernel_rfl) (by kernel_rfl) (fun _ _ _ h => h) (.inl ⟨rfl, fun u hu => by go_simp⟩) (fun _ => hX2) ?_; go_frame
    obtain ⟨u3, hu3⟩ : ∃ y, u2.setCell ⟨g, 0, none⟩ (.slice q2 (L + (8 - m)) c2) = y := ⟨_, rfl⟩
    have e4 : u2.cell? ⟨g, 0, none⟩ = some (.slice q L c) := hX2.cell 0
    have f4 : u2.frozen? ⟨g, 0, none⟩ = false := hX2.free 0
    have st4 : (storeVar 36 ⟨g, 0, none⟩ (.slice q2 (L + (8 - m)) c2)).run Tryz.prog u2 = .ok () u3 := by rw [← hu3]; go_simp
    refine x_skip (i := 13) (dst := none) rfl rfl (by kernel_rfl) rfl (run_store_op (x := .tmp 26) (y := .tmp 24) rfl rfl rfl st4) (no_x (by kernel_rfl)) ?_; go_frame
    refine x_done (by kernel_rfl) ?_
    have hlk : (be k x.toNat).length = 8 - m := by rw [length_be]; omega
    have hfin : Wr u3 g (q2.map (·.block)) ((l ++ encNums k (xs.take j)) ++ be k x.toNat) ∧ WStep u1 u3 g (q.map (·.block)) (q2.map (·.block)) := by
     have hLe := hL.out
     subst hLe
     exact wr_app hX1 how3 hlk ho2 hg2 hat2 hu3
    have hst9 : Hid (∃ o1, Wr u3 g o1 (l ++ encNums k (xs.take (j + 1))) ∧ WStep w u3 g o o1) := ⟨_, by rw [encNums_step hxj.out, ← List.append_assoc]; exact hfin.1, by rw [hqo.out] at hfin; exact hstep3.trans hfin.2⟩
    clear hX hX1 hX2 how2 how3 hstep2 hstep3 hrow8 hh8 hh8' hsl hrun ho2 hg2 hat2 e4 f4 st4 hfin hu3 hb1 hdr
    go_wp2
    go_roundw
    case rel => exact ⟨j + 1, by omega, by go_num, hst9⟩
    case measure => simp [RowKit.intOf]; omega
  · obtain rfl : n = j := by omega
    have hall : xs.take n = xs := by rw [← hn.out]; exact List.take_length ..
    rw [hall] at hst
    clear hx hok hall
    go_wp2
    go_end0
    obtain ⟨o1, a1, a2⟩ := hst.out
    exact ⟨o1, rfl, a1, a2⟩
end Go.Proofs.YtocekhckmpkbmaaGreat
