/- A region that draws its order, of which a later store (number s) writes what others read ahead of it. Nothing of a program is claimed here. -/
import Derived.Test.YtbgpppbcffpdbaaGreatDoorHeld
import Derived.Test.YtbgpppbcffpdbaaGreatDoorLGe
namespace Go.Proofs.YtbgpppbcffpdbaaGreatDoor
open Go.RowKit

section
variable {P : Program} {ops : Array Oper} {Q : Exit → Act → World → Prop} {md : Region.Mode} {s : Nat} {X : World → Prop}

/-- whatever order is picked from here on; X holds behind each operation as long as the store has not come up -/
def wpAnyX (P : Program) (md : Region.Mode) (ops : Array Oper) (Q : Exit → Act → World → Prop) (s : Nat) (X : World → Prop) : Nat → Array Bool → Act → World → Prop
  | 0, l, a, w => Region.ready md ops l = [] ∧ Q .normal a w
  | k + 1, l, a, w => (Region.ready md ops l = [] → Q .normal a w) ∧ ∀ i ∈ Region.ready md ops l, wpOp P ops Q i (fun a' w' => ((l.setIfInBounds i true).getD s true = false → X w') ∧ wpAnyX P md ops Q s X k (l.setIfInBounds i true) a' w') a w
theorem any_of_x : ∀ {k : Nat} {l : Array Bool} {a : Act} {w : World}, wpAnyX P md ops Q s X k l a w → wpAny P md ops Q k l a w
  | 0, _, _, _, h => h
  | _ + 1, _, _, _, h => ⟨h.1, fun i hi => wpOp_mono (fun _ _ h' => any_of_x h'.2) (h.2 i hi)⟩
theorem wp_region_x {id : Nat} {a : Act} {w : World} (hm : P.follows .mixedOrders = true) (s : Nat) (X : World → Prop) (h : wpAnyX P .any ops Q s X ops.size (Array.replicate ops.size false) a { w with drawn := w.drawn + 1 }) : (Code.region id ops true).wp P Q a w :=
  wp_region_any hm (any_of_x h)
/-- number s waits for number i -/
def edgeB (md : Region.Mode) (ops : Array Oper) (s i : Nat) : Bool := match ops[s]? with
  | some o => o.after.any (fun e => Region.binds md e && e.on == i)
  | none => false
theorem edge_not {i : Nat} {l : Array Bool} (h : edgeB md ops s i = true) (hi : i ∈ Region.ready md ops l) : s ∉ Region.ready md ops l := fun hs => by
  obtain ⟨_, os, hos, hall⟩ := mem_ready.1 hs
  unfold edgeB at h
  rw [hos] at h
  simp only at h
  obtain ⟨e, he, hb⟩ := Array.any_eq_true'.1 h
  simp only [Bool.and_eq_true, beq_iff_eq] at hb
  have h1 := hall e he hb.1
  rw [hb.2] at h1
  have h0 := (mem_ready.1 hi).1
  rcases Nat.lt_or_ge i l.size with h' | h'
  · simp [h'] at h0 h1; rw [h0] at h1; cases h1
  · simp [Array.getElem?_eq_none h'] at h1
theorem x_first {i : Nat} {oi : Oper} {v : Value} (hi : ops[i]? = some oi) (hsel : ∀ (j : Nat) (o : Oper) cs b, ops[j]? = some o → o.op ≠ .select cs b) (hQ : ∀ c a w, Q (.panic c) (a.put oi.dst v) w → Q (.panic c) a w) (hes : edgeB md ops s i = true) (his : i ≠ s) :
    ∀ (k : Nat) (l : Array Bool) (a : Act) (w : World),
      (∀ j oj, ops[j]? = some oj → j ≠ i → l.getD j true = false → (∀ e ∈ oj.after, Region.binds md e = true → e.on ≠ i) → oi.apart ops oj = true) →
      i ∈ Region.ready md ops l → YieldsIf P ops X oi v a → l.getD s true = false → X w →
      wpAnyX P md ops Q s X k (l.setIfInBounds i true) (a.put oi.dst v) w → wpAnyX P md ops Q s X (k + 1) l a w := by
  intro k
  induction k with
  | zero =>
    intro l a w _ hr hy _ hX H
    refine ⟨fun h => (by rw [h] at hr; cases hr), fun j hj => ?_⟩
    by_cases hji : j = i
    · subst hji; exact hy.wpOp hi hX ⟨fun _ => hX, H⟩
    · have := ready_mono hj hji
      rw [H.1] at this
      cases this
  | succ k ih =>
    intro l a w hfree hr hy hls hX H
    refine ⟨fun h => (by rw [h] at hr; cases hr), fun j hj => ?_⟩
    by_cases hji : j = i
    · subst hji; exact hy.wpOp hi hX ⟨fun _ => hX, H⟩
    · have hjs : j ≠ s := fun e => edge_not hes hr (by rw [← e]; exact hj)
      have h1 := H.2 j (ready_mono hj hji)
      obtain ⟨hjun, oj, hoj, hall⟩ := mem_ready.1 hj
      have hnot : ∀ e ∈ oj.after, Region.binds md e = true → e.on ≠ i := fun e he hb heq => by
        have h1 := hall e he hb
        have h0 := (mem_ready.1 hr).1
        rw [heq] at h1
        rcases Nat.lt_or_ge i l.size with h' | h'
        · simp [h'] at h0 h1; rw [h0] at h1; cases h1
        · simp [Array.getElem?_eq_none h'] at h1
      have h2 := wpOp_putIf hoj (hfree j oj hoj hji hjun hnot) (fun cs b => hsel i oi cs b hi) (fun cs b => hsel j oj cs b hoj) hQ hy h1
      have hfree' : ∀ k ok, ops[k]? = some ok → k ≠ i → (l.setIfInBounds j true).getD k true = false → (∀ e ∈ ok.after, Region.binds md e = true → e.on ≠ i) → oi.apart ops ok = true := fun k ok hk hki hun hno => by
        refine hfree k ok hk hki ?_ hno
        by_cases hjk : j = k
        · subst hjk; exact hjun
        · rw [getD_set_ne true hjk] at hun; exact hun
      have hlj : (l.setIfInBounds j true).getD s true = false := by rw [getD_set_ne true hjs]; exact hls
      have hlij : ((l.setIfInBounds i true).setIfInBounds j true).getD s true = false := by rw [getD_set_ne true hjs, getD_set_ne true his]; exact hls
      refine wpOp_mono (fun a' w' h3 => ⟨fun _ => h3.2.1 hlij, ih (l.setIfInBounds j true) a' w' hfree' (ready_mono hr (Ne.symm hji)) h3.1 hlj (h3.2.1 hlij) ?_⟩) h2
      rw [Array.setIfInBounds_comm _ _ hji]
      exact h3.2.2
theorem x_take {i : Nat} {o : Oper} {dst : Option Tmp} (hd : o.dst = dst) {v : Value} {k : Nat} {l : Array Bool} {a : Act} {w : World} (hi : ops[i]? = some o) (hs : Region.noSelect ops = true) (hf : Region.free md ops l i = true) (hr : (Region.ready md ops l).contains i = true)
    (hes : (edgeB md ops s i && !(i == s)) = true) (hls : l.getD s true = false) (hQ : ∀ c a w, Q (.panic c) (a.put o.dst v) w → Q (.panic c) a w) (hy : YieldsIf P ops X o v a) (hX : X w)
    (h : wpAnyX P md ops Q s X k (l.setIfInBounds i true) (a.put dst v) w) : wpAnyX P md ops Q s X (k + 1) l a w := by
  subst hd
  simp only [Bool.and_eq_true, Bool.not_eq_true', beq_eq_false_iff_ne] at hes
  exact x_first hi (Region.noSelect_spec hs) hQ hes.1 hes.2 k l a w (Region.free_spec hi hf) (by simpa using hr) hy hls hX h
theorem x_purel {i : Nat} {oi : Oper} {v : Value} (hi : ops[i]? = some oi) (hsel : ∀ (j : Nat) (o : Oper) cs b, ops[j]? = some o → o.op ≠ .select cs b) (hQ : ∀ c a w, Q (.panic c) (a.put oi.dst v) w → Q (.panic c) a w) (his : i ≠ s) :
    ∀ (k : Nat) (l : Array Bool) (a : Act) (w : World),
      (∀ j oj, ops[j]? = some oj → j ≠ i → l.getD j true = false → (∀ e ∈ oj.after, Region.binds md e = true → e.on ≠ i) → oi.apart ops oj = true) →
      i ∈ Region.ready md ops l → YieldsIf P ops (fun _ => True) oi v a → (l.getD s true = false → X w) →
      wpAnyX P md ops Q s X k (l.setIfInBounds i true) (a.put oi.dst v) w → wpAnyX P md ops Q s X (k + 1) l a w := by
  intro k
  induction k with
  | zero =>
    intro l a w _ hr hy hX H
    refine ⟨fun h => (by rw [h] at hr; cases hr), fun j hj => ?_⟩
    by_cases hji : j = i
    · subst hji; exact hy.wpOp hi trivial ⟨fun h => hX (by rwa [getD_set_ne true his] at h), H⟩
    · have := ready_mono hj hji
      rw [H.1] at this
      cases this
  | succ k ih =>
    intro l a w hfree hr hy hX H
    refine ⟨fun h => (by rw [h] at hr; cases hr), fun j hj => ?_⟩
    by_cases hji : j = i
    · subst hji; exact hy.wpOp hi trivial ⟨fun h => hX (by rwa [getD_set_ne true his] at h), H⟩
    · have h1 := H.2 j (ready_mono hj hji)
      obtain ⟨hjun, oj, hoj, hall⟩ := mem_ready.1 hj
      have hnot : ∀ e ∈ oj.after, Region.binds md e = true → e.on ≠ i := fun e he hb heq => by
        have h1 := hall e he hb
        have h0 := (mem_ready.1 hr).1
        rw [heq] at h1
        rcases Nat.lt_or_ge i l.size with h' | h'
        · simp [h'] at h0 h1; rw [h0] at h1; cases h1
        · simp [Array.getElem?_eq_none h'] at h1
      have h2 := wpOp_putIf hoj (hfree j oj hoj hji hjun hnot) (fun cs b => hsel i oi cs b hi) (fun cs b => hsel j oj cs b hoj) hQ hy h1
      have hfree' : ∀ k ok, ops[k]? = some ok → k ≠ i → (l.setIfInBounds j true).getD k true = false → (∀ e ∈ ok.after, Region.binds md e = true → e.on ≠ i) → oi.apart ops ok = true := fun k ok hk hki hun hno => by
        refine hfree k ok hk hki ?_ hno
        by_cases hjk : j = k
        · subst hjk; exact hjun
        · rw [getD_set_ne true hjk] at hun; exact hun
      have hcomm := Array.setIfInBounds_comm (xs := l) true true hji
      have hX2 : ∀ w', (((l.setIfInBounds i true).setIfInBounds j true).getD s true = false → X w') → (l.setIfInBounds j true).getD s true = false → X w' := fun w' h h2 => h (by rw [← Array.setIfInBounds_comm _ _ hji, getD_set_ne true his]; exact h2)
      refine wpOp_mono (fun a' w' h3 => ⟨hX2 w' h3.2.1, ih (l.setIfInBounds j true) a' w' hfree' (ready_mono hr (Ne.symm hji)) h3.1 (hX2 w' h3.2.1) ?_⟩) h2
      rw [Array.setIfInBounds_comm _ _ hji]
      exact h3.2.2
theorem x_pure {i : Nat} {o : Oper} {dst : Option Tmp} (hd : o.dst = dst) {v : Value} {k : Nat} {l : Array Bool} {a : Act} {w : World} (hi : ops[i]? = some o) (hs : Region.noSelect ops = true) (hf : Region.free md ops l i = true) (hr : (Region.ready md ops l).contains i = true)
    (his : (!(i == s)) = true) (hQ : ∀ c a w, Q (.panic c) (a.put o.dst v) w → Q (.panic c) a w) (hy : YieldsIf P ops (fun _ => True) o v a) (hX : l.getD s true = false → X w)
    (h : wpAnyX P md ops Q s X k (l.setIfInBounds i true) (a.put dst v) w) : wpAnyX P md ops Q s X (k + 1) l a w := by
  subst hd
  simp only [Bool.not_eq_true', beq_eq_false_iff_ne] at his
  exact x_purel hi (Region.noSelect_spec hs) hQ his k l a w (Region.free_spec hi hf) (by simpa using hr) hy hX h
theorem x_all {rs : List Nat} {k : Nat} {l : Array Bool} {a : Act} {w : World} (hr : Region.ready md ops l = rs) (hne : rs ≠ [])
    (h : ∀ i ∈ rs, wpOp P ops Q i (fun a' w' => ((l.setIfInBounds i true).getD s true = false → X w') ∧ wpAnyX P md ops Q s X k (l.setIfInBounds i true) a' w') a w) : wpAnyX P md ops Q s X (k + 1) l a w :=
  ⟨fun h0 => absurd (hr ▸ h0) hne, hr ▸ h⟩
theorem x_done {k : Nat} {l : Array Bool} {a : Act} {w : World} (hr : Region.ready md ops l = []) (h : Q .normal a w) : wpAnyX P md ops Q s X k l a w := by
  cases k with
  | zero => exact ⟨hr, h⟩
  | succ k => exact ⟨fun _ => h, by rw [hr]; simp⟩
theorem x_one {i : Nat} {o : Oper} {k : Nat} {l : Array Bool} {a : Act} {w : World} (hi : ops[i]? = some o) (hr : Region.ready md ops l = [i]) (hw : Region.wanted o (yielded ops a.tmps) = true)
    (h : o.wp P a w (fun a' w' => ((l.setIfInBounds i true).getD s true = false → X w') ∧ wpAnyX P md ops Q s X k (l.setIfInBounds i true) a' w') Q) : wpAnyX P md ops Q s X (k + 1) l a w := by
  refine x_all hr (by simp) (fun j hj => ?_)
  rw [List.mem_singleton.1 hj]
  unfold wpOp
  simp only [hi, hw, if_true]
  exact .inl h
theorem x_value {i : Nat} {o : Oper} {dst : Option Tmp} (hd : o.dst = dst) {k : Nat} {l : Array Bool} {a : Act} {w w' : World} {v : Value} (hi : ops[i]? = some o) (hr : Region.ready md ops l = [i]) (hw : Region.wanted o (yielded ops a.tmps) = true)
    (hrun : (execOp a.eval o).run P w = .ok (.value v) w') (hX : (l.setIfInBounds i true).getD s true = false → X w') (h : wpAnyX P md ops Q s X k (l.setIfInBounds i true) (a.put dst v) w') : wpAnyX P md ops Q s X (k + 1) l a w := by
  subst hd
  refine x_one hi hr hw ?_
  unfold Oper.wp
  rw [hrun, Oper.upon_value]
  exact ⟨hX, h⟩
theorem x_skip {i : Nat} {o : Oper} {dst : Option Tmp} (hd : o.dst = dst) {k : Nat} {l : Array Bool} {a : Act} {w w' : World} (hi : ops[i]? = some o) (hr : Region.ready md ops l = [i]) (hw : Region.wanted o (yielded ops a.tmps) = true)
    (hrun : (execOp a.eval o).run P w = .ok .skip w') (hX : (l.setIfInBounds i true).getD s true = false → X w') (h : wpAnyX P md ops Q s X k (l.setIfInBounds i true) (a.put dst undef) w') : wpAnyX P md ops Q s X (k + 1) l a w := by
  subst hd
  refine x_one hi hr hw ?_
  unfold Oper.wp
  rw [hrun, Oper.upon_skip]
  exact ⟨hX, h⟩

/-- the operation o ends in a value that meets R -/
def EndsV (P : Program) (o : Oper) (a : Act) (w : World) (R : Value → World → Prop) : Prop := ∃ v w', (execOp a.eval o).run P w = .ok (.value v) w' ∧ R v w'
theorem EndsV.op {i : Nat} {o : Oper} {a : Act} {w : World} {K : Act → World → Prop} {R : Value → World → Prop} (hi : ops[i]? = some o) (hw : Region.wanted o (yielded ops a.tmps) = true) (h : EndsV P o a w R) (hR : ∀ v w', R v w' → K (a.put o.dst v) w') : wpOp P ops Q i K a w := by
  unfold wpOp
  simp only [hi, hw, if_true]
  refine .inl ?_
  unfold Oper.wp
  obtain ⟨v, w', hrun, hz⟩ := h
  rw [hrun, Oper.upon_value]
  exact hR v w' hz
/-- two operations that give a value, either first -/
theorem x_two {i j : Nat} {oi oj : Oper} {di dj : Option Tmp} (hdi : oi.dst = di) (hdj : oj.dst = dj) {k : Nat} {l : Array Bool} {a : Act} {w : World} (hi : ops[i]? = some oi) (hj : ops[j]? = some oj) (hr : Region.ready md ops l = [i, j]) (hwi : Region.wanted oi (yielded ops a.tmps) = true) (hwj : Region.wanted oj (yielded ops a.tmps) = true)
    (h1 : EndsV P oi a w (fun v w' => X w' ∧ wpAnyX P md ops Q s X k (l.setIfInBounds i true) (a.put di v) w')) (h2 : EndsV P oj a w (fun v w' => X w' ∧ wpAnyX P md ops Q s X k (l.setIfInBounds j true) (a.put dj v) w')) : wpAnyX P md ops Q s X (k + 1) l a w := by
  subst hdi hdj
  refine x_all hr (by simp) (fun q hq => ?_)
  rcases List.mem_cons.1 hq with rfl | hq
  · exact h1.op hi hwi (fun v w' h => ⟨fun _ => h.1, h.2⟩)
  · rw [List.mem_singleton.1 hq]
    exact h2.op hj hwj (fun v w' h => ⟨fun _ => h.1, h.2⟩)
end
def putX (d : Option Tmp) (x : Option Value) (a : Act) : Act := match x with | none => a | some v => a.put d v
theorem putX_put {d d' : Nat} (h : d ≠ d') (x : Option Value) (a : Act) (v : Value) : (putX (some d) x a).put (some d') v = putX (some d) x (a.put (some d') v) := by
  cases x with
  | none => rfl
  | some u =>
    show (a.put (some d) u).put (some d') v = (a.put (some d') v).put (some d) u
    unfold Act.put
    simp only
    congr 1
    exact Array.setIfInBounds_comm _ _ h
end Go.Proofs.YtbgpppbcffpdbaaGreatDoor
