/- A region that draws its order, of which a later operation (number s, a store or a call) turns what others read ahead of it. Nothing of a program is claimed here. -/
import Derived.Test.YtkdkncbccofpdaaQ10
namespace Go.Proofs.Ytkdkncbccofpdaa
open Go.RowKit
section
variable {P : Program} {ops : Array Oper} {Q : Exit → Act → World → Prop} {md : Region.Mode} {s : Nat} {X : World → Prop}
/-- whatever order is picked from here on; X holds behind each operation as long as the store has not come up -/
def wpAnyX (P : Program) (md : Region.Mode) (ops : Array Oper) (Q : Exit → Act → World → Prop) (s : Nat) (X : World → Prop) : Nat → Array Bool → Act → World → Prop
 | 0, l, a, w => Region.ready md ops l = [] ∧ Q .normal a w
 | k + 1, l, a, w => (Region.ready md ops l = [] → Q .normal a w) ∧ ∀ i ∈ Region.ready md ops l, wpOp P ops Q i (fun a' w' => ((l.setIfInBounds i true).getD s true = false → X w') ∧ wpAnyX P md ops Q s X k (l.setIfInBounds i true) a' w') a w
theorem any_of_x : ∀ {k : Nat} {l : Array Bool} {a : Act} {w : World}, wpAnyX P md ops Q s X k l a w → wpAny P md ops Q k l a w
 | 0, _, _, _, h => h
 | _ + 1, _, _, _, h => ⟨h.1, fun i hi => wpOp_mono (fun _ _ h' => any_of_x h'.2) (h.2 i hi)⟩
theorem wp_region_x {id : Nat} {a : Act} {w : World} (hm : P.follows .mixedOrders = true) (s : Nat) (X : World → Prop) (h : wpAnyX P .any ops Q s X ops.size (Array.replicate ops.size false) a { w with drawn := w.drawn + 1 }) : (Code.region id ops true).wp P Q a w :=
 wp_region_any hm (any_of_x h)
/-- what has come up came up behind all that it waits for -/
def Cl (md : Region.Mode) (ops : Array Oper) (l : Array Bool) : Prop := ∀ k o, ops[k]? = some o → l.getD k false = true → ∀ e ∈ o.after, Region.binds md e = true → l.getD e.on false = true
def clB (md : Region.Mode) (ops : Array Oper) (l : Array Bool) : Bool := (List.range ops.size).all fun k => !(l.getD k false) || (match ops[k]? with
 | some o => o.after.all (fun e => !(Region.binds md e) || l.getD e.on false)
 | none => true)
theorem Cl.of {l : Array Bool} (h : clB md ops l = true) : Cl md ops l := by
 intro k o ho hl e he hb
 unfold clB at h
 rw [List.all_eq_true] at h
 have hk : k < ops.size := (Array.getElem?_eq_some_iff.1 ho).1
 have h1 := h k (List.mem_range.2 hk)
 rw [hl, ho] at h1
 simp only [Bool.not_true, Bool.false_or] at h1
 have h2 := Array.all_eq_true'.1 h1 e he
 rw [hb] at h2
 simpa using h2
theorem getD_mono {l : Array Bool} {j k : Nat} (h : l.getD k false = true) : (l.setIfInBounds j true).getD k false = true := by
 by_cases hjk : j = k
 · subst hjk
   rcases Nat.lt_or_ge j l.size with h' | h'
   · simp [h']
   · simp [Array.getElem?_eq_none h'] at h
 · rw [getD_set_ne false hjk]; exact h
theorem Cl.step {l : Array Bool} {j : Nat} (h : Cl md ops l) (hj : j ∈ Region.ready md ops l) : Cl md ops (l.setIfInBounds j true) := by
 intro k o ho hl e he hb
 by_cases hjk : j = k
 · subst hjk
   obtain ⟨_, o', ho', hall⟩ := mem_ready.1 hj
   rw [ho] at ho'
   cases ho'
   exact getD_mono (hall e he hb)
 · rw [getD_set_ne false hjk] at hl
   exact getD_mono (h k o ho hl e he hb)
/-- number s waits for number i, perhaps by way of others -/
def pathB (md : Region.Mode) (ops : Array Oper) : Nat → Nat → Nat → Bool
 | 0, _, _ => false
 | n + 1, s, i => match ops[s]? with
   | some o => o.after.any (fun e => Region.binds md e && (e.on == i || pathB md ops n e.on i))
   | none => false
theorem Cl.path {l : Array Bool} {i : Nat} (h : Cl md ops l) : ∀ (n s : Nat), pathB md ops n s i = true → l.getD s false = true → l.getD i false = true
 | 0, _, hp, _ => by simp [pathB] at hp
 | n + 1, s, hp, hl => by
   unfold pathB at hp
   cases ho : ops[s]? with
   | none => rw [ho] at hp; simp at hp
   | some o =>
     rw [ho] at hp
     simp only at hp
     obtain ⟨e, he, hb⟩ := Array.any_eq_true'.1 hp
     simp only [Bool.and_eq_true, Bool.or_eq_true, beq_iff_eq] at hb
     have h1 := h s o ho hl e he hb.1
     rcases hb.2 with h2 | h2
     · rw [← h2]; exact h1
     · exact Cl.path h n e.on h2 h1
theorem Cl.not {l : Array Bool} {i n : Nat} (h : Cl md ops l) (hp : pathB md ops (n + 1) s i = true) (hi : i ∈ Region.ready md ops l) : s ∉ Region.ready md ops l := fun hs => by
 obtain ⟨_, o, ho, hall⟩ := mem_ready.1 hs
 unfold pathB at hp
 rw [ho] at hp
 simp only at hp
 obtain ⟨e, he, hb⟩ := Array.any_eq_true'.1 hp
 simp only [Bool.and_eq_true, Bool.or_eq_true, beq_iff_eq] at hb
 have h1 := hall e he hb.1
 have h2 : l.getD i false = true := by
  rcases hb.2 with h2 | h2
  · rw [← h2]; exact h1
  · exact h.path n e.on h2 h1
 have h0 := (mem_ready.1 hi).1
 rcases Nat.lt_or_ge i l.size with h' | h'
 · simp [h'] at h0 h2; rw [h0] at h2; cases h2
 · simp [Array.getElem?_eq_none h'] at h2
theorem x_first {i : Nat} {oi : Oper} {v : Value} (hi : ops[i]? = some oi) (hsel : ∀ (j : Nat) (o : Oper) cs b, ops[j]? = some o → o.op ≠ .select cs b) (hQ : ∀ c a w, Q (.panic c) (a.put oi.dst v) w → Q (.panic c) a w) {n : Nat} (hes : pathB md ops (n + 1) s i = true) (his : i ≠ s) :
 ∀ (k : Nat) (l : Array Bool) (a : Act) (w : World), Cl md ops l →
  (∀ j oj, ops[j]? = some oj → j ≠ i → l.getD j true = false → (∀ e ∈ oj.after, Region.binds md e = true → e.on ≠ i) → oi.apart ops oj = true) →
  i ∈ Region.ready md ops l → YieldsIf P ops X oi v a → l.getD s true = false → X w →
  wpAnyX P md ops Q s X k (l.setIfInBounds i true) (a.put oi.dst v) w → wpAnyX P md ops Q s X (k + 1) l a w := by
 intro k
 induction k with
 | zero =>
   intro l a w _ _ hr hy _ hX H
   refine ⟨fun h => (by rw [h] at hr; cases hr), fun j hj => ?_⟩
   by_cases hji : j = i
   · subst hji; exact hy.wpOp hi hX ⟨fun _ => hX, H⟩
   · have := ready_mono hj hji
     rw [H.1] at this
     cases this
 | succ k ih =>
   intro l a w hCl hfree hr hy hls hX H
   refine ⟨fun h => (by rw [h] at hr; cases hr), fun j hj => ?_⟩
   by_cases hji : j = i
   · subst hji; exact hy.wpOp hi hX ⟨fun _ => hX, H⟩
   · have hjs : j ≠ s := fun e => hCl.not hes hr (by rw [← e]; exact hj)
     have h1 := H.2 j (ready_mono hj hji)
     obtain ⟨hjun, oj, hoj, hall⟩ := mem_ready.1 hj
     have hnot : ∀ e ∈ oj.after, Region.binds md e = true → e.on ≠ i := fun e he hb heq => by
      have h1 := hall e he hb
      have h0 := (mem_ready.1 hr).1
      rw [heq] at h1
      rcases Nat.lt_or_ge i l.size with h' | h'
      · simp [h'] at h0 h1; rw [h0] at h1; cases h1
      · simp [Array.getElem?_eq_none h'] at h1
     have h2 := wpOp_putIf hoj (hfree j oj hoj hji hjun hnot) (fun cs b => hsel i oi cs b hi) (fun cs b => hsel j oj cs b hoj) hQ hy h1
     have hfree' : ∀ k ok, ops[k]? = some ok → k ≠ i → (l.setIfInBounds j true).getD k true = false → (∀ e ∈ ok.after, Region.binds md e = true → e.on ≠ i) → oi.apart ops ok = true := fun k ok hk hki hun hno => by
      refine hfree k ok hk hki ?_ hno
      by_cases hjk : j = k
      · subst hjk; exact hjun
      · rw [getD_set_ne true hjk] at hun; exact hun
     have hlj : (l.setIfInBounds j true).getD s true = false := by rw [getD_set_ne true hjs]; exact hls
     have hlij : ((l.setIfInBounds i true).setIfInBounds j true).getD s true = false := by rw [getD_set_ne true hjs, getD_set_ne true his]; exact hls
     refine wpOp_mono (fun a' w' h3 => ⟨fun _ => h3.2.1 hlij, ih (l.setIfInBounds j true) a' w' (hCl.step (ready_mono hj hji |> fun _ => hj)) hfree' (ready_mono hr (Ne.symm hji)) h3.1 hlj (h3.2.1 hlij) ?_⟩) h2
     rw [Array.setIfInBounds_comm _ _ hji]
     exact h3.2.2
theorem x_take {i : Nat} {o : Oper} {dst : Option Tmp} (hd : o.dst = dst) {v : Value} {k : Nat} {l : Array Bool} {a : Act} {w : World} (hi : ops[i]? = some o) (hs : Region.noSelect ops = true) (hf : Region.free md ops l i = true) (hr : (Region.ready md ops l).contains i = true)
 (hes : (pathB md ops 40 s i && (!(i == s) && clB md ops l)) = true) (hls : l.getD s true = false) (hQ : ∀ c a w, Q (.panic c) (a.put o.dst v) w → Q (.panic c) a w) (hy : YieldsIf P ops X o v a) (hX : X w)
 (h : wpAnyX P md ops Q s X k (l.setIfInBounds i true) (a.put dst v) w) : wpAnyX P md ops Q s X (k + 1) l a w := by
 subst hd
 simp only [Bool.and_eq_true, Bool.not_eq_true', beq_eq_false_iff_ne] at hes
 exact x_first hi (Region.noSelect_spec hs) hQ hes.1 hes.2.1 k l a w (Cl.of hes.2.2) (Region.free_spec hi hf) (by simpa using hr) hy hls hX h
theorem x_purel {i : Nat} {oi : Oper} {v : Value} (hi : ops[i]? = some oi) (hsel : ∀ (j : Nat) (o : Oper) cs b, ops[j]? = some o → o.op ≠ .select cs b) (hQ : ∀ c a w, Q (.panic c) (a.put oi.dst v) w → Q (.panic c) a w) (his : i ≠ s) :
 ∀ (k : Nat) (l : Array Bool) (a : Act) (w : World),
  (∀ j oj, ops[j]? = some oj → j ≠ i → l.getD j true = false → (∀ e ∈ oj.after, Region.binds md e = true → e.on ≠ i) → oi.apart ops oj = true) →
  i ∈ Region.ready md ops l → YieldsIf P ops (fun _ => True) oi v a → (l.getD s true = false → X w) →
  wpAnyX P md ops Q s X k (l.setIfInBounds i true) (a.put oi.dst v) w → wpAnyX P md ops Q s X (k + 1) l a w := by
 intro k
 induction k with
 | zero =>
   intro l a w _ hr hy hX H
   refine ⟨fun h => (by rw [h] at hr; cases hr), fun j hj => ?_⟩
   by_cases hji : j = i
   · subst hji; exact hy.wpOp hi trivial ⟨fun h => hX (by rwa [getD_set_ne true his] at h), H⟩
   · have := ready_mono hj hji
     rw [H.1] at this
     cases this
 | succ k ih =>
   intro l a w hfree hr hy hX H
   refine ⟨fun h => (by rw [h] at hr; cases hr), fun j hj => ?_⟩
   by_cases hji : j = i
   · subst hji; exact hy.wpOp hi trivial ⟨fun h => hX (by rwa [getD_set_ne true his] at h), H⟩
   · have h1 := H.2 j (ready_mono hj hji)
     obtain ⟨hjun, oj, hoj, hall⟩ := mem_ready.1 hj
     have hnot : ∀ e ∈ oj.after, Region.binds md e = true → e.on ≠ i := fun e he hb heq => by
      have h1 := hall e he hb
      have h0 := (mem_ready.1 hr).1
      rw [heq] at h1
      rcases Nat.lt_or_ge i l.size with h' | h'
      · simp [h'] at h0 h1; rw [h0] at h1; cases h1
      · simp [Array.getElem?_eq_none h'] at h1
     have h2 := wpOp_putIf hoj (hfree j oj hoj hji hjun hnot) (fun cs b => hsel i oi cs b hi) (fun cs b => hsel j oj cs b hoj) hQ hy h1
     have hfree' : ∀ k ok, ops[k]? = some ok → k ≠ i → (l.setIfInBounds j true).getD k true = false → (∀ e ∈ ok.after, Region.binds md e = true → e.on ≠ i) → oi.apart ops ok = true := fun k ok hk hki hun hno => by
      refine hfree k ok hk hki ?_ hno
      by_cases hjk : j = k
      · subst hjk; exact hjun
      · rw [getD_set_ne true hjk] at hun; exact hun
     have hcomm := Array.setIfInBounds_comm (xs := l) true true hji
     have hX2 : ∀ w', (((l.setIfInBounds i true).setIfInBounds j true).getD s true = false → X w') → (l.setIfInBounds j true).getD s true = false → X w' := fun w' h h2 => h (by rw [← Array.setIfInBounds_comm _ _ hji, getD_set_ne true his]; exact h2)
     refine wpOp_mono (fun a' w' h3 => ⟨hX2 w' h3.2.1, ih (l.setIfInBounds j true) a' w' hfree' (ready_mono hr (Ne.symm hji)) h3.1 (hX2 w' h3.2.1) ?_⟩) h2
     rw [Array.setIfInBounds_comm _ _ hji]
     exact h3.2.2
theorem x_pure {i : Nat} {o : Oper} {dst : Option Tmp} (hd : o.dst = dst) {v : Value} {k : Nat} {l : Array Bool} {a : Act} {w : World} (hi : ops[i]? = some o) (hs : Region.noSelect ops = true) (hf : Region.free md ops l i = true) (hr : (Region.ready md ops l).contains i = true)
 (his : (!(i == s)) = true) (hQ : ∀ c a w, Q (.panic c) (a.put o.dst v) w → Q (.panic c) a w) (hy : YieldsIf P ops (fun _ => True) o v a) (hX : l.getD s true = false → X w)
 (h : wpAnyX P md ops Q s X k (l.setIfInBounds i true) (a.put dst v) w) : wpAnyX P md ops Q s X (k + 1) l a w := by
 subst hd
 simp only [Bool.not_eq_true', beq_eq_false_iff_ne] at his
 exact x_purel hi (Region.noSelect_spec hs) hQ his k l a w (Region.free_spec hi hf) (by simpa using hr) hy hX h
theorem x_all {rs : List Nat} {k : Nat} {l : Array Bool} {a : Act} {w : World} (hr : Region.ready md ops l = rs) (hne : rs ≠ [])
 (h : ∀ i ∈ rs, wpOp P ops Q i (fun a' w' => ((l.setIfInBounds i true).getD s true = false → X w') ∧ wpAnyX P md ops Q s X k (l.setIfInBounds i true) a' w') a w) : wpAnyX P md ops Q s X (k + 1) l a w :=
 ⟨fun h0 => absurd (hr ▸ h0) hne, hr ▸ h⟩
theorem x_done {k : Nat} {l : Array Bool} {a : Act} {w : World} (hr : Region.ready md ops l = []) (h : Q .normal a w) : wpAnyX P md ops Q s X k l a w := by
 cases k with
 | zero => exact ⟨hr, h⟩
 | succ k => exact ⟨fun _ => h, by rw [hr]; simp⟩
theorem x_one {i : Nat} {o : Oper} {k : Nat} {l : Array Bool} {a : Act} {w : World} (hi : ops[i]? = some o) (hr : Region.ready md ops l = [i]) (hw : Region.wanted o (yielded ops a.tmps) = true)
 (h : o.wp P a w (fun a' w' => ((l.setIfInBounds i true).getD s true = false → X w') ∧ wpAnyX P md ops Q s X k (l.setIfInBounds i true) a' w') Q) : wpAnyX P md ops Q s X (k + 1) l a w := by
 refine x_all hr (by simp) (fun j hj => ?_)
 rw [List.mem_singleton.1 hj]
 unfold wpOp
 simp only [hi, hw, if_true]
 exact .inl h
theorem x_value {i : Nat} {o : Oper} {dst : Option Tmp} (hd : o.dst = dst) {k : Nat} {l : Array Bool} {a : Act} {w w' : World} {v : Value} (hi : ops[i]? = some o) (hr : Region.ready md ops l = [i]) (hw : Region.wanted o (yielded ops a.tmps) = true)
 (hrun : (execOp a.eval o).run P w = .ok (.value v) w') (hX : (l.setIfInBounds i true).getD s true = false → X w') (h : wpAnyX P md ops Q s X k (l.setIfInBounds i true) (a.put dst v) w') : wpAnyX P md ops Q s X (k + 1) l a w := by
 subst hd
 refine x_one hi hr hw ?_
 unfold Oper.wp
 rw [hrun, Oper.upon_value]
 exact ⟨hX, h⟩
theorem x_skip {i : Nat} {o : Oper} {dst : Option Tmp} (hd : o.dst = dst) {k : Nat} {l : Array Bool} {a : Act} {w w' : World} (hi : ops[i]? = some o) (hr : Region.ready md ops l = [i]) (hw : Region.wanted o (yielded ops a.tmps) = true)
 (hrun : (execOp a.eval o).run P w = .ok .skip w') (hX : (l.setIfInBounds i true).getD s true = false → X w') (h : wpAnyX P md ops Q s X k (l.setIfInBounds i true) (a.put dst undef) w') : wpAnyX P md ops Q s X (k + 1) l a w := by
 subst hd
 refine x_one hi hr hw ?_
 unfold Oper.wp
 rw [hrun, Oper.upon_skip]
 exact ⟨hX, h⟩
theorem x_call {i : Nat} {o : Oper} {dst : Option Tmp} (hd : o.dst = dst) {k : Nat} {l : Array Bool} {a : Act} {w : World} {f : FuncId} {args : Array Value} {R : Ending → World → Prop} (hi : ops[i]? = some o) (hr : Region.ready md ops l = [i]) (hw : Region.wanted o (yielded ops a.tmps) = true)
 (hrun : (execOp a.eval o).run P w = .ok (.enter f args) w) (hc : Calls P f args w R) (h : ∀ e w', R e w' → ∃ v, e = .returned v ∧ ((l.setIfInBounds i true).getD s true = false → X w') ∧ wpAnyX P md ops Q s X k (l.setIfInBounds i true) (a.put dst v) w') : wpAnyX P md ops Q s X (k + 1) l a w := by
 subst hd
 refine x_one hi hr hw ?_
 unfold Oper.wp
 rw [hrun, Oper.upon_enter]
 refine hc.mono fun e w' he => ?_
 obtain ⟨v, rfl, h1⟩ := h e w' he
 exact h1
/-- number i gives the value v, whatever the order; what a reader need not see is asked last -/
theorem x_tk {i : Nat} {o : Oper} {dst : Option Tmp} (hd : o.dst = dst) {v : Value} {k : Nat} {l : Array Bool} {a : Act} {w : World} (hi : ops[i]? = some o) (hy : YieldsIf P ops X o v a) (hX : X w)
 (h : wpAnyX P md ops Q s X k (l.setIfInBounds i true) (a.put dst v) w)
 (hs : Region.noSelect ops = true := by kernel_rfl) (hf : Region.free md ops l i = true := by kernel_rfl) (hr : (Region.ready md ops l).contains i = true := by kernel_rfl)
 (hes : (pathB md ops 40 s i && (!(i == s) && clB md ops l)) = true := by kernel_rfl) (hls : l.getD s true = false := by kernel_rfl)
 (hQ : ∀ c a w, Q (.panic c) (a.put o.dst v) w → Q (.panic c) a w := by exact fun _ _ _ h => h) : wpAnyX P md ops Q s X (k + 1) l a w :=
 x_take hd hi hs hf hr hes hls hQ hy hX h
theorem x_pu {i : Nat} {o : Oper} {dst : Option Tmp} (hd : o.dst = dst) {v : Value} {k : Nat} {l : Array Bool} {a : Act} {w : World} (hi : ops[i]? = some o) (hy : YieldsIf P ops (fun _ => True) o v a) (hX : l.getD s true = false → X w)
 (h : wpAnyX P md ops Q s X k (l.setIfInBounds i true) (a.put dst v) w)
 (hs : Region.noSelect ops = true := by kernel_rfl) (hf : Region.free md ops l i = true := by kernel_rfl) (hr : (Region.ready md ops l).contains i = true := by kernel_rfl) (his : (!(i == s)) = true := by kernel_rfl)
 (hQ : ∀ c a w, Q (.panic c) (a.put o.dst v) w → Q (.panic c) a w := by exact fun _ _ _ h => h) : wpAnyX P md ops Q s X (k + 1) l a w :=
 x_pure hd hi hs hf hr his hQ hy hX h
theorem value_op {k : Nat} {o : Oper} {dst : Option Tmp} (hd : o.dst = dst) {a : Act} {w w' : World} {v : Value} {J : Act → World → Prop} (hk : ops[k]? = some o) (hw : Region.wanted o (yielded ops a.tmps) = true) (hrun : (execOp a.eval o).run P w = .ok (.value v) w') (h : J (a.put dst v) w') : wpOp P ops Q k J a w := by
 subst hd
 unfold wpOp
 simp only [hk, hw, if_true]
 refine .inl ?_
 unfold Oper.wp
 rw [hrun, Oper.upon_value]
 exact h
theorem call_op {k : Nat} {o : Oper} {dst : Option Tmp} (hd : o.dst = dst) {a : Act} {w : World} {f : FuncId} {args : Array Value} {R : Ending → World → Prop} {J : Act → World → Prop} (hk : ops[k]? = some o) (hw : Region.wanted o (yielded ops a.tmps) = true) (hrun : (execOp a.eval o).run P w = .ok (.enter f args) w) (hc : Calls P f args w R) (h : ∀ e w', R e w' → ∃ v, e = .returned v ∧ J (a.put dst v) w') : wpOp P ops Q k J a w := by
 subst hd
 unfold wpOp
 simp only [hk, hw, if_true]
 refine .inl ?_
 unfold Oper.wp
 rw [hrun, Oper.upon_enter]
 refine hc.mono fun e y he => ?_
 obtain ⟨v, rfl, h1⟩ := h e y he
 exact h1
/-- two operations that may come in either order -/
theorem any_two {S : World → Prop} {i j n : Nat} {listed : Array Bool} {a : Act} {w : World} (hr : Region.ready md ops listed = [i, j])
 (h1 : wpOp P ops Q i (fun a' w' => S w' ∧ wpAnyH P md ops Q S n (listed.setIfInBounds i true) a' w') a w) (h2 : wpOp P ops Q j (fun a' w' => S w' ∧ wpAnyH P md ops Q S n (listed.setIfInBounds j true) a' w') a w) : wpAnyH P md ops Q S (n + 1) listed a w := by
 refine wpAnyH_all hr (by simp) (fun k hk => ?_)
 rcases List.mem_cons.1 hk with rfl | hk
 · exact h1
 · rw [List.mem_singleton.1 hk]; exact h2
end
end Go.Proofs.Ytkdkncbccofpdaa
