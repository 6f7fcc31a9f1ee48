/- Parts of the proof: A region that draws its order, of which a later store (number s) writes what others read ahead of it. Nothing of a program is claimed here; The writer of record: what it has laid; numbers; The document's own functions on keys and rows: table, order, RightRow, key -/
import Derived.Test.YtocekhckmpkbmaaGreatU01
import Derived.Test.YtocekhckmpkbmaaGreatU12
import Derived.Test.YtocekhckmpkbmaaGreatU09
namespace Go.Proofs.YtocekhckmpkbmaaGreat
open Go.RowKit
section
variable {P : Program} {ops : Array Oper} {Q : Exit → Act → World → Prop} {md : Region.Mode} {s : Nat} {X : World → Prop}
/-- whatever order is picked from here on; X holds behind each operation as long as the store has not come up -/
def wpAnyX (P : Program) (md : Region.Mode) (ops : Array Oper) (Q : Exit → Act → World → Prop) (s : Nat) (X : World → Prop) : Nat → Array Bool → Act → World → Prop
 | 0, l, a, w => Region.ready md ops l = [] ∧ Q .normal a w
 | k + 1, l, a, w => (Region.ready md ops l = [] → Q .normal a w) ∧ ∀ i ∈ Region.ready md ops l, wpOp P ops Q i (fun a' w' => ((l.setIfInBounds i true).getD s true = false → X w') ∧ wpAnyX P md ops Q s X k (l.setIfInBounds i true) a' w') a w
theorem any_of_x : ∀ {k : Nat} {l : Array Bool} {a : Act} {w : World}, wpAnyX P md ops Q s X k l a w → wpAny P md ops Q k l a w
 | 0, _, _, _, h => h
 | _ + 1, _, _, _, h => ⟨h.1, fun i hi => wpOp_mono (fun _ _ h' => any_of_x h'.2) (h.2 i hi)⟩
theorem wp_region_x {id : Nat} {a : Act} {w : World} (hm : P.follows .mixedOrders = true) (s : Nat) (X : World → Prop) (h : wpAnyX P .any ops Q s X ops.size (Array.replicate ops.size false) a { w with drawn := w.drawn + 1 }) : (Code.region id ops true).wp P Q a w :=
 wp_region_any hm (any_of_x h)
/-- number s waits for number i -/
def edgeB (md : Region.Mode) (ops : Array Oper) (s i : Nat) : Bool := match ops[s]? with
 | some o => o.after.any (fun e => Region.binds md e && e.on == i)
 | none => false
theorem edge_not {i : Nat} {l : Array Bool} (h : edgeB md ops s i = true) (hi : i ∈ Region.ready md ops l) : s ∉ Region.ready md ops l := fun hs => by
 obtain ⟨_, os, hos, hall⟩ := mem_ready.1 hs; unfold edgeB at h; rw [hos] at h; simp only at h; obtain ⟨e, he, hb⟩ := Array.any_eq_true'.1 h; simp only [Bool.and_eq_true, beq_iff_eq] at hb; have h1 := hall e he hb.1; rw [hb.2] at h1; have h0 := (mem_ready.1 hi).1; rcases Nat.lt_or_ge i l.size with h' | h'
 · simp [h'] at h0 h1; rw [h0] at h1; cases h1
 · simp [Array.getElem?_eq_none h'] at h1
theorem x_first {i : Nat} {oi : Oper} {v : Value} (hi : ops[i]? = some oi) (hsel : ∀ (j : Nat) (o : Oper) cs b, ops[j]? = some o → o.op ≠ .select cs b) (hQ : ∀ c a w, Q (.panic c) (a.put oi.dst v) w → Q (.panic c) a w) (hes : edgeB md ops s i = true) (his : i ≠ s) :
 ∀ (k : Nat) (l : Array Bool) (a : Act) (w : World),
  (∀ j oj, ops[j]? = some oj → j ≠ i → l.getD j true = false → (∀ e ∈ oj.after, Region.binds md e = true → e.on ≠ i) → oi.apart ops oj = true) →
  i ∈ Region.ready md ops l → YieldsIf P ops X oi v a → l.getD s true = false → X w →
  wpAnyX P md ops Q s X k (l.setIfInBounds i true) (a.put oi.dst v) w → wpAnyX P md ops Q s X (k + 1) l a w := by
 intro k
 induction k with
 | zero =>
   intro l a w _ hr hy _ hX H; refine ⟨fun h => (by rw [h] at hr; cases hr), fun j hj => ?_⟩
   by_cases hji : j = i
   · subst hji; exact hy.wpOp hi hX ⟨fun _ => hX, H⟩
   · have := ready_mono hj hji; rw [H.1] at this; cases this
 | succ k ih =>
   intro l a w hfree hr hy hls hX H; refine ⟨fun h => (by rw [h] at hr; cases hr), fun j hj => ?_⟩
   by_cases hji : j = i
   · subst hji; exact hy.wpOp hi hX ⟨fun _ => hX, H⟩
   · have hjs : j ≠ s := fun e => edge_not hes hr (by rw [← e]; exact hj)
     have h1 := H.2 j (ready_mono hj hji); obtain ⟨hjun, oj, hoj, hall⟩ := mem_ready.1 hj
     have hnot : ∀ e ∈ oj.after, Region.binds md e = true → e.on ≠ i := fun e he hb heq => by
      have h1 := hall e he hb; have h0 := (mem_ready.1 hr).1; rw [heq] at h1; rcases Nat.lt_or_ge i l.size with h' | h'
      · simp [h'] at h0 h1; rw [h0] at h1; cases h1
      · simp [Array.getElem?_eq_none h'] at h1
     have h2 := wpOp_putIf hoj (hfree j oj hoj hji hjun hnot) (fun cs b => hsel i oi cs b hi) (fun cs b => hsel j oj cs b hoj) hQ hy h1
     have hfree' : ∀ k ok, ops[k]? = some ok → k ≠ i → (l.setIfInBounds j true).getD k true = false → (∀ e ∈ ok.after, Region.binds md e = true → e.on ≠ i) → oi.apart ops ok = true := fun k ok hk hki hun hno => by
      refine hfree k ok hk hki ?_ hno
      by_cases hjk : j = k
      · subst hjk; exact hjun
      · rw [getD_set_ne true hjk] at hun; exact hun
     have hlj : (l.setIfInBounds j true).getD s true = false := by rw [getD_set_ne true hjs]; exact hls
     have hlij : ((l.setIfInBounds i true).setIfInBounds j true).getD s true = false := by rw [getD_set_ne true hjs, getD_set_ne true his]; exact hls
     refine wpOp_mono (fun a' w' h3 => ⟨fun _ => h3.2.1 hlij, ih (l.setIfInBounds j true) a' w' hfree' (ready_mono hr (Ne.symm hji)) h3.1 hlj (h3.2.1 hlij) ?_⟩) h2; rw [Array.setIfInBounds_comm _ _ hji]; exact h3.2.2
theorem x_take {i : Nat} {o : Oper} {dst : Option Tmp} (hd : o.dst = dst) {v : Value} {k : Nat} {l : Array Bool} {a : Act} {w : World} (hi : ops[i]? = some o) (hs : Region.noSelect ops = true) (hf : Region.free md ops l i = true) (hr : (Region.ready md ops l).contains i = true)
 (hes : (edgeB md ops s i && !(i == s)) = true) (hls : l.getD s true = false) (hQ : ∀ c a w, Q (.panic c) (a.put o.dst v) w → Q (.panic c) a w) (hy : YieldsIf P ops X o v a) (hX : X w)
 (h : wpAnyX P md ops Q s X k (l.setIfInBounds i true) (a.put dst v) w) : wpAnyX P md ops Q s X (k + 1) l a w := by
 subst hd; simp only [Bool.and_eq_true, Bool.not_eq_true', beq_eq_false_iff_ne] at hes; exact x_first hi (Region.noSelect_spec hs) hQ hes.1 hes.2 k l a w (Region.free_spec hi hf) (by simpa using hr) hy hls hX h
theorem x_purel {i : Nat} {oi : Oper} {v : Value} (hi : ops[i]? = some oi) (hsel : ∀ (j : Nat) (o : Oper) cs b, ops[j]? = some o → o.op ≠ .select cs b) (hQ : ∀ c a w, Q (.panic c) (a.put oi.dst v) w → Q (.panic c) a w) (his : i ≠ s) :
 ∀ (k : Nat) (l : Array Bool) (a : Act) (w : World),
  (∀ j oj, ops[j]? = some oj → j ≠ i → l.getD j true = false → (∀ e ∈ oj.after, Region.binds md e = true → e.on ≠ i) → oi.apart ops oj = true) →
  i ∈ Region.ready md ops l → YieldsIf P ops (fun _ => True) oi v a → (l.getD s true = false → X w) →
  wpAnyX P md ops Q s X k (l.setIfInBounds i true) (a.put oi.dst v) w → wpAnyX P md ops Q s X (k + 1) l a w := by
 intro k
 induction k with
 | zero =>
   intro l a w _ hr hy hX H; refine ⟨fun h => (by rw [h] at hr; cases hr), fun j hj => ?_⟩
   by_cases hji : j = i
   · subst hji; exact hy.wpOp hi trivial ⟨fun h => hX (by rwa [getD_set_ne true his] at h), H⟩
   · have := ready_mono hj hji; rw [H.1] at this; cases this
 | succ k ih =>
   intro l a w hfree hr hy hX H; refine ⟨fun h => (by rw [h] at hr; cases hr), fun j hj => ?_⟩
   by_cases hji : j = i
   · subst hji; exact hy.wpOp hi trivial ⟨fun h => hX (by rwa [getD_set_ne true his] at h), H⟩
   · have h1 := H.2 j (ready_mono hj hji); obtain ⟨hjun, oj, hoj, hall⟩ := mem_ready.1 hj
     have hnot : ∀ e ∈ oj.after, Region.binds md e = true → e.on ≠ i := fun e he hb heq => by
      have h1 := hall e he hb; have h0 := (mem_ready.1 hr).1; rw [heq] at h1; rcases Nat.lt_or_ge i l.size with h' | h'
      · simp [h'] at h0 h1; rw [h0] at h1; cases h1
      · simp [Array.getElem?_eq_none h'] at h1
     have h2 := wpOp_putIf hoj (hfree j oj hoj hji hjun hnot) (fun cs b => hsel i oi cs b hi) (fun cs b => hsel j oj cs b hoj) hQ hy h1
     have hfree' : ∀ k ok, ops[k]? = some ok → k ≠ i → (l.setIfInBounds j true).getD k true = false → (∀ e ∈ ok.after, Region.binds md e = true → e.on ≠ i) → oi.apart ops ok = true := fun k ok hk hki hun hno => by
      refine hfree k ok hk hki ?_ hno
      by_cases hjk : j = k
      · subst hjk; exact hjun
      · rw [getD_set_ne true hjk] at hun; exact hun
     have hcomm := Array.setIfInBounds_comm (xs := l) true true hji; have hX2 : ∀ w', (((l.setIfInBounds i true).setIfInBounds j true).getD s true = false → X w') → (l.setIfInBounds j true).getD s true = false → X w' := fun w' h h2 => h (by rw [← Array.setIfInBounds_comm _ _ hji, getD_set_ne true his]; exact h2)
     refine wpOp_mono (fun a' w' h3 => ⟨hX2 w' h3.2.1, ih (l.setIfInBounds j true) a' w' hfree' (ready_mono hr (Ne.symm hji)) h3.1 (hX2 w' h3.2.1) ?_⟩) h2; rw [Array.setIfInBounds_comm _ _ hji]; exact h3.2.2
theorem x_pure {i : Nat} {o : Oper} {dst : Option Tmp} (hd : o.dst = dst) {v : Value} {k : Nat} {l : Array Bool} {a : Act} {w : World} (hi : ops[i]? = some o) (hs : Region.noSelect ops = true) (hf : Region.free md ops l i = true) (hr : (Region.ready md ops l).contains i = true)
 (his : (!(i == s)) = true) (hQ : ∀ c a w, Q (.panic c) (a.put o.dst v) w → Q (.panic c) a w) (hy : YieldsIf P ops (fun _ => True) o v a) (hX : l.getD s true = false → X w)
 (h : wpAnyX P md ops Q s X k (l.setIfInBounds i true) (a.put dst v) w) : wpAnyX P md ops Q s X (k + 1) l a w := by
 subst hd; simp only [Bool.not_eq_true', beq_eq_false_iff_ne] at his; exact x_purel hi (Region.noSelect_spec hs) hQ his k l a w (Region.free_spec hi hf) (by simpa using hr) hy hX h
theorem x_all {rs : List Nat} {k : Nat} {l : Array Bool} {a : Act} {w : World} (hr : Region.ready md ops l = rs) (hne : rs ≠ [])
 (h : ∀ i ∈ rs, wpOp P ops Q i (fun a' w' => ((l.setIfInBounds i true).getD s true = false → X w') ∧ wpAnyX P md ops Q s X k (l.setIfInBounds i true) a' w') a w) : wpAnyX P md ops Q s X (k + 1) l a w :=
 ⟨fun h0 => absurd (hr ▸ h0) hne, hr ▸ h⟩
theorem x_done {k : Nat} {l : Array Bool} {a : Act} {w : World} (hr : Region.ready md ops l = []) (h : Q .normal a w) : wpAnyX P md ops Q s X k l a w := by
 cases k with
 | zero => exact ⟨hr, h⟩
 | succ k => exact ⟨fun _ => h, by rw [hr]; simp⟩
theorem x_one {i : Nat} {o : Oper} {k : Nat} {l : Array Bool} {a : Act} {w : World} (hi : ops[i]? = some o) (hr : Region.ready md ops l = [i]) (hw : Region.wanted o (yielded ops a.tmps) = true)
 (h : o.wp P a w (fun a' w' => ((l.setIfInBounds i true).getD s true = false → X w') ∧ wpAnyX P md ops Q s X k (l.setIfInBounds i true) a' w') Q) : wpAnyX P md ops Q s X (k + 1) l a w := by
 refine x_all hr (by simp) (fun j hj => ?_); rw [List.mem_singleton.1 hj]; unfold wpOp; simp only [hi, hw, if_true]; exact .inl h
theorem x_value {i : Nat} {o : Oper} {dst : Option Tmp} (hd : o.dst = dst) {k : Nat} {l : Array Bool} {a : Act} {w w' : World} {v : Value} (hi : ops[i]? = some o) (hr : Region.ready md ops l = [i]) (hw : Region.wanted o (yielded ops a.tmps) = true)
 (hrun : (execOp a.eval o).run P w = .ok (.value v) w') (hX : (l.setIfInBounds i true).getD s true = false → X w') (h : wpAnyX P md ops Q s X k (l.setIfInBounds i true) (a.put dst v) w') : wpAnyX P md ops Q s X (k + 1) l a w := by
 subst hd; refine x_one hi hr hw ?_; unfold Oper.wp; rw [hrun, Oper.upon_value]; exact ⟨hX, h⟩
theorem x_skip {i : Nat} {o : Oper} {dst : Option Tmp} (hd : o.dst = dst) {k : Nat} {l : Array Bool} {a : Act} {w w' : World} (hi : ops[i]? = some o) (hr : Region.ready md ops l = [i]) (hw : Region.wanted o (yielded ops a.tmps) = true)
 (hrun : (execOp a.eval o).run P w = .ok .skip w') (hX : (l.setIfInBounds i true).getD s true = false → X w') (h : wpAnyX P md ops Q s X k (l.setIfInBounds i true) (a.put dst undef) w') : wpAnyX P md ops Q s X (k + 1) l a w := by
 subst hd; refine x_one hi hr hw ?_; unfold Oper.wp; rw [hrun, Oper.upon_skip]; exact ⟨hX, h⟩
/-- the operation o ends in a value that meets R -/
def EndsV (P : Program) (o : Oper) (a : Act) (w : World) (R : Value → World → Prop) : Prop := ∃ v w', (execOp a.eval o).run P w = .ok (.value v) w' ∧ R v w'
theorem EndsV.op {i : Nat} {o : Oper} {a : Act} {w : World} {K : Act → World → Prop} {R : Value → World → Prop} (hi : ops[i]? = some o) (hw : Region.wanted o (yielded ops a.tmps) = true) (h : EndsV P o a w R) (hR : ∀ v w', R v w' → K (a.put o.dst v) w') : wpOp P ops Q i K a w := by
 unfold wpOp; simp only [hi, hw, if_true]; refine .inl ?_; unfold Oper.wp; obtain ⟨v, w', hrun, hz⟩ := h; rw [hrun, Oper.upon_value]; exact hR v w' hz
/-- two operations that give a value, either first -/
theorem x_two {i j : Nat} {oi oj : Oper} {di dj : Option Tmp} (hdi : oi.dst = di) (hdj : oj.dst = dj) {k : Nat} {l : Array Bool} {a : Act} {w : World} (hi : ops[i]? = some oi) (hj : ops[j]? = some oj) (hr : Region.ready md ops l = [i, j]) (hwi : Region.wanted oi (yielded ops a.tmps) = true) (hwj : Region.wanted oj (yielded ops a.tmps) = true)
 (h1 : EndsV P oi a w (fun v w' => X w' ∧ wpAnyX P md ops Q s X k (l.setIfInBounds i true) (a.put di v) w')) (h2 : EndsV P oj a w (fun v w' => X w' ∧ wpAnyX P md ops Q s X k (l.setIfInBounds j true) (a.put dj v) w')) : wpAnyX P md ops Q s X (k + 1) l a w := by
 subst hdi hdj; refine x_all hr (by simp) (fun q hq => ?_); rcases List.mem_cons.1 hq with rfl | hq
 · exact h1.op hi hwi (fun v w' h => ⟨fun _ => h.1, h.2⟩)
 · rw [List.mem_singleton.1 hq]; exact h2.op hj hwj (fun v w' h => ⟨fun _ => h.1, h.2⟩)
end
end Go.Proofs.YtocekhckmpkbmaaGreat
namespace Go.Proofs.YtocekhckmpkbmaaGreat
open Go.RowKit
/-- The writer at block g has laid the bytes l; they stand in block o, if there is one. -/
def Wr (w : World) (g : Nat) (o : Option Nat) (l : List UInt8) : Prop :=
 ∃ q c, RowV 109 w g [.slice q l.length c] ∧ Own w (g + 1) (.slice q l.length c) l ∧ q.map (·.block) = o
/-- worlds between which just the block g, the block o and new ones changed; the bytes stand in o', which is o or new -/
structure WStep (w w' : World) (g : Nat) (o o' : Option Nat) : Prop where
 os : w'.os = w.os
 tape : w'.tape = w.tape
 output : w'.output = w.output
 size : w.heap.size ≤ w'.heap.size
 block : ∀ k, k < w.heap.size → k ≠ g → o ≠ some k → w'.heap[k]? = w.heap[k]?
 at_ : o' = o ∨ ∃ k, o' = some k ∧ w.heap.size ≤ k
theorem WStep.refl (w : World) (g : Nat) (o : Option Nat) : WStep w w g o o := ⟨rfl, rfl, rfl, Nat.le_refl _, fun _ _ _ _ => rfl, .inl rfl⟩
theorem WStep.trans {a b c : World} {g : Nat} {o o1 o2 : Option Nat} (h : WStep a b g o o1) (k : WStep b c g o1 o2) : WStep a c g o o2 := by
 refine ⟨k.os.trans h.os, k.tape.trans h.tape, k.output.trans h.output, Nat.le_trans h.size k.size, fun j hj hg ho => ?_, ?_⟩
 · refine (k.block j (Nat.lt_of_lt_of_le hj h.size) hg ?_).trans (h.block j hj hg ho); rcases h.at_ with e | ⟨x, e, hx⟩
   · rw [e]; exact ho
   · rw [e]; intro e2; cases e2; omega
 · rcases k.at_ with e | ⟨x, e, hx⟩
   · rw [e]; exact h.at_
   · exact .inr ⟨x, e, Nat.le_trans h.size hx⟩
theorem WStep.of_below {w w' : World} {g : Nat} {o : Option Nat} (h : Below w.heap.size w w') : WStep w w' g o o :=
 ⟨h.os, h.tape, h.output, h.size, fun k hk _ _ => h.block k hk, .inl rfl⟩
theorem WStep.below {B : Nat} {w w' : World} {g : Nat} {o o' : Option Nat} (h : WStep w w' g o o') (hB : B ≤ w.heap.size) (hg : B ≤ g) (ho : ∀ k, o = some k → B ≤ k) : Below B w w' :=
 ⟨h.os, h.tape, h.output, h.size, fun k hk => h.block k (by omega) (by omega) (fun e => by have := ho k e; omega)⟩
theorem WStep.row {T : TypeId} {w w' : World} {g b : Nat} {o o' : Option Nat} {cs : List Value} (h : WStep w w' g o o') (hr : RowV T w b cs) (hg : b ≠ g) (ho : o ≠ some b) : RowV T w' b cs := hr.block (h.block b hr.lt hg ho)
theorem Boxed.wstep {w w' : World} {g b : Nat} {o o' : Option Nat} {vs : List Value} (h : Boxed w b vs) (k : WStep w w' g o o') (hb : b < w.heap.size) (hg : b ≠ g) (ho : o ≠ some b) : Boxed w' b vs := fun j x hj => by
 have e : ((⟨b, 0, none⟩ : Addr).add j).block = b := by unfold Addr.add; split <;> rfl
 rw [World.cell?_of_block (w := w) (by rw [e]; exact k.block b hb hg ho)]; exact h j x hj
theorem Wr.far {w : World} {g : Nat} {o : Option Nat} {l : List UInt8} (h : Wr w g o l) : ∀ k, o = some k → g < k ∧ k < w.heap.size := by
 obtain ⟨q, c, hr, ho, rfl⟩ := h; intro k hk; cases q with
 | none => cases hk
 | some a =>
   have hk : a.block = k := by simpa using hk
   have := ho.holds.2.2 a rfl; omega
theorem Wr.lt {w : World} {g : Nat} {o : Option Nat} {l : List UInt8} (h : Wr w g o l) : g < w.heap.size := by
 obtain ⟨q, c, hr, _⟩ := h; exact hr.lt
theorem Wr.below {w w' : World} {g : Nat} {o : Option Nat} {l : List UInt8} (h : Wr w g o l) (hb : Below w.heap.size w w') : Wr w' g o l := by
 obtain ⟨q, c, hr, ho, e⟩ := h; exact ⟨q, c, hr.below hb, ho.below hb, e⟩
theorem Wr.made {w w' : World} (h : w.alloc (.cells #[.slice none 0 0] 109) = w') : Wr w' w.heap.size none [] := by
 subst h; exact ⟨none, 0, heap_alloc_new w _, ⟨rfl, .inl ⟨rfl, rfl⟩⟩, rfl⟩
theorem be_mod : ∀ (j k x : Nat), (be (j + k) x).drop j = be k x
 | 0, k, x => by rw [Nat.zero_add]; rfl
 | j + 1, k, x => by rw [show j + 1 + k = (j + k) + 1 by omega, be_cons, List.drop_succ_cons]; exact be_mod j k x
theorem be_tail {k : Nat} (hk : k ≤ 8) (x : Nat) : (be 8 x).drop (8 - k) = be k x := by
 have h := be_mod (8 - k) k x
 rwa [show 8 - k + k = 8 by omega] at h
def encNums (k : Nat) (xs : List Int) : List UInt8 := xs.flatMap fun x => be k x.toNat
theorem encNums_step {xs : List Int} {k i : Nat} {x : Int} (h : xs[i]? = some x) : encNums k (xs.take (i + 1)) = encNums k (xs.take i) ++ be k x.toNat := by
 unfold encNums; rw [List.take_add_one, h, List.flatMap_append]; simp
theorem encNums_len (k : Nat) (xs : List Int) : (encNums k xs).length = k * xs.length := by
 induction xs with
 | nil => simp [encNums]
 | cons a r ih =>
   have e : encNums k (a :: r) = be k a.toNat ++ encNums k r := by simp [encNums]
   rw [e, List.length_append, length_be, ih, List.length_cons, Nat.mul_add]; omega
theorem slice_tail8 (p : Option Addr) (n c k : Nat) (hk : k ≤ n) (u : World) :
 (Instr.slice 36 (.slice p n c) (some (.int .i64 (k : Int))) none none).run Tryz.prog u = .ok (.slice (tl p c k) (n - k) (c - k)) u := by
 have h := run_slice_l (P := Tryz.prog) u 36 p n c (by kernel_rfl) .i64 (k : Int) (by omega) (by omega); rw [h, show (sizeOf (Tryz.prog.elem 36)).run Tryz.prog u = .ok 1 u by kernel_rfl]; simp only [Result.andThen, sliced, Int.toNat_natCast, Nat.mul_one]; rfl
/-- behind a void call on a writer -/
def WrPost (w : World) (g : Nat) (o : Option Nat) (l : List UInt8) (e : Ending) (w' : World) : Prop :=
 ∃ o', e = .returned (.tuple #[]) ∧ Wr w' g o' l ∧ WStep w w' g o o'
/-- bytes are laid behind those that a writer has -/
theorem wr_app {w w1 w2 : World} {g : Nat} {q q' : Option Addr} {c c' m : Nat} {l k : List UInt8} (hr : RowV 109 w g [.slice q l.length c]) (ho : Own w (g + 1) (.slice q l.length c) l) (hm : k.length = m)
 (ho1 : Own w1 (g + 1) (.slice q' (l.length + m) c') (l ++ k)) (hg1 : w.grownBy w1 (blockOf q)) (hat : q'.map (·.block) = q.map (·.block) ∨ q'.map (·.block) = some w.heap.size)
 (h2 : w1.setCell ⟨g, 0, none⟩ (.slice q' (l.length + m) c') = w2) : Wr w2 g (q'.map (·.block)) (l ++ k) ∧ WStep w w2 g (q.map (·.block)) (q'.map (·.block)) := by
 have hfar : ∀ a, q = some a → g + 1 ≤ a.block ∧ a.block < w.heap.size := ho.holds.2.2; have hfar1 : ∀ a, q' = some a → g + 1 ≤ a.block ∧ a.block < w1.heap.size := ho1.holds.2.2
 have hr1 : RowV 109 w1 g [.slice q l.length c] := hr.block (hg1.block g hr.lt (fun e => by
  cases q with
  | none => cases e
  | some a => have := hfar a rfl; simp [blockOf] at e; omega))
 have hr2 := hr1.set 0 (.slice q' (l.length + m) c'); have hs := setCell_grown w1 g 0 (.slice q' (l.length + m) c'); rw [h2] at hr2 hs; have hlen : (l ++ k).length = l.length + m := by rw [List.length_append, hm]
 refine ⟨⟨q', c', by rw [hlen]; exact hr2, by rw [hlen]; exact ho1.kept (fun a ha => hs.block _ (hfar1 a ha).2 (fun e => by have := (hfar1 a ha).1; simp at e; omega)), rfl⟩, ⟨hs.os.trans hg1.os, hs.tape.trans hg1.tape, hs.output.trans hg1.output, Nat.le_trans hg1.size hs.size, fun j hj hjg hjo => ?_, ?_⟩⟩
 · refine (hs.block j (Nat.lt_of_lt_of_le hj hg1.size) (by simpa using hjg)).trans (hg1.block j hj (fun e => hjo (by rw [e]; rfl)))
 · rcases hat with e | e
   · exact .inl e
   · exact .inr ⟨_, e, Nat.le_refl _⟩
theorem run_append_bytes_at {w : World} {base : Nat} {q0 q : Option Addr} {n0 c0 m d : Nat} {l k : List UInt8} (ty : TypeId) (hown : Own w base (.slice q0 n0 c0) l) (hk : Lib.HoldsBytes w (.slice q m d) k) (hbig : n0 + m ≤ 1099511627776) (hbase : base ≤ w.heap.size) :
 ∃ q' c' w', (Builtin.append_ #[36, 36] ty #[.slice q0 n0 c0, .slice q m d]).run Tryz.prog w = .ok (.slice q' (n0 + m) c') w' ∧ Own w' base (.slice q' (n0 + m) c') (l ++ k) ∧ w.grownBy w' (blockOf q0) ∧ (q'.map (·.block) = q0.map (·.block) ∨ q'.map (·.block) = some w.heap.size) := by
 have e0 := holds_len hown.holds.1; have em := holds_len hk; obtain ⟨i0, hi, hz0, hz1, hz2⟩ := info_parts info5; obtain ⟨q1, cap, he, h1, h2⟩ := hk; cases he; cases q with
 | none =>
   have hk0 := h1 rfl; subst hk0; simp only [List.length_nil, Nat.add_zero, List.append_nil]; refine ⟨q0, c0, w, ?_, hown, ⟨rfl, rfl, rfl, Nat.le_refl _, fun _ _ _ => rfl⟩, .inl rfl⟩; cases q0 with
   | none =>
     obtain ⟨_, ⟨he, h0⟩ | ⟨g, cap, cur, he, _⟩⟩ := hown
     · cases he; simp [Builtin.append_, run_underlying Tryz.underlying36, sizeOf, typeInfo, hi, Builtin.lenOf, Builtin.firstCells]
     · cases he
   | some a =>
     obtain ⟨_, ⟨he, h0⟩ | ⟨g, cap, cur, he, hg, hh, hle, _⟩⟩ := hown
     · cases he
     · cases he; have h := run_append_room_src (P := Tryz.prog) w 36 36 ty 5 i0 Tryz.underlying36 hi g 0 _ _ (.slice none 0 d) 0 [] (Src.ofNil w Tryz.underlying36 d) (by omega) (by intro j hj; simp at hj) (by intro j hj; simp at hj); simpa [World.setCells] using h
 | some a =>
   subst e0
   obtain ⟨v', w', hr, hown', hg, _, hat⟩ := run_append_own_at (P := Tryz.prog) w base 36 ty 5 i0 (.int .u8 0) 1 1 Tryz.underlying36 hi hz0 hz1 hz2 rfl (by decide) _ l.length (vals l) hown a k.length d (vals k)
    (by rw [length_vals, Nat.mul_one])
    (fun j u hj => by obtain ⟨x, hx, rfl⟩ := vals_get hj; exact h2 a rfl j x hx) (one_vals k) (by unfold maxLen; omega) (by omega) hbase
   have hown2 : Own w' base v' (l ++ k) := by unfold Own; rw [List.length_append, vals_append]; exact hown'
   obtain ⟨q', c', rfl⟩ := hown2.shape; rw [List.length_append] at hr hown2; exact ⟨q', c', w', hr, hown2, by cases q0 <;> exact hg, by cases q0 <;> cases q' <;> exact hat⟩
end Go.Proofs.YtocekhckmpkbmaaGreat
namespace Go.Proofs.YtocekhckmpkbmaaGreat
open Go.RowKit
theorem table_any (n : Int) (w : World) : Calls Tryz.prog 109 #[.int .i64 n] w (fun e w' => e = .returned (.bool (tabB n)) ∧ w = w') := by
 by_cases h0 : 0 ≤ n
 · have d0 : decide (0 ≤ n) = true := decide_eq_true h0
   by_cases h3 : n < 3
   · have d1 : decide (n < 3) = true := decide_eq_true h3; have e : tabB n = true := by unfold tabB; rw [d0, d1]; rfl
     rw [e]; clear e h0 h3
     go_enter Tryz.func109, Tryz.ntmps109
     go_wp2; go_ret; exact ⟨rfl, rfl⟩
   · have d1 : decide (n < 3) = false := decide_eq_false h3; have e : tabB n = false := by unfold tabB; rw [d0, d1]; rfl
     rw [e]; clear e h0 h3
     go_enter Tryz.func109, Tryz.ntmps109
     go_wp2; go_ret; exact ⟨rfl, rfl⟩
 · have d0 : decide (0 ≤ n) = false := decide_eq_false h0; have e : tabB n = false := by unfold tabB; rw [d0]; rfl
   rw [e]; clear e h0
   go_enter Tryz.func109, Tryz.ntmps109
   go_wp2; go_ret; exact ⟨rfl, rfl⟩
def ordK (k : KeyD) : Int := k.t * 65536 + k.id
theorem order_any (t id : Int) (w : World) (h0 : 0 ≤ t) (h3 : t < 3) (i0 : 0 ≤ id) (i1 : id < 65536) :
 Calls Tryz.prog 111 #[.agg #[.int .i64 t, .int .u16 id]] w (fun e w' => e = .returned (.int .i64 (ordK ⟨t, id⟩)) ∧ Below w.heap.size w w') := by
 obtain ⟨W, hW⟩ : ∃ W, w.alloc (.cells #[.int .i64 t, .int .u16 id] 66) = W := ⟨_, rfl⟩; have hbx := lh (one_box hW); have c0 := hbx.out.2.1.cell 0 rfl; have c1 := hbx.out.2.1.cell 1 rfl
 go_enter Tryz.func111, Tryz.ntmps111
 go_wp2; clear hW; go_ret; exact ⟨rfl, hbx.out.1⟩
def okRow (r : RowD) : Bool := tabB r.key.t && decide (r.note.size ≤ 8)
theorem okRow_iff {r : RowD} : okRow r = true ↔ chkRowC r = 0 := by
 unfold okRow chkRowC; rw [Bool.and_eq_true, decide_eq_true_eq]; constructor
 · intro h; rw [if_pos h]
 · intro h
   by_cases hh : tabB r.key.t = true ∧ r.note.size ≤ 8
   · exact hh
   · rw [if_neg hh] at h; cases h
theorem rightRow_any (t id v : Int) (s : ByteArray) (w : World) :
 Calls Tryz.prog 86 #[.agg #[.int .i64 t, .int .u16 id, .int .i64 v, .string s]] w (fun e w' => e = .returned (.bool (okRow ⟨⟨t, id⟩, v, s⟩)) ∧ Below w.heap.size w w') := by
 obtain ⟨W, hW⟩ : ∃ W, w.alloc (.cells #[.int .i64 t, .int .u16 id, .int .i64 v, .string s] 68) = W := ⟨_, rfl⟩; have hbx := lh (one_box hW); have c0 := hbx.out.2.1.cell 0 rfl; have c2 := hbx.out.2.1.cell 3 rfl; have htb := lh (fun u => table_any t u); obtain ⟨b, hb⟩ : ∃ b, tabB t = b := ⟨_, rfl⟩; rw [hb] at htb; have e : okRow ⟨⟨t, id⟩, v, s⟩ = (b && decide (s.size ≤ 8)) := by unfold okRow; rw [hb]
 rw [e]; clear e hb; cases b with
 | true =>
   by_cases h8 : s.size ≤ 8
   · have d : decide (s.size ≤ 8) = true := decide_eq_true h8; have d2 : decide ((s.size : Int) ≤ 8) = true := decide_eq_true (by omega); rw [d]
     go_enter Tryz.func86, Tryz.ntmps86
     go_wp2_with fail
     clear hW; refine (htb.out _).mono ?_; rintro e w1 ⟨rfl, rfl⟩; go_wp2; go_ret; exact ⟨rfl, hbx.out.1⟩
   · have d : decide (s.size ≤ 8) = false := decide_eq_false h8; have d2 : decide ((s.size : Int) ≤ 8) = false := decide_eq_false (by omega); rw [d]
     go_enter Tryz.func86, Tryz.ntmps86
     go_wp2_with fail
     clear hW; refine (htb.out _).mono ?_; rintro e w1 ⟨rfl, rfl⟩; go_wp2; go_ret; exact ⟨rfl, hbx.out.1⟩
 | false =>
   go_enter Tryz.func86, Tryz.ntmps86
   go_wp2_with fail
   clear hW; refine (htb.out _).mono ?_; rintro e w1 ⟨rfl, rfl⟩; go_wp2; go_ret; exact ⟨rfl, hbx.out.1⟩
theorem key_vals {t id : Int} (h0 : 0 ≤ t) (h3 : t < 256) (i0 : 0 ≤ id) (i1 : id < 65536) : #[Value.int .u8 t, .int .u8 (id / 256), .int .u8 (id % 256)] = (vals (encKey ⟨t, id⟩)).toArray := by
 have e1 := ofNat_int h0 h3; have e2 : ((UInt8.ofNat (id.toNat / 256)).toNat : Int) = id / 256 := by simp; omega
 have e3 : ((UInt8.ofNat id.toNat).toNat : Int) = id % 256 := by simp; omega
 show _ = (vals [UInt8.ofNat t.toNat, UInt8.ofNat (id.toNat / 256), UInt8.ofNat id.toNat]).toArray; unfold vals; simp only [List.map_cons, List.map_nil, e1, e2, e3]
theorem row_built (w : World) (l : List UInt8) (cs : Array Value) (h : cs = (vals l).toArray) : Row 5 (w.alloc (.cells cs 5)) w.heap.size l := by
 subst h; exact heap_alloc_new _ _
theorem key_doc (t id : Int) (w : World) (h0 : 0 ≤ t) (h3 : t < 3) (i0 : 0 ≤ id) (i1 : id < 65536) :
 Calls Tryz.prog 71 #[.agg #[.int .i64 t, .int .u16 id]] w (BytesPost w 3 (encKey ⟨t, id⟩)) := by
 obtain ⟨W, hW⟩ : ∃ W, w.alloc (.cells #[.int .i64 t, .int .u16 id] 66) = W := ⟨_, rfl⟩; have hbx := lh (one_box hW); have c0 := hbx.out.2.1.cell 0 rfl; have c1 := hbx.out.2.1.cell 1 rfl
 go_enter Tryz.func71, Tryz.ntmps71
 go_wp2; clear hW; go_ret; have hr := row_built W (encKey ⟨t, id⟩) #[.int .u8 t, .int .u8 (id / 256), .int .u8 (id % 256)] (key_vals h0 (by omega) i0 i1); refine ⟨some ⟨W.heap.size, 0, none⟩, 3, rfl, ?_, hbx.out.1.alloc hbx.out.1.size _⟩; have h := Row.own (B := w.heap.size) hr hbx.out.1.size (by rw [encKey_len]; unfold maxLen; decide); rw [encKey_len] at h; exact h
theorem run_append_oper2 {P : Program} {o : Oper} {a : Act} {w w' : World} {sl x : Operand} {t u : TypeId} {v1 v2 v : Value} (ho : o.op = .call { callee := .builtin .append, args := #[sl, x], argTypes := #[t, u] }) (hs : a.eval sl = v1) (hx : a.eval x = v2)
 (h : (Builtin.append_ #[t, u] o.type #[v1, v2]).run P w = .ok v w') : (execOp a.eval o).run P w = .ok (.value v) w' := by
 unfold execOp; simp only [ho, resolve, invoke, builtin, Sem.run_bind, Sem.run_pure, Result.andThen_ok, List.map_toArray, List.map_cons, List.map_nil, hs, hx, h]
def RowRel (W wr : World) (k : KeyD) (u j : Nat) (q : Option Addr) (c : Nat) : Prop := Below W.heap.size W wr ∧ Own wr W.heap.size (.slice q (3 + j) c) (encKey k ++ be j (u / 256 ^ (8 - j)))
theorem RowRel.next {W wr w1 w2 : World} {k : KeyD} {u j : Nat} {q q' : Option Addr} {c c' x : Nat} (h : RowRel W wr k u j q c) (hj : j < 8) (hx : x = u / 256 ^ (7 - j)) (hb : Below wr.heap.size wr w1)
 (ho : Own w2 W.heap.size (.slice q' (3 + j + 1) c') ((encKey k ++ be j (u / 256 ^ (8 - j))) ++ [UInt8.ofNat x])) (hg : w1.grownBy w2 (blockOf q)) : RowRel W w2 k u (j + 1) q' c' := by
 subst hx; refine ⟨(h.2.below hb).up hg (below_step hb h.1) (Nat.le_refl _), ?_⟩
 have e : u / 256 ^ (8 - j) = u / 256 ^ (7 - j) / 256 := by rw [Nat.div_div_eq_div_mul, show 8 - j = (7 - j) + 1 by omega, Nat.pow_succ]
 rw [e, List.append_assoc] at ho; rw [show 8 - (j + 1) = 7 - j by omega]; exact ho
set_option maxRecDepth 100000 in
set_option maxHeartbeats 4000000 in
theorem row_doc (t id v : Int) (s : ByteArray) (w : World) (h0 : 0 ≤ t) (h3 : t < 3) (i0 : 0 ≤ id) (i1 : id < 65536) (h8 : s.size ≤ 8) :
 Calls Tryz.prog 70 #[.agg #[.int .i64 t, .int .u16 id, .int .i64 v, .string s]] w (BytesPost w (12 + s.size) (encRow ⟨⟨t, id⟩, v, s⟩)) := by
 obtain ⟨W, hW⟩ : ∃ W, w.alloc (.cells #[.int .i64 t, .int .u16 id, .int .i64 v, .string s] 68) = W := ⟨_, rfl⟩; have hbx := lh (one_box hW); have hs3 := sizeKey t id
 have k0 : Hid (∀ j x, ([.int .i64 t, .int .u16 id] : List Value)[j]? = some x → W.cell? ((⟨w.heap.size, 0, none⟩ : Addr).add j) = some x) := fun j x hj => hbx.out.2.1 j x (by
  match j, hj with
  | 0, hj => exact hj
  | 1, hj => exact hj
  | j + 2, hj => simp at hj)
 have hkd := lh (fun u => key_doc t id u h0 h3 i0 i1); have hu := u64_wrap v
 go_enter Tryz.func70, Tryz.ntmps70
 go_wp2_with (first
  | (with_reducible refine wpList_load_at rfl 66 (.tmp 5) rfl Tryz.underlying66 rfl hs3 rfl k0.out ?_))
 clear hW; refine (hkd.out _).mono ?_; rintro e w1 ⟨q1, c1, rfl, ho1, hb1⟩
 have hr0 : Hid (RowRel W w1 ⟨t, id⟩ (u64 v) 0 q1 c1) := ⟨hb1, by
  rw [show be 0 (u64 v / 256 ^ (8 - 0)) = [] from rfl, List.append_nil]; exact ho1⟩
 clear ho1 hb1 hkd; go_wp2
 go_loopw [3, 4] (fun v3 v4 wr => ∃ (m : Nat) (i : Int) (q : Option Addr) (c : Nat), m ≤ 8 ∧ i = m - 1 ∧ v4 = .int .i64 i ∧ v3 = .slice q (3 + (8 - m)) c ∧ Hid (RowRel W wr ⟨t, id⟩ (u64 v) (8 - m) q c)) (fun _ v4 _ => (RowKit.intOf v4 + 1).toNat)
 case atStart => exact ⟨8, 7, q1, c1, Nat.le_refl _, rfl, rfl, rfl, hr0⟩
 case round =>
  obtain ⟨m, i, q, c, hm, hi, rfl, rfl, hr⟩ := hrel; have cv := (hbx.out.2.1.below hr.out.1 (Nat.le_refl _)).cell 2 rfl; cases m with
  | succ m =>
    obtain rfl : i = (m : Int) := by omega
    clear hi; have hm8 : (m : Int) < 8 := by omega
    have hby : Hid (Row 5 (wr.alloc (.cells #[.int .u8 ((u64 v : Int) / 2 ^ (8 * m) % 256)] 5)) wr.heap.size [UInt8.ofNat (u64 v / 256 ^ m)]) := by rw [digit]; exact made1 wr _
    obtain ⟨W2, hW2⟩ : ∃ W2, wr.alloc (.cells #[.int .u8 ((u64 v : Int) / 2 ^ (8 * m) % 256)] 5) = W2 := ⟨_, rfl⟩; have hby2 : Hid (Row 5 W2 wr.heap.size [UInt8.ofNat (u64 v / 256 ^ m)]) := by rw [← hW2]; exact hby.out
    have hb2 : Hid (Below wr.heap.size wr W2) := by rw [← hW2]; exact (Below.refl _ _).alloc (Nat.le_refl _) _
    have hown := lh (hr.out.2.below hb2.out); have hsz := lh (Nat.le_trans hr.out.1.size hb2.out.size); have hbig : Hid (3 + (8 - (m + 1)) + 1 ≤ 1099511627776) := by show _ ≤ _; omega
    clear hby; have hms : Hid (8 - (m + 1) < 8 ∧ m = 7 - (8 - (m + 1)) ∧ 3 + (8 - (m + 1)) + 1 = 3 + (8 - m) ∧ 8 - (m + 1) + 1 = 8 - m) := ⟨by omega, by omega, by omega, by omega⟩
    go_wp2_with (first
     | (at_builtin
        refine wpList_append_bytes rfl (.tmp 12) (.tmp 20) rfl rfl rfl hown.out (hby2.out.holds 1) hbig.out hsz.out ?_; intro q3 c3 w3 h3 hg3; have hnx := hr.out.next (x := u64 v / 256 ^ m) hms.out.1 (congrArg (fun z => u64 v / 256 ^ z) hms.out.2.1) hb2.out h3 hg3; rw [hms.out.2.2.2] at hnx; have hnx' := lh hnx
        clear h3 hg3 hnx))
    go_roundw
    case rel => exact ⟨m, (m : Int) - 1, q3, c3, by omega, rfl, rfl, by congr 1; omega, hnx'⟩
    case measure => simp [RowKit.intOf]
  | zero =>
    obtain rfl : i = -1 := by omega
    clear hi hm cv; have hro := hr.out.2; have hrb := lh hr.out.1; rw [show u64 v / 256 ^ (8 - (8 - 0)) = u64 v by simp] at hro; have hro' := lh hro; have hcs := (hbx.out.2.1.below hr.out.1 (Nat.le_refl _)).cell 3 rfl; have h8' : (s.size : Int) < 256 := by omega
    have hwp : IntKind.u8.wrap (s.size : Int) = s.size := by show (s.size : Int) % 256 = s.size; omega
    clear hr hro hu; go_wp2; refine wp_region_held (S := fun u => Below W.heap.size W u) (by kernel_rfl) ?_; change wpAnyH _ _ _ _ _ _ _ _ (World.drew wr); have hS0 : Below W.heap.size W wr.drew := below_step (below_drew wr) hrb.out; refine held_tk (i := 0) (dst := some 22) rfl rfl (y_move (.tmp 3) rfl rfl rfl) hS0 ?_; go_frame; refine tg 1 23 (.pointer (some ⟨w.heap.size, 3, none⟩)) hS0 ?_; go_frame; refine held_tk (i := 2) (dst := some 24) (v := .string s) rfl rfl (.inl ⟨rfl, fun u hu => by have c9 := (hbx.out.2.1.below hu (Nat.le_refl _)).cell 3 rfl; go_simp⟩) hS0 ?_; go_frame; refine tg 3 25 (.int .i64 s.size) hS0 ?_; go_frame; refine tg 4 26 (.int .u8 s.size) hS0 ?_; go_frame; refine tg 7 29 (.pointer (some ⟨w.heap.size, 3, none⟩)) hS0 ?_; go_frame; refine held_tk (i := 8) (dst := some 30) (v := .string s) rfl rfl (.inl ⟨rfl, fun u hu => by have c9 := (hbx.out.2.1.below hu (Nat.le_refl _)).cell 3 rfl; go_simp⟩) hS0 ?_
    go_frame; have hm1 := made1 wr.drew (UInt8.ofNat s.size); rw [show ((UInt8.ofNat s.size).toNat : Int) = s.size by simp; omega] at hm1; have hb5 : Below wr.drew.heap.size wr.drew (wr.drew.alloc (.cells #[.int .u8 s.size] 5)) := (Below.refl _ _).alloc (Nat.le_refl _) _; obtain ⟨W5, hW5⟩ : ∃ W5, wr.drew.alloc (.cells #[.int .u8 s.size] 5) = W5 := ⟨_, rfl⟩; rw [hW5] at hm1 hb5; have hS1 : Below W.heap.size W W5 := below_step hb5 hS0; refine held_value (i := 5) (dst := some 27) (v := .slice (some ⟨wr.drew.heap.size, 0, none⟩) 1 1) (w' := W5) rfl rfl (by kernel_rfl) rfl (by rw [← hW5]; go_simp) hS1 ?_; go_frame; clear hW5; have hro5 : Own W5 W.heap.size (.slice q (3 + (8 - 0)) c) (encKey ⟨t, id⟩ ++ be (8 - 0) (u64 v)) := (hro'.out.below (below_drew wr)).below hb5; obtain ⟨q6, c6, w6, hrun, h6, hg6⟩ := run_append_bytes (m := 1) 36 hro5 (hm1.holds 1) (by omega) hS1.size; have hS6 : Below W.heap.size W w6 := hro5.up hg6 hS1 (Nat.le_refl _)
    refine held_value (i := 6) (dst := some 28) (v := .slice q6 12 c6) (w' := w6) rfl rfl (by kernel_rfl) rfl (run_append_oper (sl := .tmp 22) (x := .tmp 27) rfl rfl rfl hrun) hS6 ?_; go_frame; obtain ⟨i0', hi', hz0, hz1, hz2⟩ := info_parts info5; obtain ⟨v7, w7, hrun7, h7, hg7, _⟩ := Lib.run_append_own_string (P := Tryz.prog) w6 W.heap.size 36 9 36 5 i0' Tryz.underlying36 Tryz.underlying9 hi' hz0 hz1 hz2 (.slice q6 12 c6) 12 _ h6 s (by unfold maxLen; omega) (by omega) hS6.size; rw [strCells_vals, ← vals_append] at h7
    have hlen : (encRow ⟨⟨t, id⟩, v, s⟩).length = 12 + s.size := by unfold encRow; rw [List.length_append, List.length_append, List.length_append, encKey_len, length_be, List.length_singleton, Array.length_toList]; rfl
    have hfin : Own w7 W.heap.size v7 (encRow ⟨⟨t, id⟩, v, s⟩) := by unfold Own; rw [hlen]; exact h7
    obtain ⟨q7, c7, rfl⟩ := hfin.shape; rw [hlen] at hfin; have hb7 : Below W.heap.size W w7 := h6.up (w0 := W) (by cases q6 <;> exact hg7) hS6 (Nat.le_refl _); rw [hlen] at hrun7; refine held_value (i := 9) (dst := some 31) (v := .slice q7 (12 + s.size) c7) (w' := w7) rfl rfl (by kernel_rfl) rfl (run_append_oper2 (sl := .tmp 28) (x := .tmp 30) rfl rfl rfl hrun7) hb7 ?_; go_frame; refine tg 10 2 (.slice q7 (12 + s.size) c7) hb7 ?_; go_frame; refine wpAnyH_done (by kernel_rfl) ?_ _; have hfin' := lh hfin; have hb7' := lh hb7; clear hfin hb7 hlen hrun hrun7 h6 h7 hg6 hg7 hS6 hS1 hS0 hro5 hm1 hb5; go_wp2; go_ret; exact ⟨q7, c7, rfl, hfin'.out.mono hbx.out.1.size, hbx.out.1.trans (hb7'.out.mono hbx.out.1.size)⟩
end Go.Proofs.YtocekhckmpkbmaaGreat
