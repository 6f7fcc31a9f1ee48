/- The document's Cut, Rises and Both of pages, and regions whose later store writes what others read (merged of several texts). -/
import Derived.Test.YtaiepdhmlmnggaaPFx
import Derived.Test.YtaiepdhmlmnggaaPVl
import Derived.Test.YtaiepdhmlmnggaaPLd
import Derived.Test.YtaiepdhmlmnggaaYRef

/-! A region that draws its order, of which a later store (number s) writes what others read ahead of it. Nothing of a program is claimed here. -/
namespace Go.Proofs.Ytaiepdhmlmnggaa
open Go.RowKit

section
variable {P : Program} {ops : Array Oper} {Q : Exit → Act → World → Prop} {md : Region.Mode} {s : Nat} {X : World → Prop}

/-- whatever order is picked from here on; X holds behind each operation as long as the store has not come up -/
def wpAnyX (P : Program) (md : Region.Mode) (ops : Array Oper) (Q : Exit → Act → World → Prop) (s : Nat) (X : World → Prop) : Nat → Array Bool → Act → World → Prop
  | 0, l, a, w => Region.ready md ops l = [] ∧ Q .normal a w
  | k + 1, l, a, w => (Region.ready md ops l = [] → Q .normal a w) ∧ ∀ i ∈ Region.ready md ops l, wpOp P ops Q i (fun a' w' => ((l.setIfInBounds i true).getD s true = false → X w') ∧ wpAnyX P md ops Q s X k (l.setIfInBounds i true) a' w') a w
theorem any_of_x : ∀ {k : Nat} {l : Array Bool} {a : Act} {w : World}, wpAnyX P md ops Q s X k l a w → wpAny P md ops Q k l a w
  | 0, _, _, _, h => h
  | _ + 1, _, _, _, h => ⟨h.1, fun i hi => wpOp_mono (fun _ _ h' => any_of_x h'.2) (h.2 i hi)⟩
theorem wp_region_x {id : Nat} {a : Act} {w : World} (hm : P.follows .mixedOrders = true) (s : Nat) (X : World → Prop) (h : wpAnyX P .any ops Q s X ops.size (Array.replicate ops.size false) a { w with drawn := w.drawn + 1 }) : (Code.region id ops true).wp P Q a w :=
  wp_region_any hm (any_of_x h)
/-- number s waits for number i -/
def edgeB (md : Region.Mode) (ops : Array Oper) (s i : Nat) : Bool := match ops[s]? with
  | some o => o.after.any (fun e => Region.binds md e && e.on == i)
  | none => false
theorem edge_not {i : Nat} {l : Array Bool} (h : edgeB md ops s i = true) (hi : i ∈ Region.ready md ops l) : s ∉ Region.ready md ops l := fun hs => by
  obtain ⟨_, os, hos, hall⟩ := mem_ready.1 hs
  unfold edgeB at h
  rw [hos] at h
  simp only at h
  obtain ⟨e, he, hb⟩ := Array.any_eq_true'.1 h
  simp only [Bool.and_eq_true, beq_iff_eq] at hb
  have h1 := hall e he hb.1
  rw [hb.2] at h1
  have h0 := (mem_ready.1 hi).1
  rcases Nat.lt_or_ge i l.size with h' | h'
  · simp [h'] at h0 h1; rw [h0] at h1; cases h1
  · simp [Array.getElem?_eq_none h'] at h1
theorem x_first {i : Nat} {oi : Oper} {v : Value} (hi : ops[i]? = some oi) (hsel : ∀ (j : Nat) (o : Oper) cs b, ops[j]? = some o → o.op ≠ .select cs b) (hQ : ∀ c a w, Q (.panic c) (a.put oi.dst v) w → Q (.panic c) a w) (hes : edgeB md ops s i = true) (his : i ≠ s) :
    ∀ (k : Nat) (l : Array Bool) (a : Act) (w : World),
      (∀ j oj, ops[j]? = some oj → j ≠ i → l.getD j true = false → (∀ e ∈ oj.after, Region.binds md e = true → e.on ≠ i) → oi.apart ops oj = true) →
      i ∈ Region.ready md ops l → YieldsIf P ops X oi v a → l.getD s true = false → X w →
      wpAnyX P md ops Q s X k (l.setIfInBounds i true) (a.put oi.dst v) w → wpAnyX P md ops Q s X (k + 1) l a w := by
  intro k
  induction k with
  | zero =>
    intro l a w _ hr hy _ hX H
    refine ⟨fun h => (by rw [h] at hr; cases hr), fun j hj => ?_⟩
    by_cases hji : j = i
    · subst hji; exact hy.wpOp hi hX ⟨fun _ => hX, H⟩
    · have := ready_mono hj hji
      rw [H.1] at this
      cases this
  | succ k ih =>
    intro l a w hfree hr hy hls hX H
    refine ⟨fun h => (by rw [h] at hr; cases hr), fun j hj => ?_⟩
    by_cases hji : j = i
    · subst hji; exact hy.wpOp hi hX ⟨fun _ => hX, H⟩
    · have hjs : j ≠ s := fun e => edge_not hes hr (by rw [← e]; exact hj)
      have h1 := H.2 j (ready_mono hj hji)
      obtain ⟨hjun, oj, hoj, hall⟩ := mem_ready.1 hj
      have hnot : ∀ e ∈ oj.after, Region.binds md e = true → e.on ≠ i := fun e he hb heq => by
        have h1 := hall e he hb
        have h0 := (mem_ready.1 hr).1
        rw [heq] at h1
        rcases Nat.lt_or_ge i l.size with h' | h'
        · simp [h'] at h0 h1; rw [h0] at h1; cases h1
        · simp [Array.getElem?_eq_none h'] at h1
      have h2 := wpOp_putIf hoj (hfree j oj hoj hji hjun hnot) (fun cs b => hsel i oi cs b hi) (fun cs b => hsel j oj cs b hoj) hQ hy h1
      have hfree' : ∀ k ok, ops[k]? = some ok → k ≠ i → (l.setIfInBounds j true).getD k true = false → (∀ e ∈ ok.after, Region.binds md e = true → e.on ≠ i) → oi.apart ops ok = true := fun k ok hk hki hun hno => by
        refine hfree k ok hk hki ?_ hno
        by_cases hjk : j = k
        · subst hjk; exact hjun
        · rw [getD_set_ne true hjk] at hun; exact hun
      have hlj : (l.setIfInBounds j true).getD s true = false := by rw [getD_set_ne true hjs]; exact hls
      have hlij : ((l.setIfInBounds i true).setIfInBounds j true).getD s true = false := by rw [getD_set_ne true hjs, getD_set_ne true his]; exact hls
      refine wpOp_mono (fun a' w' h3 => ⟨fun _ => h3.2.1 hlij, ih (l.setIfInBounds j true) a' w' hfree' (ready_mono hr (Ne.symm hji)) h3.1 hlj (h3.2.1 hlij) ?_⟩) h2
      rw [Array.setIfInBounds_comm _ _ hji]
      exact h3.2.2
theorem x_take {i : Nat} {o : Oper} {dst : Option Tmp} (hd : o.dst = dst) {v : Value} {k : Nat} {l : Array Bool} {a : Act} {w : World} (hi : ops[i]? = some o) (hs : Region.noSelect ops = true) (hf : Region.free md ops l i = true) (hr : (Region.ready md ops l).contains i = true)
    (hes : (edgeB md ops s i && !(i == s)) = true) (hls : l.getD s true = false) (hQ : ∀ c a w, Q (.panic c) (a.put o.dst v) w → Q (.panic c) a w) (hy : YieldsIf P ops X o v a) (hX : X w)
    (h : wpAnyX P md ops Q s X k (l.setIfInBounds i true) (a.put dst v) w) : wpAnyX P md ops Q s X (k + 1) l a w := by
  subst hd
  simp only [Bool.and_eq_true, Bool.not_eq_true', beq_eq_false_iff_ne] at hes
  exact x_first hi (Region.noSelect_spec hs) hQ hes.1 hes.2 k l a w (Region.free_spec hi hf) (by simpa using hr) hy hls hX h
theorem x_purel {i : Nat} {oi : Oper} {v : Value} (hi : ops[i]? = some oi) (hsel : ∀ (j : Nat) (o : Oper) cs b, ops[j]? = some o → o.op ≠ .select cs b) (hQ : ∀ c a w, Q (.panic c) (a.put oi.dst v) w → Q (.panic c) a w) (his : i ≠ s) :
    ∀ (k : Nat) (l : Array Bool) (a : Act) (w : World),
      (∀ j oj, ops[j]? = some oj → j ≠ i → l.getD j true = false → (∀ e ∈ oj.after, Region.binds md e = true → e.on ≠ i) → oi.apart ops oj = true) →
      i ∈ Region.ready md ops l → YieldsIf P ops (fun _ => True) oi v a → (l.getD s true = false → X w) →
      wpAnyX P md ops Q s X k (l.setIfInBounds i true) (a.put oi.dst v) w → wpAnyX P md ops Q s X (k + 1) l a w := by
  intro k
  induction k with
  | zero =>
    intro l a w _ hr hy hX H
    refine ⟨fun h => (by rw [h] at hr; cases hr), fun j hj => ?_⟩
    by_cases hji : j = i
    · subst hji; exact hy.wpOp hi trivial ⟨fun h => hX (by rwa [getD_set_ne true his] at h), H⟩
    · have := ready_mono hj hji
      rw [H.1] at this
      cases this
  | succ k ih =>
    intro l a w hfree hr hy hX H
    refine ⟨fun h => (by rw [h] at hr; cases hr), fun j hj => ?_⟩
    by_cases hji : j = i
    · subst hji; exact hy.wpOp hi trivial ⟨fun h => hX (by rwa [getD_set_ne true his] at h), H⟩
    · have h1 := H.2 j (ready_mono hj hji)
      obtain ⟨hjun, oj, hoj, hall⟩ := mem_ready.1 hj
      have hnot : ∀ e ∈ oj.after, Region.binds md e = true → e.on ≠ i := fun e he hb heq => by
        have h1 := hall e he hb
        have h0 := (mem_ready.1 hr).1
        rw [heq] at h1
        rcases Nat.lt_or_ge i l.size with h' | h'
        · simp [h'] at h0 h1; rw [h0] at h1; cases h1
        · simp [Array.getElem?_eq_none h'] at h1
      have h2 := wpOp_putIf hoj (hfree j oj hoj hji hjun hnot) (fun cs b => hsel i oi cs b hi) (fun cs b => hsel j oj cs b hoj) hQ hy h1
      have hfree' : ∀ k ok, ops[k]? = some ok → k ≠ i → (l.setIfInBounds j true).getD k true = false → (∀ e ∈ ok.after, Region.binds md e = true → e.on ≠ i) → oi.apart ops ok = true := fun k ok hk hki hun hno => by
        refine hfree k ok hk hki ?_ hno
        by_cases hjk : j = k
        · subst hjk; exact hjun
        · rw [getD_set_ne true hjk] at hun; exact hun
      have hcomm := Array.setIfInBounds_comm (xs := l) true true hji
      have hX2 : ∀ w', (((l.setIfInBounds i true).setIfInBounds j true).getD s true = false → X w') → (l.setIfInBounds j true).getD s true = false → X w' := fun w' h h2 => h (by rw [← Array.setIfInBounds_comm _ _ hji, getD_set_ne true his]; exact h2)
      refine wpOp_mono (fun a' w' h3 => ⟨hX2 w' h3.2.1, ih (l.setIfInBounds j true) a' w' hfree' (ready_mono hr (Ne.symm hji)) h3.1 (hX2 w' h3.2.1) ?_⟩) h2
      rw [Array.setIfInBounds_comm _ _ hji]
      exact h3.2.2
theorem x_pure {i : Nat} {o : Oper} {dst : Option Tmp} (hd : o.dst = dst) {v : Value} {k : Nat} {l : Array Bool} {a : Act} {w : World} (hi : ops[i]? = some o) (hs : Region.noSelect ops = true) (hf : Region.free md ops l i = true) (hr : (Region.ready md ops l).contains i = true)
    (his : (!(i == s)) = true) (hQ : ∀ c a w, Q (.panic c) (a.put o.dst v) w → Q (.panic c) a w) (hy : YieldsIf P ops (fun _ => True) o v a) (hX : l.getD s true = false → X w)
    (h : wpAnyX P md ops Q s X k (l.setIfInBounds i true) (a.put dst v) w) : wpAnyX P md ops Q s X (k + 1) l a w := by
  subst hd
  simp only [Bool.not_eq_true', beq_eq_false_iff_ne] at his
  exact x_purel hi (Region.noSelect_spec hs) hQ his k l a w (Region.free_spec hi hf) (by simpa using hr) hy hX h
theorem x_all {rs : List Nat} {k : Nat} {l : Array Bool} {a : Act} {w : World} (hr : Region.ready md ops l = rs) (hne : rs ≠ [])
    (h : ∀ i ∈ rs, wpOp P ops Q i (fun a' w' => ((l.setIfInBounds i true).getD s true = false → X w') ∧ wpAnyX P md ops Q s X k (l.setIfInBounds i true) a' w') a w) : wpAnyX P md ops Q s X (k + 1) l a w :=
  ⟨fun h0 => absurd (hr ▸ h0) hne, hr ▸ h⟩
theorem x_done {k : Nat} {l : Array Bool} {a : Act} {w : World} (hr : Region.ready md ops l = []) (h : Q .normal a w) : wpAnyX P md ops Q s X k l a w := by
  cases k with
  | zero => exact ⟨hr, h⟩
  | succ k => exact ⟨fun _ => h, by rw [hr]; simp⟩
theorem x_one {i : Nat} {o : Oper} {k : Nat} {l : Array Bool} {a : Act} {w : World} (hi : ops[i]? = some o) (hr : Region.ready md ops l = [i]) (hw : Region.wanted o (yielded ops a.tmps) = true)
    (h : o.wp P a w (fun a' w' => ((l.setIfInBounds i true).getD s true = false → X w') ∧ wpAnyX P md ops Q s X k (l.setIfInBounds i true) a' w') Q) : wpAnyX P md ops Q s X (k + 1) l a w := by
  refine x_all hr (by simp) (fun j hj => ?_)
  rw [List.mem_singleton.1 hj]
  unfold wpOp
  simp only [hi, hw, if_true]
  exact .inl h
theorem x_value {i : Nat} {o : Oper} {dst : Option Tmp} (hd : o.dst = dst) {k : Nat} {l : Array Bool} {a : Act} {w w' : World} {v : Value} (hi : ops[i]? = some o) (hr : Region.ready md ops l = [i]) (hw : Region.wanted o (yielded ops a.tmps) = true)
    (hrun : (execOp a.eval o).run P w = .ok (.value v) w') (hX : (l.setIfInBounds i true).getD s true = false → X w') (h : wpAnyX P md ops Q s X k (l.setIfInBounds i true) (a.put dst v) w') : wpAnyX P md ops Q s X (k + 1) l a w := by
  subst hd
  refine x_one hi hr hw ?_
  unfold Oper.wp
  rw [hrun, Oper.upon_value]
  exact ⟨hX, h⟩
theorem x_skip {i : Nat} {o : Oper} {dst : Option Tmp} (hd : o.dst = dst) {k : Nat} {l : Array Bool} {a : Act} {w w' : World} (hi : ops[i]? = some o) (hr : Region.ready md ops l = [i]) (hw : Region.wanted o (yielded ops a.tmps) = true)
    (hrun : (execOp a.eval o).run P w = .ok .skip w') (hX : (l.setIfInBounds i true).getD s true = false → X w') (h : wpAnyX P md ops Q s X k (l.setIfInBounds i true) (a.put dst undef) w') : wpAnyX P md ops Q s X (k + 1) l a w := by
  subst hd
  refine x_one hi hr hw ?_
  unfold Oper.wp
  rw [hrun, Oper.upon_skip]
  exact ⟨hX, h⟩

/-- the operation o ends in a value that meets R -/
def EndsV (P : Program) (o : Oper) (a : Act) (w : World) (R : Value → World → Prop) : Prop := ∃ v w', (execOp a.eval o).run P w = .ok (.value v) w' ∧ R v w'
theorem EndsV.op {i : Nat} {o : Oper} {a : Act} {w : World} {K : Act → World → Prop} {R : Value → World → Prop} (hi : ops[i]? = some o) (hw : Region.wanted o (yielded ops a.tmps) = true) (h : EndsV P o a w R) (hR : ∀ v w', R v w' → K (a.put o.dst v) w') : wpOp P ops Q i K a w := by
  unfold wpOp
  simp only [hi, hw, if_true]
  refine .inl ?_
  unfold Oper.wp
  obtain ⟨v, w', hrun, hz⟩ := h
  rw [hrun, Oper.upon_value]
  exact hR v w' hz
/-- two operations that give a value, either first -/
theorem x_two {i j : Nat} {oi oj : Oper} {di dj : Option Tmp} (hdi : oi.dst = di) (hdj : oj.dst = dj) {k : Nat} {l : Array Bool} {a : Act} {w : World} (hi : ops[i]? = some oi) (hj : ops[j]? = some oj) (hr : Region.ready md ops l = [i, j]) (hwi : Region.wanted oi (yielded ops a.tmps) = true) (hwj : Region.wanted oj (yielded ops a.tmps) = true)
    (h1 : EndsV P oi a w (fun v w' => X w' ∧ wpAnyX P md ops Q s X k (l.setIfInBounds i true) (a.put di v) w')) (h2 : EndsV P oj a w (fun v w' => X w' ∧ wpAnyX P md ops Q s X k (l.setIfInBounds j true) (a.put dj v) w')) : wpAnyX P md ops Q s X (k + 1) l a w := by
  subst hdi hdj
  refine x_all hr (by simp) (fun q hq => ?_)
  rcases List.mem_cons.1 hq with rfl | hq
  · exact h1.op hi hwi (fun v w' h => ⟨fun _ => h.1, h.2⟩)
  · rw [List.mem_singleton.1 hq]
    exact h2.op hj hwj (fun v w' h => ⟨fun _ => h.1, h.2⟩)
end
end Go.Proofs.Ytaiepdhmlmnggaa

/-! The document's Cut of a page: what stays, and what goes. -/
namespace Go.Proofs.Ytaiepdhmlmnggaa
open Go.RowKit

theorem no_x {b : Bool} {X : Prop} (h : b = true) : b = false → X := fun e => by rw [h] at e; cases e
theorem cell_low {B : Nat} {w w' : World} (hb : Below B w w') {a : Addr} (hlt : a.block < B) {v : Value} (h : w.cell? a = some v) : w'.cell? a = some v := by
  rw [World.cell?_of_block (w := w) (hb.block _ hlt)]; exact h
theorem run_append_op2 {P : Program} {o : Oper} {a : Act} {w w' : World} {s x : Operand} {t : TypeId} {v1 v2 v : Value} (ho : o.op = .call { callee := .builtin .append, args := #[s, x], argTypes := #[t, t] }) (hs : a.eval s = v1) (hx : a.eval x = v2)
    (h : (Builtin.append_ #[t, t] o.type #[v1, v2]).run P w = .ok v w') : (execOp a.eval o).run P w = .ok (.value v) w' := by
  unfold execOp
  simp only [ho, resolve, invoke, builtin, Sem.run_bind, Sem.run_pure, Result.andThen_ok, List.map_toArray, List.map_cons, List.map_nil, hs, hx, h]
theorem RowV.kids1 {w : World} {g : Nat} {r : KidD} (h : RowV 64 w g r.cells) (hok : KidOk r) : KidsOn w (some ⟨g, 0, none⟩) 1 1 [r] :=
  ⟨rfl, Nat.le_refl _, by unfold maxLen; decide, (fun e => by cases e), fun i x hi => ⟨_, rfl, fun j v hj => by
    match i, hi with
    | 0, hi =>
      obtain rfl : r = x := by simpa using hi
      rw [Nat.zero_mul, add_zero]
      exact h.part (pre := []) (rest := []) (by simp) rfl j v hj
    | i + 1, hi => simp at hi⟩, fun x hx => by rw [List.mem_singleton.1 hx]; exact hok⟩

structure FldR (wr : World) (B g : Nat) (q : Option Addr) (n c : Nat) (M : List RowD) : Prop where
  row : RowV 25 wr g [.int .i64 1, .slice q n c, .slice none 0 0]
  own : OwnR 30 wr (B + 6) (.slice q n c) M
  len : n = M.length
theorem FldR.push {wr u1 u2 : World} {B g : Nat} {q q' : Option Addr} {n c c' : Nat} {M : List RowD} {r : RowD} (h : FldR wr B g q n c M) (hg : g < B + 6) (hb : Below wr.heap.size wr u1) (ho : OwnR 30 u2 (B + 6) (.slice q' (n + 1) c') (M ++ [r])) (hgr : u1.grownBy u2 (q.map (·.block))) :
    FldR (u2.setCell ⟨g, 1, none⟩ (.slice q' (n + 1) c')) B g q' (n + 1) c' (M ++ [r]) := by
  have hr1 := h.row.below hb
  have hne : some g ≠ q.map (·.block) := fun e => by
    cases q with
    | none => cases e
    | some a => simp only [Option.map_some, Option.some.injEq] at e; have := (h.own.far a rfl).1; omega
  have hr2 : RowV 25 u2 g [.int .i64 1, .slice q n c, .slice none 0 0] := hr1.block (hgr.block _ hr1.lt (fun e => hne (by simpa using e)))
  refine ⟨hr2.set 1 _, ?_, by rw [List.length_append, ← h.len]; rfl⟩
  exact ho.kept (fun a ha => (setCell_grown u2 g 1 _).block _ (ho.far a ha).2 (fun e => by have := (ho.far a ha).1; simp only [Option.some.injEq] at e; omega))
theorem FldR.keep {wr u1 u2 : World} {B g g' : Nat} {q p : Option Addr} {n c : Nat} {M : List RowD} (h : FldR wr B g q n c M) (hg : g < B + 6) (hb : Below wr.heap.size wr u1) (hgr : u1.grownBy u2 (p.map (·.block))) (hp : ∀ a, p = some a → B + 6 ≤ a.block) (hd : ∀ a b, q = some a → p = some b → a.block ≠ b.block) (j : Nat) (v : Value) (hne : g ≠ g') (hg' : g' < B + 6) :
    FldR (u2.setCell ⟨g', j, none⟩ v) B g q n c M := by
  have hr1 := h.row.below hb
  have ho1 := h.own.below hb
  have hr2 : RowV 25 u2 g [.int .i64 1, .slice q n c, .slice none 0 0] := hr1.block (hgr.block _ hr1.lt (fun e => by
    cases p with
    | none => cases e
    | some a => simp only [Option.map_some, Option.some.injEq] at e; have := hp a rfl; omega))
  have ho2 : OwnR 30 u2 (B + 6) (.slice q n c) M := ho1.kept (fun a ha => hgr.block _ (ho1.far a ha).2 (fun e => by
    cases p with
    | none => cases e
    | some b => simp only [Option.map_some, Option.some.injEq] at e; exact hd a b ha rfl e))
  exact ⟨RowV.gr hr2 (setCell_grown u2 g' j v) hne, ho2.kept (fun a ha => (setCell_grown u2 g' j v).block _ (ho2.far a ha).2 (fun e => by have := (ho2.far a ha).1; simp only [Option.some.injEq] at e; omega)), h.len⟩
/-- what stands when i of the list have been laid, the first K in one, the others in the other one -/
structure CutR (W : World) (B : Nat) (L : List RowD) (K i : Nat) (qa : Option Addr) (na ca : Nat) (qb : Option Addr) (nb cb : Nat) (wr : World) : Prop where
  bl : Below (B + 4) W wr
  sz : W.heap.size = B + 6
  a : FldR wr B (B + 4) qa na ca (L.take (min i K))
  b : FldR wr B (B + 5) qb nb cb ((L.take i).drop K)
  d : ∀ a b, qa = some a → qb = some b → a.block ≠ b.block
theorem CutR.hitA {W wr u1 u2 : World} {B : Nat} {L : List RowD} {K i : Nat} {qa : Option Addr} {na ca : Nat} {qb : Option Addr} {nb cb : Nat} {q' : Option Addr} {c' : Nat} {r : RowD} (h : CutR W B L K i qa na ca qb nb cb wr) (hi : i < K) (hx : L[i]? = some r) (hb : Below wr.heap.size wr u1)
    (ho : OwnR 30 u2 (B + 6) (.slice q' (na + 1) c') (L.take (min i K) ++ [r])) (hgr : u1.grownBy u2 (qa.map (·.block))) (hq : q'.map (·.block) = qa.map (·.block) ∨ q'.map (·.block) = some u1.heap.size) :
    CutR W B L K (i + 1) q' (na + 1) c' qb nb cb (u2.setCell ⟨B + 4, 1, none⟩ (.slice q' (na + 1) c')) := by
  have hfar : ∀ a, qa = some a → B + 6 ≤ a.block := fun a ha => (h.a.own.far a ha).1
  have hli : i < L.length := (List.getElem?_eq_some_iff.1 hx).1
  have hu : B + 6 ≤ u1.heap.size := by have := h.sz; have := h.bl.size; have := hb.size; omega
  have hgr4 : Below (B + 4) u1 u2 := grown_belowN hgr (by omega) (fun j hj => by
    cases qa with
    | none => cases hj
    | some a => simp only [Option.map_some, Option.some.injEq] at hj; have := hfar a rfl; omega)
  have hbl : Below (B + 4) W (u2.setCell ⟨B + 4, 1, none⟩ (.slice q' (na + 1) c')) := by
    have h1 := (h.bl.trans (hb.mono (by have := h.sz; have := h.bl.size; omega))).trans hgr4
    exact h1.trans (grown_belowN (setCell_grown u2 (B + 4) 1 _) (by have := h1.size; have := h.sz; omega) (fun j hj => by cases hj; omega))
  have hL : (L.take (i + 1)) = L.take i ++ [r] := by rw [List.take_add_one, hx]; rfl
  have hA : L.take (min (i + 1) K) = L.take (min i K) ++ [r] := by rw [show min (i + 1) K = i + 1 by omega, show min i K = i by omega, hL]
  have hB : (L.take (i + 1)).drop K = (L.take i).drop K := by rw [List.drop_eq_nil_of_le (by rw [List.length_take]; omega), List.drop_eq_nil_of_le (by rw [List.length_take]; omega)]
  have h1 := h.a.push (by omega) hb ho hgr
  have h2 := h.b.keep (g' := B + 4) (by omega) hb hgr hfar (fun a b ha hb => fun e => h.d b a hb ha e.symm) 1 (.slice q' (na + 1) c') (by omega) (by omega)
  rw [← hA] at h1
  rw [← hB] at h2
  refine ⟨hbl, h.sz, h1, h2, fun a b ha hb' => ?_⟩
  have hbn := (h.b.own.far b hb').2
  rcases hq with e | e
  · cases qa with
    | none => rw [ha] at e; cases e
    | some a0 => rw [ha] at e; simp only [Option.map_some, Option.some.injEq] at e; have := h.d a0 b rfl hb'; omega
  · rw [ha] at e; simp only [Option.map_some, Option.some.injEq] at e; have := hb.size; omega
theorem CutR.hitB {W wr u1 u2 : World} {B : Nat} {L : List RowD} {K i : Nat} {qa : Option Addr} {na ca : Nat} {qb : Option Addr} {nb cb : Nat} {q' : Option Addr} {c' : Nat} {r : RowD} (h : CutR W B L K i qa na ca qb nb cb wr) (hi : K ≤ i) (hx : L[i]? = some r) (hb : Below wr.heap.size wr u1)
    (ho : OwnR 30 u2 (B + 6) (.slice q' (nb + 1) c') ((L.take i).drop K ++ [r])) (hgr : u1.grownBy u2 (qb.map (·.block))) (hq : q'.map (·.block) = qb.map (·.block) ∨ q'.map (·.block) = some u1.heap.size) :
    CutR W B L K (i + 1) qa na ca q' (nb + 1) c' (u2.setCell ⟨B + 5, 1, none⟩ (.slice q' (nb + 1) c')) := by
  have hfar : ∀ a, qb = some a → B + 6 ≤ a.block := fun a ha => (h.b.own.far a ha).1
  have hli : i < L.length := (List.getElem?_eq_some_iff.1 hx).1
  have hu : B + 6 ≤ u1.heap.size := by have := h.sz; have := h.bl.size; have := hb.size; omega
  have hgr4 : Below (B + 4) u1 u2 := grown_belowN hgr (by omega) (fun j hj => by
    cases qb with
    | none => cases hj
    | some a => simp only [Option.map_some, Option.some.injEq] at hj; have := hfar a rfl; omega)
  have hbl : Below (B + 4) W (u2.setCell ⟨B + 5, 1, none⟩ (.slice q' (nb + 1) c')) := by
    have h1 := (h.bl.trans (hb.mono (by have := h.sz; have := h.bl.size; omega))).trans hgr4
    exact h1.trans (grown_belowN (setCell_grown u2 (B + 5) 1 _) (by have := h1.size; have := h.sz; omega) (fun j hj => by cases hj; omega))
  have hL : (L.take (i + 1)) = L.take i ++ [r] := by rw [List.take_add_one, hx]; rfl
  have hA : L.take (min (i + 1) K) = L.take (min i K) := by rw [show min (i + 1) K = K by omega, show min i K = K by omega]
  have hB : (L.take (i + 1)).drop K = (L.take i).drop K ++ [r] := by rw [hL, List.drop_append_of_le_length (by rw [List.length_take]; omega)]
  have h1 := h.b.push (by omega) hb ho hgr
  have h2 := h.a.keep (g' := B + 5) (by omega) hb hgr hfar (fun a b ha hb => h.d a b ha hb) 1 (.slice q' (nb + 1) c') (by omega) (by omega)
  rw [← hB] at h1
  rw [← hA] at h2
  refine ⟨hbl, h.sz, h2, h1, fun a b ha hb' => ?_⟩
  have hbn := (h.a.own.far a ha).2
  rcases hq with e | e
  · cases qb with
    | none => rw [hb'] at e; cases e
    | some b0 => rw [hb'] at e; simp only [Option.map_some, Option.some.injEq] at e; have := h.d a b0 ha rfl; omega
  · rw [hb'] at e; simp only [Option.map_some, Option.some.injEq] at e; have := hb.size; omega
set_option maxRecDepth 100000 in
set_option maxHeartbeats 16000000 in
theorem refCutR_any (v : CV) (c : ContD) (K : Nat) (w : World) (h : v.On w c) (hk : c.kind = 1) (he : c.kids = []) (hn : v.rn ≤ 1000000) (hK : K ≤ v.rn) :
    Calls Try.prog 29 #[v.val, .int .i64 K] w (CutPost c K w) := by
  have hrows := Lib.hid (h.rows)
  have hL := Lib.hid h.rl
  have hO := h.kl
  have hkd : v.k = 1 := h.kind.trans hk
  rw [he] at hO
  obtain ⟨k, rq, rn, rc, kq, kn, kc⟩ := v
  simp only at hrows hL hO hkd hn hK
  subst hkd
  have hO : kn = 0 := hO.symm
  subst hO
  have hA' : Hid (cutA c K = ⟨1, c.rows.take K, []⟩) := by show _ = _; unfold cutA; exact if_pos hk
  have hB' : Hid (cutB c K = ⟨1, c.rows.drop K, []⟩) := by show _ = _; unfold cutB; exact if_pos hk
  have hS' : Hid (cutS c K = ((c.rows[K]?).map (·.key)).getD zK) := by show _ = _; unfold cutS; exact if_pos hk
  obtain ⟨L, hLL⟩ : ∃ L, c.rows = L := ⟨_, rfl⟩
  rw [hLL] at hrows hL hA' hB' hS'
  have hok := Lib.hid hrows.out.ok
  clear h hk he hLL
  obtain ⟨W0, hW⟩ : ∃ W, (((((w.alloc (.cells #[.int .i64 1, .slice rq rn rc, .slice kq 0 kc] 25)).alloc (.cells #[.int .i64 0, .slice none 0 0, .slice none 0 0] 25)).alloc (.cells #[.int .i64 0, .slice none 0 0, .slice none 0 0] 25)).alloc (.cells #[.int .i64 0, .int .u16 0] 28)).alloc (.cells #[.int .i64 0, .slice none 0 0, .slice none 0 0] 25)).alloc (.cells #[.int .i64 0, .slice none 0 0, .slice none 0 0] 25) = W := ⟨_, rfl⟩
  have hbx := Lib.hid (six_rows (a := [.int .i64 1, .slice rq rn rc, .slice kq 0 kc]) (b := [.int .i64 0, .slice none 0 0, .slice none 0 0]) (c := [.int .i64 0, .slice none 0 0, .slice none 0 0]) (d := [.int .i64 0, .int .u16 0]) (e := [.int .i64 0, .slice none 0 0, .slice none 0 0]) (f := [.int .i64 0, .slice none 0 0, .slice none 0 0]) hW)
  have r0 := hbx.out.2.1
  have r4 := hbx.out.2.2.2.2.2.1
  have r5 := hbx.out.2.2.2.2.2.2.1
  obtain ⟨W1, h1⟩ : ∃ x, W0.setCell ⟨w.heap.size + 4, 0, none⟩ (.int .i64 1) = x := ⟨_, rfl⟩
  obtain ⟨W2, h2⟩ : ∃ x, W1.setCell ⟨w.heap.size + 5, 0, none⟩ (.int .i64 1) = x := ⟨_, rfl⟩
  have g1 := setCell_grown W0 (w.heap.size + 4) 0 (.int .i64 1)
  rw [h1] at g1
  have g2 := setCell_grown W1 (w.heap.size + 5) 0 (.int .i64 1)
  rw [h2] at g2
  have x4 := r4.set 0 (.int .i64 1)
  rw [h1] at x4
  have y5 := RowV.gr r5 g1 (by omega)
  have x5 := y5.set 0 (.int .i64 1)
  rw [h2] at x5
  have y4 := RowV.gr x4 g2 (by omega)
  have z0 := RowV.gr r0 g1 (by omega)
  have c0 : W0.cell? ⟨w.heap.size, 0, none⟩ = some (.int .i64 1) := r0.cell 0
  have d0 : W1.cell? ⟨w.heap.size, 0, none⟩ = some (.int .i64 1) := z0.cell 0
  have c4 : W0.cell? ⟨w.heap.size + 4, 0, none⟩ = some (.int .i64 0) := r4.cell 0
  have f4 := r4.free 0
  have c5 : W1.cell? ⟨w.heap.size + 5, 0, none⟩ = some (.int .i64 0) := y5.cell 0
  have f5 := y5.free 0
  have hbb : Hid (Below w.heap.size w W2) := Gr.below g2 (Gr.below g1 hbx.out.1 (by omega)) (by omega)
  have hsz : Hid (W2.heap.size = w.heap.size + 6) := by show _ = _; rw [← h2, ← h1]; simp only [World.size_setCell]; exact hbx.out.2.2.2.2.2.2.2
  have hr0 : Hid (RowV 25 W2 w.heap.size [.int .i64 1, .slice rq rn rc, .slice kq 0 kc]) := RowV.gr z0 g2 (by omega)
  have hr1 : Hid (RowV 25 W2 (w.heap.size + 1) [.int .i64 0, .slice none 0 0, .slice none 0 0]) := RowV.gr (RowV.gr hbx.out.2.2.1 g1 (by omega)) g2 (by omega)
  have hr2 : Hid (RowV 25 W2 (w.heap.size + 2) [.int .i64 0, .slice none 0 0, .slice none 0 0]) := RowV.gr (RowV.gr hbx.out.2.2.2.1 g1 (by omega)) g2 (by omega)
  have hr3 : Hid (RowV 28 W2 (w.heap.size + 3) [.int .i64 0, .int .u16 0]) := RowV.gr (RowV.gr hbx.out.2.2.2.2.1 g1 (by omega)) g2 (by omega)
  have hst : Hid (CutR W2 w.heap.size L K 0 none 0 0 none 0 0 W2) := ⟨Below.refl _ _, hsz.out, ⟨y4, OwnR.nil _ _ _, by simp⟩, ⟨x5, by rw [List.take_zero, List.drop_nil]; exact OwnR.nil _ _ _, by simp⟩, fun a b ha => by cases ha⟩
  clear r0 r4 r5 x4 y5 x5 y4 z0 g1 g2 hbx
  show Calls _ _ #[.agg #[.int .i64 1, .slice rq rn rc, .slice kq 0 kc], .int .i64 K] _ _
  go_enter Try.func29, Try.ntmps29
  go_wp2
  clear c0 d0 c4 f4 c5 f5 h1 h2 hW
  go_loopw [9] (fun v9 wr => ∃ (i : Nat) (qa : Option Addr) (na ca : Nat) (qb : Option Addr) (nb cb : Nat), i ≤ rn ∧ v9 = .int .i64 i ∧ Hid (CutR W2 w.heap.size L K i qa na ca qb nb cb wr)) (fun v9 _ => rn - (RowKit.intOf v9).toNat)
  case atStart => exact ⟨0, none, 0, 0, none, 0, 0, Nat.zero_le _, rfl, hst⟩
  case round =>
    obtain ⟨i, qa, na, ca, qb, nb, cb, hi, rfl, hcr⟩ := hrel
    have hr0' := Lib.hid (hr0.out.block (hcr.out.bl.block _ (by omega)))
    have c1 : wr.cell? ⟨w.heap.size, 1, none⟩ = some (.slice rq rn rc) := hr0'.out.cell 1
    have c2 : wr.cell? ⟨w.heap.size, 2, none⟩ = some (.slice kq 0 kc) := hr0'.out.cell 2
    by_cases hlt : i < rn
    · have hdw : Hid (Below w.heap.size w wr) := hbb.out.trans (hcr.out.bl.mono (by omega))
      obtain ⟨A, ⟨⟨t, id⟩, v, s⟩, hqA, hx, hokx, hcA⟩ := hrows.out.at hlt
      subst hqA
      have hx' := Lib.hid hx
      have hokx := Lib.hid hokx
      have hs1 := sizeRow t id v s
      have helm : Hid (∀ u, Below (w.heap.size + 6) wr u → ∀ j x, ([.int .i64 t, .int .u16 id, .int .i64 v, .string s] : List Value)[j]? = some x → u.cell? ((A.add (i * 4)).add j) = some x) := fun u hu j x hj => cell_keeps (hdw.out.trans (hu.mono (by omega))) (Nat.le_refl _) (hcA j x hj)
      have ec : Hid (wr.cell? ⟨w.heap.size, 1, none⟩ = some (.slice (some A) rn rc)) := hr0'.out.cell 1
      have i0 : (0 : Int) ≤ i := by omega
      have i1 : (i : Int) < rn := by omega
      have hlenA : (L.take (min i K)).length ≤ 1000000 := by rw [List.length_take]; have := hL.out; omega
      have hlenB : ((L.take i).drop K).length ≤ 1000000 := by rw [List.length_drop, List.length_take]; have := hL.out; omega
      clear hx hcA hr0'
      by_cases hiK : i < K
      · have ef : Hid (wr.cell? ⟨w.heap.size + 4, 1, none⟩ = some (.slice qa na ca)) := hcr.out.a.row.cell 1
        have hk1 : decide ((i : Int) < K) = true := decide_eq_true (by omega)
        go_wp2_with fail
        refine wp_region_x (by kernel_rfl) 10 (fun u => Below (w.heap.size + 6) wr u) ?_
        change wpAnyX _ _ _ _ _ _ _ _ _ (World.drew wr)
        have hX : Below (w.heap.size + 6) wr (World.drew wr) := ⟨rfl, rfl, rfl, Nat.le_refl _, fun _ _ => rfl⟩
        have hwd : Below wr.heap.size wr (World.drew wr) := below_drew wr
        generalize World.drew wr = u0 at hX hwd ⊢
        refine x_pure (i := 0) (dst := some 28) (v := .pointer (some ⟨w.heap.size + 4, 1, none⟩)) rfl rfl (by kernel_rfl) (by kernel_rfl) (by kernel_rfl) (by kernel_rfl) (fun _ _ _ h => h) (.inl ⟨rfl, fun u hu => by go_simp⟩) (fun _ => hX) ?_; go_frame
        refine x_take (i := 1) (dst := some 29) (v := .slice qa na ca) rfl rfl (by kernel_rfl) (by kernel_rfl) (by kernel_rfl) (by kernel_rfl) (by kernel_rfl) (fun _ _ _ h => h) (.inl ⟨rfl, fun u hu => by have c1 := cell_low hu (show w.heap.size + 4 < w.heap.size + 6 by omega) ef.out; go_simp⟩) hX ?_; go_frame
        refine x_pure (i := 2) (dst := some 30) (v := .pointer (some ⟨w.heap.size, 1, none⟩)) rfl rfl (by kernel_rfl) (by kernel_rfl) (by kernel_rfl) (by kernel_rfl) (fun _ _ _ h => h) (.inl ⟨rfl, fun u hu => by go_simp⟩) (fun _ => hX) ?_; go_frame
        refine x_take (i := 3) (dst := some 31) (v := .slice (some A) rn rc) rfl rfl (by kernel_rfl) (by kernel_rfl) (by kernel_rfl) (by kernel_rfl) (by kernel_rfl) (fun _ _ _ h => h) (.inl ⟨rfl, fun u hu => by have c1 := cell_low hu (show w.heap.size < w.heap.size + 6 by omega) ec.out; go_simp⟩) hX ?_; go_frame
        refine x_pure (i := 4) (dst := some 32) (v := .int .i64 (i : Int)) rfl rfl (by kernel_rfl) (by kernel_rfl) (by kernel_rfl) (by kernel_rfl) (fun _ _ _ h => h) (.inl ⟨rfl, fun u hu => by go_simp⟩) (fun _ => hX) ?_; go_frame
        refine x_pure (i := 5) (dst := some 33) (v := .pointer (some (A.add (i * 4)))) rfl rfl (by kernel_rfl) (by kernel_rfl) (by kernel_rfl) (by kernel_rfl) (fun _ _ _ h => h) (.inl ⟨rfl, fun u hu => by go_simp⟩) (fun _ => hX) ?_; go_frame
        refine x_take (i := 6) (dst := some 34) (v := .agg #[.int .i64 t, .int .u16 id, .int .i64 v, .string s]) rfl rfl (by kernel_rfl) (by kernel_rfl) (by kernel_rfl) (by kernel_rfl) (by kernel_rfl) (fun _ _ _ h => h) (y_load_agg 30 (.tmp 33) rfl rfl rfl (fun u hu => run_loadVar_at Try.underlying30 rfl hs1 _ (helm.out u hu))) hX ?_; go_frame
        obtain ⟨u1, hu1⟩ : ∃ x, u0.alloc (.cells #[.int .i64 t, .int .u16 id, .int .i64 v, .string s] 30) = x := ⟨_, rfl⟩
        have hb1 := Lib.hid (one_row (xs := [.int .i64 t, .int .u16 id, .int .i64 v, .string s]) hu1)
        have hwu := below_step hb1.out.1 hwd
        have hX1 : Below (w.heap.size + 6) wr u1 := hwu.mono (by have := hcr.out.sz; have := hcr.out.bl.size; omega)
        refine x_value (i := 7) (dst := some 35) (w' := u1) (v := .slice (some ⟨u0.heap.size, 0, none⟩) 1 1) rfl rfl (by kernel_rfl) rfl (by rw [← hu1]; go_simp) (fun _ => hX1) ?_; go_frame
        have hone : RowsOn u1 (some ⟨u0.heap.size, 0, none⟩) 1 1 [⟨⟨t, id⟩, v, s⟩] := RowV.rows1 (r := ⟨⟨t, id⟩, v, s⟩) hb1.out.2.1 hokx.out
        obtain ⟨q', c', u2, hrun, ho2, hg2, hq2⟩ := run_append_r Try.underlying22 infoRow rfl 22 (hcr.out.a.own.below hwu) hone (by have := hcr.out.a.len; have := hlenA; omega) (by have := hcr.out.a.len; have := hlenA; omega) (by have := hcr.out.sz; have := hcr.out.bl.size; have := hwu.size; omega)
        have hfar : ∀ a, qa = some a → w.heap.size + 6 ≤ a.block := fun a ha => (hcr.out.a.own.far a ha).1
        have hX2 : Below (w.heap.size + 6) wr u2 := hX1.trans (grown_belowN hg2 (by have := hX1.size; have := hcr.out.sz; have := hcr.out.bl.size; omega) (fun j hj => by cases qa with | none => cases hj | some a => simp only [Option.map_some, Option.some.injEq] at hj; have := hfar a rfl; omega))
        refine x_value (i := 8) (dst := some 36) (w' := u2) rfl rfl (by kernel_rfl) rfl (run_append_op2 (s := .tmp 29) (x := .tmp 35) rfl rfl rfl hrun) (fun _ => hX2) ?_; go_frame
        refine x_pure (i := 9) (dst := some 37) (v := .pointer (some ⟨w.heap.size + 4, 1, none⟩)) rfl rfl (by kernel_rfl) (by kernel_rfl) (by kernel_rfl) (by kernel_rfl) (fun _ _ _ h => h) (.inl ⟨rfl, fun u hu => by go_simp⟩) (fun _ => hX2) ?_; go_frame
        obtain ⟨u3, hu3⟩ : ∃ x, u2.setCell ⟨w.heap.size + 4, 1, none⟩ (.slice q' (na + 1) c') = x := ⟨_, rfl⟩
        have hnew := Lib.hid (hcr.out.hitA hiK hx'.out hwu ho2 hg2 hq2)
        rw [hu3] at hnew
        have e4 : u2.cell? ⟨w.heap.size + 4, 1, none⟩ = some (.slice qa na ca) := cell_low hX2 (show w.heap.size + 4 < w.heap.size + 6 by omega) ef.out
        have f4 : u2.frozen? ⟨w.heap.size + 4, 1, none⟩ = false := (hcr.out.a.row.block (hX2.block _ (show w.heap.size + 4 < w.heap.size + 6 by omega))).free 1
        have st4 : (storeVar 22 ⟨w.heap.size + 4, 1, none⟩ (.slice q' (na + 1) c')).run Try.prog u2 = .ok () u3 := by rw [← hu3]; go_simp
        refine x_skip (i := 10) (dst := none) rfl rfl (by kernel_rfl) rfl (run_store_op (x := .tmp 37) (y := .tmp 36) rfl rfl rfl st4) (no_x (by kernel_rfl)) ?_; go_frame
        refine x_done (by kernel_rfl) ?_
        clear st4 e4 f4 hu3 hrun ho2 hg2 hq2 hfar hX hX1 hX2 hwd hwu hu1 hb1 hone hcr helm ef ec
        go_wp2
        go_roundw
        case rel => exact ⟨i + 1, q', na + 1, c', qb, nb, cb, by omega, by go_num, hnew⟩
        case measure => simp [RowKit.intOf]; omega
      · have ef : Hid (wr.cell? ⟨w.heap.size + 5, 1, none⟩ = some (.slice qb nb cb)) := hcr.out.b.row.cell 1
        have hk1 : decide ((i : Int) < K) = false := decide_eq_false (by omega)
        have hiK : K ≤ i := by omega
        go_wp2_with fail
        refine wp_region_x (by kernel_rfl) 10 (fun u => Below (w.heap.size + 6) wr u) ?_
        change wpAnyX _ _ _ _ _ _ _ _ _ (World.drew wr)
        have hX : Below (w.heap.size + 6) wr (World.drew wr) := ⟨rfl, rfl, rfl, Nat.le_refl _, fun _ _ => rfl⟩
        have hwd : Below wr.heap.size wr (World.drew wr) := below_drew wr
        generalize World.drew wr = u0 at hX hwd ⊢
        refine x_pure (i := 0) (dst := some 38) (v := .pointer (some ⟨w.heap.size + 5, 1, none⟩)) rfl rfl (by kernel_rfl) (by kernel_rfl) (by kernel_rfl) (by kernel_rfl) (fun _ _ _ h => h) (.inl ⟨rfl, fun u hu => by go_simp⟩) (fun _ => hX) ?_; go_frame
        refine x_take (i := 1) (dst := some 39) (v := .slice qb nb cb) rfl rfl (by kernel_rfl) (by kernel_rfl) (by kernel_rfl) (by kernel_rfl) (by kernel_rfl) (fun _ _ _ h => h) (.inl ⟨rfl, fun u hu => by have c1 := cell_low hu (show w.heap.size + 5 < w.heap.size + 6 by omega) ef.out; go_simp⟩) hX ?_; go_frame
        refine x_pure (i := 2) (dst := some 40) (v := .pointer (some ⟨w.heap.size, 1, none⟩)) rfl rfl (by kernel_rfl) (by kernel_rfl) (by kernel_rfl) (by kernel_rfl) (fun _ _ _ h => h) (.inl ⟨rfl, fun u hu => by go_simp⟩) (fun _ => hX) ?_; go_frame
        refine x_take (i := 3) (dst := some 41) (v := .slice (some A) rn rc) rfl rfl (by kernel_rfl) (by kernel_rfl) (by kernel_rfl) (by kernel_rfl) (by kernel_rfl) (fun _ _ _ h => h) (.inl ⟨rfl, fun u hu => by have c1 := cell_low hu (show w.heap.size < w.heap.size + 6 by omega) ec.out; go_simp⟩) hX ?_; go_frame
        refine x_pure (i := 4) (dst := some 42) (v := .int .i64 (i : Int)) rfl rfl (by kernel_rfl) (by kernel_rfl) (by kernel_rfl) (by kernel_rfl) (fun _ _ _ h => h) (.inl ⟨rfl, fun u hu => by go_simp⟩) (fun _ => hX) ?_; go_frame
        refine x_pure (i := 5) (dst := some 43) (v := .pointer (some (A.add (i * 4)))) rfl rfl (by kernel_rfl) (by kernel_rfl) (by kernel_rfl) (by kernel_rfl) (fun _ _ _ h => h) (.inl ⟨rfl, fun u hu => by go_simp⟩) (fun _ => hX) ?_; go_frame
        refine x_take (i := 6) (dst := some 44) (v := .agg #[.int .i64 t, .int .u16 id, .int .i64 v, .string s]) rfl rfl (by kernel_rfl) (by kernel_rfl) (by kernel_rfl) (by kernel_rfl) (by kernel_rfl) (fun _ _ _ h => h) (y_load_agg 30 (.tmp 43) rfl rfl rfl (fun u hu => run_loadVar_at Try.underlying30 rfl hs1 _ (helm.out u hu))) hX ?_; go_frame
        obtain ⟨u1, hu1⟩ : ∃ x, u0.alloc (.cells #[.int .i64 t, .int .u16 id, .int .i64 v, .string s] 30) = x := ⟨_, rfl⟩
        have hb1 := Lib.hid (one_row (xs := [.int .i64 t, .int .u16 id, .int .i64 v, .string s]) hu1)
        have hwu := below_step hb1.out.1 hwd
        have hX1 : Below (w.heap.size + 6) wr u1 := hwu.mono (by have := hcr.out.sz; have := hcr.out.bl.size; omega)
        refine x_value (i := 7) (dst := some 45) (w' := u1) (v := .slice (some ⟨u0.heap.size, 0, none⟩) 1 1) rfl rfl (by kernel_rfl) rfl (by rw [← hu1]; go_simp) (fun _ => hX1) ?_; go_frame
        have hone : RowsOn u1 (some ⟨u0.heap.size, 0, none⟩) 1 1 [⟨⟨t, id⟩, v, s⟩] := RowV.rows1 (r := ⟨⟨t, id⟩, v, s⟩) hb1.out.2.1 hokx.out
        obtain ⟨q', c', u2, hrun, ho2, hg2, hq2⟩ := run_append_r Try.underlying22 infoRow rfl 22 (hcr.out.b.own.below hwu) hone (by have := hcr.out.b.len; have := hlenB; omega) (by have := hcr.out.b.len; have := hlenB; omega) (by have := hcr.out.sz; have := hcr.out.bl.size; have := hwu.size; omega)
        have hfar : ∀ a, qb = some a → w.heap.size + 6 ≤ a.block := fun a ha => (hcr.out.b.own.far a ha).1
        have hX2 : Below (w.heap.size + 6) wr u2 := hX1.trans (grown_belowN hg2 (by have := hX1.size; have := hcr.out.sz; have := hcr.out.bl.size; omega) (fun j hj => by cases qb with | none => cases hj | some a => simp only [Option.map_some, Option.some.injEq] at hj; have := hfar a rfl; omega))
        refine x_value (i := 8) (dst := some 46) (w' := u2) rfl rfl (by kernel_rfl) rfl (run_append_op2 (s := .tmp 39) (x := .tmp 45) rfl rfl rfl hrun) (fun _ => hX2) ?_; go_frame
        refine x_pure (i := 9) (dst := some 47) (v := .pointer (some ⟨w.heap.size + 5, 1, none⟩)) rfl rfl (by kernel_rfl) (by kernel_rfl) (by kernel_rfl) (by kernel_rfl) (fun _ _ _ h => h) (.inl ⟨rfl, fun u hu => by go_simp⟩) (fun _ => hX2) ?_; go_frame
        obtain ⟨u3, hu3⟩ : ∃ x, u2.setCell ⟨w.heap.size + 5, 1, none⟩ (.slice q' (nb + 1) c') = x := ⟨_, rfl⟩
        have hnew := Lib.hid (hcr.out.hitB hiK hx'.out hwu ho2 hg2 hq2)
        rw [hu3] at hnew
        have e4 : u2.cell? ⟨w.heap.size + 5, 1, none⟩ = some (.slice qb nb cb) := cell_low hX2 (show w.heap.size + 5 < w.heap.size + 6 by omega) ef.out
        have f4 : u2.frozen? ⟨w.heap.size + 5, 1, none⟩ = false := (hcr.out.b.row.block (hX2.block _ (show w.heap.size + 5 < w.heap.size + 6 by omega))).free 1
        have st4 : (storeVar 22 ⟨w.heap.size + 5, 1, none⟩ (.slice q' (nb + 1) c')).run Try.prog u2 = .ok () u3 := by rw [← hu3]; go_simp
        refine x_skip (i := 10) (dst := none) rfl rfl (by kernel_rfl) rfl (run_store_op (x := .tmp 47) (y := .tmp 46) rfl rfl rfl st4) (no_x (by kernel_rfl)) ?_; go_frame
        refine x_done (by kernel_rfl) ?_
        clear st4 e4 f4 hu3 hrun ho2 hg2 hq2 hfar hX hX1 hX2 hwd hwu hu1 hb1 hone hcr helm ef ec
        go_wp2
        go_roundw
        case rel => exact ⟨i + 1, qa, na, ca, q', nb + 1, c', by omega, by go_num, hnew⟩
        case measure => simp [RowKit.intOf]; omega
    · obtain rfl : rn = i := by omega
      clear hlt
      go_wp2
      go_loopw [10] (fun v wr' => v = .int .i64 0 ∧ wr' = wr) (fun _ _ => 0)
      case atStart => exact ⟨rfl, rfl⟩
      case round =>
        obtain ⟨rfl, rfl⟩ := hrel
        obtain ⟨w5, hw5⟩ : ∃ x, wr.alloc (.cells #[.int .i64 0, .int .u16 0] 28) = x := ⟨_, rfl⟩
        have hbk := Lib.hid (one_row (xs := [.int .i64 0, .int .u16 0]) hw5)
        have hb5 := hbk.out.1
        have hLn : L.length = rn := hL.out
        have hna : na = K := by have := hcr.out.a.len; rw [List.length_take] at this; omega
        have hnb : nb = rn - K := by have := hcr.out.b.len; rw [List.length_drop, List.length_take] at this; omega
        subst hna hnb
        have hwz : Hid (w.heap.size + 6 ≤ wr.heap.size) := by have := hcr.out.sz; have := hcr.out.bl.size; show _ ≤ _; omega
        have hoa : Hid (RowsOn wr qa na ca (L.take na)) := by
          have h := hcr.out.a.own
          rw [show min rn na = na by omega] at h
          exact h.reads (fun r hr => hok.out r (List.mem_of_mem_take hr))
        have hob0 := Lib.hid hcr.out.b.own
        rw [List.take_of_length_le (by omega)] at hob0
        have hfa : Hid (∀ a, qa = some a → w.heap.size + 6 ≤ a.block ∧ a.block < wr.heap.size) := hcr.out.a.own.far
        have hfb : Hid (∀ a, qb = some a → w.heap.size + 6 ≤ a.block ∧ a.block < wr.heap.size) := hcr.out.b.own.far
        have hdd := Lib.hid hcr.out.d
        have ra := Lib.hid ((hr1.out.block (hcr.out.bl.block _ (by omega))).below hb5)
        have rb := Lib.hid ((hr2.out.block (hcr.out.bl.block _ (by omega))).below hb5)
        have rk := Lib.hid ((hr3.out.block (hcr.out.bl.block _ (by omega))).below hb5)
        have ba := Lib.hid (hcr.out.a.row.below hb5)
        have bb := Lib.hid (hcr.out.b.row.below hb5)
        have bk := Lib.hid hbk.out.2.1
        have hd : Hid (Below w.heap.size w w5) := below_step hb5 (hbb.out.trans (hcr.out.bl.mono (by omega)))
        have hA := Lib.hid (hoa.out.below hb5 (Nat.le_refl _))
        have hz5 : Hid (wr.heap.size ≤ w5.heap.size) := hb5.size
        have b1 : w5.cell? ⟨w.heap.size + 5, 1, none⟩ = some (.slice qb (rn - na) cb) := bb.out.cell 1
        have b2 : w5.cell? ⟨w.heap.size + 5, 2, none⟩ = some (.slice none 0 0) := bb.out.cell 2
        by_cases hz : rn - na = 0
        · have hdr : L.drop na = [] := List.drop_eq_nil_of_le (by omega)
          have hLK : L[na]? = none := List.getElem?_eq_none (by omega)
          have hkey : Hid (cutS c na = ⟨0, 0⟩) := by show _ = _; rw [hS'.out, hLK]; rfl
          have hB2 : Hid (cutB c na = ⟨1, [], []⟩) := by show _ = _; rw [hB'.out, hdr]
          rw [hdr] at hob0
          have hB := Lib.hid ((hob0.out.reads (fun r hr => by cases hr)).below hb5 (Nat.le_refl _))
          rw [hz] at hB bb b1
          have hz6 := hz5
          clear hcr hr0' hr0 hr1 hr2 hr3 hbk hb5 hob0 hst c1
          go_wp2_with fail
          have xa := Lib.hid ba.out.boxed
          have xb := Lib.hid bb.out.boxed
          have xk := Lib.hid bk.out.boxed
          clear ba bb bk
          refine wp_region_held (S := fun u => Boxed u (w.heap.size + 4) [.int .i64 1, .slice qa na ca, .slice none 0 0] ∧ Boxed u (w.heap.size + 5) [.int .i64 1, .slice qb 0 cb, .slice none 0 0] ∧ Boxed u wr.heap.size [.int .i64 0, .int .u16 0]) (by kernel_rfl) ?_
          change wpAnyH _ _ _ _ _ _ _ _ (World.drew w5)
          have hS0 : Hid (Boxed (World.drew w5) (w.heap.size + 4) [.int .i64 1, .slice qa na ca, .slice none 0 0] ∧ Boxed (World.drew w5) (w.heap.size + 5) [.int .i64 1, .slice qb 0 cb, .slice none 0 0] ∧ Boxed (World.drew w5) wr.heap.size [.int .i64 0, .int .u16 0]) := ⟨xa.out.below (below_drew _) (Nat.le_refl _), xb.out.below (below_drew _) (Nat.le_refl _), xk.out.below (below_drew _) (Nat.le_refl _)⟩
          have ra := Lib.hid (ra.out.below (below_drew w5))
          have rb := Lib.hid (rb.out.below (below_drew w5))
          have rk := Lib.hid (rk.out.below (below_drew w5))
          have hA := Lib.hid (hA.out.below (below_drew w5) (Nat.le_refl _))
          have hB := Lib.hid (hB.out.below (below_drew w5) (Nat.le_refl _))
          have hd := Lib.hid (below_step (below_drew w5) hd.out)
          have hz6 : Hid (wr.heap.size ≤ (World.drew w5).heap.size) := hz6.out
          clear xa xb xk
          generalize World.drew w5 = y0 at hS0 ra rb rk hA hB hd hz6 ⊢
          refine held_tk (i := 0) (dst := some 101) rfl rfl (y_load_agg 25 (.tmp 7) rfl rfl rfl (fun u hu => run_loadVar_at Try.underlying25 rfl (sizeCont _ _ _) _ hu.1.all)) hS0.out ?_; go_frame
          refine held_tk (i := 1) (dst := some 102) rfl rfl (y_load_agg 25 (.tmp 8) rfl rfl rfl (fun u hu => run_loadVar_at Try.underlying25 rfl (sizeCont _ _ _) _ hu.2.1.all)) hS0.out ?_; go_frame
          refine held_tk (i := 2) (dst := some 103) rfl rfl (y_load_agg 28 (.tmp 11) rfl rfl rfl (fun u hu => run_loadVar_at Try.underlying28 rfl (sizeKey _ _) _ hu.2.2.all)) hS0.out ?_; go_frame
          obtain ⟨y1, hst, h9, hg9⟩ := run_storeVar_at (P := Try.prog) (ty := 25) (o := 0) (vs := [.int .i64 1, .slice qa na ca, .slice none 0 0]) ra.out (sizeCont _ _ _) (Nat.le_refl _) (cont_one _ _ _ _ _ _ _)
          replace ra : Hid (RowV 25 y1 (w.heap.size + 1) [.int .i64 1, .slice qa na ca, .slice none 0 0]) := h9
          replace rb := Lib.hid (RowV.gr rb.out hg9 (by omega))
          replace rk := Lib.hid (RowV.gr rk.out hg9 (by omega))
          replace hA := Lib.hid (hA.out.gr hg9 (fun a e => by have := (hfa.out a e).1; omega))
          replace hB := Lib.hid (hB.out.gr hg9 (fun a e => by have := (hfb.out a e).1; omega))
          replace hS0 := Lib.hid (And.intro (hS0.out.1.gr hg9 (by omega)) (And.intro (hS0.out.2.1.gr hg9 (by omega)) (hS0.out.2.2.gr hg9 (by have := hwz.out; omega))))
          replace hd := Lib.hid (Gr.below hg9 hd.out (by omega))
          have hz5 : Hid (wr.heap.size ≤ y1.heap.size) := Nat.le_trans hz6.out hg9.size
          clear h9 hg9
          refine held_skip (i := 3) (dst := none) (w' := y1) rfl rfl (by kernel_rfl) rfl (run_store_op (x := .tmp 4) (y := .tmp 101) rfl rfl rfl hst) hS0.out ?_; go_frame
          clear hst
          obtain ⟨y2, hst, h9, hg9⟩ := run_storeVar_at (P := Try.prog) (ty := 25) (o := 0) (vs := [.int .i64 1, .slice qb 0 cb, .slice none 0 0]) rb.out (sizeCont _ _ _) (Nat.le_refl _) (cont_one _ _ _ _ _ _ _)
          replace rb : Hid (RowV 25 y2 (w.heap.size + 2) [.int .i64 1, .slice qb 0 cb, .slice none 0 0]) := h9
          replace ra := Lib.hid (RowV.gr ra.out hg9 (by omega))
          replace rk := Lib.hid (RowV.gr rk.out hg9 (by omega))
          replace hA := Lib.hid (hA.out.gr hg9 (fun a e => by have := (hfa.out a e).1; omega))
          replace hB := Lib.hid (hB.out.gr hg9 (fun a e => by have := (hfb.out a e).1; omega))
          replace hS0 := Lib.hid (And.intro (hS0.out.1.gr hg9 (by omega)) (And.intro (hS0.out.2.1.gr hg9 (by omega)) (hS0.out.2.2.gr hg9 (by have := hwz.out; omega))))
          replace hd := Lib.hid (Gr.below hg9 hd.out (by omega))
          have hz5 : Hid (wr.heap.size ≤ y2.heap.size) := Nat.le_trans hz5.out hg9.size
          clear h9 hg9
          refine held_skip (i := 4) (dst := none) (w' := y2) rfl rfl (by kernel_rfl) rfl (run_store_op (x := .tmp 5) (y := .tmp 102) rfl rfl rfl hst) hS0.out ?_; go_frame
          clear hst
          obtain ⟨y3, hst, h9, hg9⟩ := run_storeVar_at (P := Try.prog) (ty := 28) (o := 0) (vs := [.int .i64 0, .int .u16 0]) rk.out (sizeKey _ _) (Nat.le_refl _) (key_one _ _)
          replace rk : Hid (RowV 28 y3 (w.heap.size + 3) [.int .i64 0, .int .u16 0]) := h9
          replace ra := Lib.hid (RowV.gr ra.out hg9 (by omega))
          replace rb := Lib.hid (RowV.gr rb.out hg9 (by omega))
          replace hA := Lib.hid (hA.out.gr hg9 (fun a e => by have := (hfa.out a e).1; omega))
          replace hB := Lib.hid (hB.out.gr hg9 (fun a e => by have := (hfb.out a e).1; omega))
          replace hS0 := Lib.hid (And.intro (hS0.out.1.gr hg9 (by omega)) (And.intro (hS0.out.2.1.gr hg9 (by omega)) (hS0.out.2.2.gr hg9 (by have := hwz.out; omega))))
          replace hd := Lib.hid (Gr.below hg9 hd.out (by omega))
          have hz5 : Hid (wr.heap.size ≤ y3.heap.size) := Nat.le_trans hz5.out hg9.size
          clear h9 hg9
          refine held_skip (i := 5) (dst := none) (w' := y3) rfl rfl (by kernel_rfl) rfl (run_store_op (x := .tmp 6) (y := .tmp 103) rfl rfl rfl hst) hS0.out ?_; go_frame
          clear hst
          refine wpAnyH_done (by kernel_rfl) ?_ _
          have s1 := ra.out
          have s2 := rb.out
          have s3 := rk.out
          have m10 := s1.cell 0
          have m11 := s1.cell 1
          have m12 := s1.cell 2
          have m20 := s2.cell 0
          have m21 := s2.cell 1
          have m22 := s2.cell 2
          have m30 := s3.cell 0
          have m31 := s3.cell 1
          simp only [List.getElem?_cons_zero, List.getElem?_cons_succ] at m10 m11 m12 m20 m21 m22 m30 m31
          clear s1 s2 s3
          go_wp2
          refine bodyPost_ret (v := .tuple #[.agg #[.int .i64 1, .slice qa na ca, .slice none 0 0], .agg #[.int .i64 1, .slice qb 0 cb, .slice none 0 0], .agg #[.int .i64 0, .int .u16 0]]) (by simp [results, Try.results29, go_sem, m10, m11, m12, m20, m21, m22, m30, m31]) rfl ?_
          refine ⟨⟨1, qa, na, ca, none, 0, 0⟩, ⟨1, qb, 0, cb, none, 0, 0⟩, by rw [hkey.out], ?_, ?_, ⟨fun a ha => ⟨by have := (hfa.out a ha).1; show w.heap.size ≤ _; omega, Nat.lt_of_lt_of_le (hfa.out a ha).2 hz5.out⟩, fun a ha => by cases ha⟩, ⟨fun a ha => ⟨by have := (hfb.out a ha).1; show w.heap.size ≤ _; omega, Nat.lt_of_lt_of_le (hfb.out a ha).2 hz5.out⟩, fun a ha => by cases ha⟩, hd.out⟩
          · rw [hA'.out]; exact ⟨rfl, hA.out, KidsOn.none_ _⟩
          · rw [hB2.out]; exact ⟨rfl, hB.out, KidsOn.none_ _⟩
        · obtain ⟨⟨⟨t, id⟩, v, s⟩, hLK⟩ : ∃ r, L[na]? = some r := ⟨_, List.getElem?_eq_getElem (by omega)⟩
          have hdr : L.drop na = ⟨⟨t, id⟩, v, s⟩ :: L.drop (na + 1) := by
            obtain ⟨hl, h⟩ := List.getElem?_eq_some_iff.1 hLK
            rw [← h]
            exact List.drop_eq_getElem_cons hl
          have hkey : Hid (cutS c na = ⟨t, id⟩) := by show _ = _; rw [hS'.out, hLK]; rfl
          have hB2 := Lib.hid hB'.out
          obtain ⟨a2, rfl⟩ := hob0.out.some (by omega)
          obtain ⟨g2, cur, rfl, hg2, hrow, hnc, hc, hsz2, ht⟩ := hob0.out.opened
          have hg2w : g2 < wr.heap.size := hrow.lt
          rw [hdr] at ht
          have hrow5 := Lib.hid (hrow.below hb5)
          have hkc : Hid (Boxed w5 g2 [.int .i64 t, .int .u16 id]) := fun j x hj => by
            rw [show (⟨g2, 0, none⟩ : Addr).add j = ⟨g2, j, none⟩ by unfold Addr.add; split <;> simp_all, hrow5.out.cell]
            exact put_fit (r := ⟨⟨t, id⟩, v, s⟩) ht j x hj
          have hs1 := sizeKey t id
          have hsk0 := sizeKey 0 0
          have i0 : (0 : Int) < ((rn - na : Nat) : Int) := by omega
          have i2 : ¬ rn - na = 0 := hz
          have hk1 := key_one t id
          have hk2 := key_one 0 0
          have hB := Lib.hid ((hob0.out.reads (fun r hr => hok.out r (List.mem_of_mem_drop hr))).below hb5 (Nat.le_refl _))
          clear hcr hr0' hr0 hr1 hr2 hr3 hbk hb5 hob0 hst c1 hrow hnc hc hsz2 ht hdr
          go_wp2_with (first
            | (with_reducible refine wpList_load_at rfl 28 (.tmp 85) rfl Try.underlying28 rfl hs1 rfl hkc.out.all ?_)
            | ((with_reducible refine wpList_store_at rfl 28 (.tmp 11) (.tmp 86) rfl (o := 0) (vs := [.int .i64 t, .int .u16 id]) rfl rfl bk.out hs1 (Nat.le_refl _) hk1 ?_)
               intro w6 h9 hg9
               have bk : Hid (RowV 28 w6 wr.heap.size [.int .i64 t, .int .u16 id]) := h9
               have ba := Lib.hid (RowV.gr ba.out hg9 (by have := hwz.out; omega))
               have bb := Lib.hid (RowV.gr bb.out hg9 (by have := hwz.out; omega))
               have ra := Lib.hid (RowV.gr ra.out hg9 (by have := hwz.out; omega))
               have rb := Lib.hid (RowV.gr rb.out hg9 (by have := hwz.out; omega))
               have rk := Lib.hid (RowV.gr rk.out hg9 (by have := hwz.out; omega))
               have hA := Lib.hid (hA.out.gr hg9 (fun a e => by have := (hfa.out a e).2; omega))
               have hB := Lib.hid (hB.out.gr hg9 (fun a e => by have := (hfb.out a e).2; omega))
               have hd := Lib.hid (Gr.below hg9 hd.out (by have := hwz.out; omega))
               have hz6 : Hid (wr.heap.size ≤ w6.heap.size) := Nat.le_trans hz5.out hg9.size
               have b2 : w6.cell? ⟨w.heap.size + 5, 2, none⟩ = some (.slice none 0 0) := bb.out.cell 2
               clear h9 hg9))
          have xa := Lib.hid ba.out.boxed
          have xb := Lib.hid bb.out.boxed
          have xk := Lib.hid bk.out.boxed
          clear ba bb bk
          refine wp_region_held (S := fun u => Boxed u (w.heap.size + 4) [.int .i64 1, .slice qa na ca, .slice none 0 0] ∧ Boxed u (w.heap.size + 5) [.int .i64 1, .slice (some ⟨g2, 0, none⟩) (rn - na) cb, .slice none 0 0] ∧ Boxed u wr.heap.size [.int .i64 t, .int .u16 id]) (by kernel_rfl) ?_
          change wpAnyH _ _ _ _ _ _ _ _ (World.drew w6)
          have hS0 : Hid (Boxed (World.drew w6) (w.heap.size + 4) [.int .i64 1, .slice qa na ca, .slice none 0 0] ∧ Boxed (World.drew w6) (w.heap.size + 5) [.int .i64 1, .slice (some ⟨g2, 0, none⟩) (rn - na) cb, .slice none 0 0] ∧ Boxed (World.drew w6) wr.heap.size [.int .i64 t, .int .u16 id]) := ⟨xa.out.below (below_drew _) (Nat.le_refl _), xb.out.below (below_drew _) (Nat.le_refl _), xk.out.below (below_drew _) (Nat.le_refl _)⟩
          have ra := Lib.hid (ra.out.below (below_drew w6))
          have rb := Lib.hid (rb.out.below (below_drew w6))
          have rk := Lib.hid (rk.out.below (below_drew w6))
          have hA := Lib.hid (hA.out.below (below_drew w6) (Nat.le_refl _))
          have hB := Lib.hid (hB.out.below (below_drew w6) (Nat.le_refl _))
          have hd := Lib.hid (below_step (below_drew w6) hd.out)
          have hz6 : Hid (wr.heap.size ≤ (World.drew w6).heap.size) := hz6.out
          clear xa xb xk
          generalize World.drew w6 = y0 at hS0 ra rb rk hA hB hd hz6 ⊢
          refine held_tk (i := 0) (dst := some 101) rfl rfl (y_load_agg 25 (.tmp 7) rfl rfl rfl (fun u hu => run_loadVar_at Try.underlying25 rfl (sizeCont _ _ _) _ hu.1.all)) hS0.out ?_; go_frame
          refine held_tk (i := 1) (dst := some 102) rfl rfl (y_load_agg 25 (.tmp 8) rfl rfl rfl (fun u hu => run_loadVar_at Try.underlying25 rfl (sizeCont _ _ _) _ hu.2.1.all)) hS0.out ?_; go_frame
          refine held_tk (i := 2) (dst := some 103) rfl rfl (y_load_agg 28 (.tmp 11) rfl rfl rfl (fun u hu => run_loadVar_at Try.underlying28 rfl (sizeKey _ _) _ hu.2.2.all)) hS0.out ?_; go_frame
          obtain ⟨y1, hst, h9, hg9⟩ := run_storeVar_at (P := Try.prog) (ty := 25) (o := 0) (vs := [.int .i64 1, .slice qa na ca, .slice none 0 0]) ra.out (sizeCont _ _ _) (Nat.le_refl _) (cont_one _ _ _ _ _ _ _)
          replace ra : Hid (RowV 25 y1 (w.heap.size + 1) [.int .i64 1, .slice qa na ca, .slice none 0 0]) := h9
          replace rb := Lib.hid (RowV.gr rb.out hg9 (by omega))
          replace rk := Lib.hid (RowV.gr rk.out hg9 (by omega))
          replace hA := Lib.hid (hA.out.gr hg9 (fun a e => by have := (hfa.out a e).1; omega))
          replace hB := Lib.hid (hB.out.gr hg9 (fun a e => by have := (hfb.out a e).1; omega))
          replace hS0 := Lib.hid (And.intro (hS0.out.1.gr hg9 (by omega)) (And.intro (hS0.out.2.1.gr hg9 (by omega)) (hS0.out.2.2.gr hg9 (by have := hwz.out; omega))))
          replace hd := Lib.hid (Gr.below hg9 hd.out (by omega))
          have hz5 : Hid (wr.heap.size ≤ y1.heap.size) := Nat.le_trans hz6.out hg9.size
          clear h9 hg9
          refine held_skip (i := 3) (dst := none) (w' := y1) rfl rfl (by kernel_rfl) rfl (run_store_op (x := .tmp 4) (y := .tmp 101) rfl rfl rfl hst) hS0.out ?_; go_frame
          clear hst
          obtain ⟨y2, hst, h9, hg9⟩ := run_storeVar_at (P := Try.prog) (ty := 25) (o := 0) (vs := [.int .i64 1, .slice (some ⟨g2, 0, none⟩) (rn - na) cb, .slice none 0 0]) rb.out (sizeCont _ _ _) (Nat.le_refl _) (cont_one _ _ _ _ _ _ _)
          replace rb : Hid (RowV 25 y2 (w.heap.size + 2) [.int .i64 1, .slice (some ⟨g2, 0, none⟩) (rn - na) cb, .slice none 0 0]) := h9
          replace ra := Lib.hid (RowV.gr ra.out hg9 (by omega))
          replace rk := Lib.hid (RowV.gr rk.out hg9 (by omega))
          replace hA := Lib.hid (hA.out.gr hg9 (fun a e => by have := (hfa.out a e).1; omega))
          replace hB := Lib.hid (hB.out.gr hg9 (fun a e => by have := (hfb.out a e).1; omega))
          replace hS0 := Lib.hid (And.intro (hS0.out.1.gr hg9 (by omega)) (And.intro (hS0.out.2.1.gr hg9 (by omega)) (hS0.out.2.2.gr hg9 (by have := hwz.out; omega))))
          replace hd := Lib.hid (Gr.below hg9 hd.out (by omega))
          have hz5 : Hid (wr.heap.size ≤ y2.heap.size) := Nat.le_trans hz5.out hg9.size
          clear h9 hg9
          refine held_skip (i := 4) (dst := none) (w' := y2) rfl rfl (by kernel_rfl) rfl (run_store_op (x := .tmp 5) (y := .tmp 102) rfl rfl rfl hst) hS0.out ?_; go_frame
          clear hst
          obtain ⟨y3, hst, h9, hg9⟩ := run_storeVar_at (P := Try.prog) (ty := 28) (o := 0) (vs := [.int .i64 t, .int .u16 id]) rk.out (sizeKey _ _) (Nat.le_refl _) (key_one _ _)
          replace rk : Hid (RowV 28 y3 (w.heap.size + 3) [.int .i64 t, .int .u16 id]) := h9
          replace ra := Lib.hid (RowV.gr ra.out hg9 (by omega))
          replace rb := Lib.hid (RowV.gr rb.out hg9 (by omega))
          replace hA := Lib.hid (hA.out.gr hg9 (fun a e => by have := (hfa.out a e).1; omega))
          replace hB := Lib.hid (hB.out.gr hg9 (fun a e => by have := (hfb.out a e).1; omega))
          replace hS0 := Lib.hid (And.intro (hS0.out.1.gr hg9 (by omega)) (And.intro (hS0.out.2.1.gr hg9 (by omega)) (hS0.out.2.2.gr hg9 (by have := hwz.out; omega))))
          replace hd := Lib.hid (Gr.below hg9 hd.out (by omega))
          have hz5 : Hid (wr.heap.size ≤ y3.heap.size) := Nat.le_trans hz5.out hg9.size
          clear h9 hg9
          refine held_skip (i := 5) (dst := none) (w' := y3) rfl rfl (by kernel_rfl) rfl (run_store_op (x := .tmp 6) (y := .tmp 103) rfl rfl rfl hst) hS0.out ?_; go_frame
          clear hst
          refine wpAnyH_done (by kernel_rfl) ?_ _
          have s1 := ra.out
          have s2 := rb.out
          have s3 := rk.out
          have m10 := s1.cell 0
          have m11 := s1.cell 1
          have m12 := s1.cell 2
          have m20 := s2.cell 0
          have m21 := s2.cell 1
          have m22 := s2.cell 2
          have m30 := s3.cell 0
          have m31 := s3.cell 1
          simp only [List.getElem?_cons_zero, List.getElem?_cons_succ] at m10 m11 m12 m20 m21 m22 m30 m31
          clear s1 s2 s3
          go_wp2
          refine bodyPost_ret (v := .tuple #[.agg #[.int .i64 1, .slice qa na ca, .slice none 0 0], .agg #[.int .i64 1, .slice (some ⟨g2, 0, none⟩) (rn - na) cb, .slice none 0 0], .agg #[.int .i64 t, .int .u16 id]]) (by simp [results, Try.results29, go_sem, m10, m11, m12, m20, m21, m22, m30, m31]) rfl ?_
          refine ⟨⟨1, qa, na, ca, none, 0, 0⟩, ⟨1, (some ⟨g2, 0, none⟩), (rn - na), cb, none, 0, 0⟩, by rw [hkey.out], ?_, ?_, ⟨fun a ha => ⟨by have := (hfa.out a ha).1; show w.heap.size ≤ _; omega, Nat.lt_of_lt_of_le (hfa.out a ha).2 hz5.out⟩, fun a ha => by cases ha⟩, ⟨fun a ha => ⟨by have := (hfb.out a ha).1; show w.heap.size ≤ _; omega, Nat.lt_of_lt_of_le (hfb.out a ha).2 hz5.out⟩, fun a ha => by cases ha⟩, hd.out⟩
          · rw [hA'.out]; exact ⟨rfl, hA.out, KidsOn.none_ _⟩
          · rw [hB2.out]; exact ⟨rfl, hB.out, KidsOn.none_ _⟩


structure FldK (wr : World) (B g : Nat) (q : Option Addr) (n c : Nat) (M : List KidD) : Prop where
  row : RowV 25 wr g [.int .i64 2, .slice none 0 0, .slice q n c]
  own : OwnK wr (B + 6) (.slice q n c) M
  len : n = M.length
theorem FldK.push {wr u1 u2 : World} {B g : Nat} {q q' : Option Addr} {n c c' : Nat} {M : List KidD} {r : KidD} (h : FldK wr B g q n c M) (hg : g < B + 6) (hb : Below wr.heap.size wr u1) (ho : OwnK u2 (B + 6) (.slice q' (n + 1) c') (M ++ [r])) (hgr : u1.grownBy u2 (q.map (·.block))) :
    FldK (u2.setCell ⟨g, 2, none⟩ (.slice q' (n + 1) c')) B g q' (n + 1) c' (M ++ [r]) := by
  have hr1 := h.row.below hb
  have hne : some g ≠ q.map (·.block) := fun e => by
    cases q with
    | none => cases e
    | some a => simp only [Option.map_some, Option.some.injEq] at e; have := (h.own.far a rfl).1; omega
  have hr2 : RowV 25 u2 g [.int .i64 2, .slice none 0 0, .slice q n c] := hr1.block (hgr.block _ hr1.lt (fun e => hne (by simpa using e)))
  refine ⟨hr2.set 2 _, ?_, by rw [List.length_append, ← h.len]; rfl⟩
  exact ho.kept (fun a ha => (setCell_grown u2 g 2 _).block _ (ho.far a ha).2 (fun e => by have := (ho.far a ha).1; simp only [Option.some.injEq] at e; omega))
theorem FldK.keep {wr u1 u2 : World} {B g g' : Nat} {q p : Option Addr} {n c : Nat} {M : List KidD} (h : FldK wr B g q n c M) (hg : g < B + 6) (hb : Below wr.heap.size wr u1) (hgr : u1.grownBy u2 (p.map (·.block))) (hp : ∀ a, p = some a → B + 6 ≤ a.block) (hd : ∀ a b, q = some a → p = some b → a.block ≠ b.block) (j : Nat) (v : Value) (hne : g ≠ g') (hg' : g' < B + 6) :
    FldK (u2.setCell ⟨g', j, none⟩ v) B g q n c M := by
  have hr1 := h.row.below hb
  have ho1 := h.own.below hb
  have hr2 : RowV 25 u2 g [.int .i64 2, .slice none 0 0, .slice q n c] := hr1.block (hgr.block _ hr1.lt (fun e => by
    cases p with
    | none => cases e
    | some a => simp only [Option.map_some, Option.some.injEq] at e; have := hp a rfl; omega))
  have ho2 : OwnK u2 (B + 6) (.slice q n c) M := ho1.kept (fun a ha => hgr.block _ (ho1.far a ha).2 (fun e => by
    cases p with
    | none => cases e
    | some b => simp only [Option.map_some, Option.some.injEq] at e; exact hd a b ha rfl e))
  exact ⟨RowV.gr hr2 (setCell_grown u2 g' j v) hne, ho2.kept (fun a ha => (setCell_grown u2 g' j v).block _ (ho2.far a ha).2 (fun e => by have := (ho2.far a ha).1; simp only [Option.some.injEq] at e; omega)), h.len⟩
/-- what stands when i of the list have been laid, the first K in one, the others in the other one -/
structure CutK (W : World) (B : Nat) (L : List KidD) (K i : Nat) (qa : Option Addr) (na ca : Nat) (qb : Option Addr) (nb cb : Nat) (wr : World) : Prop where
  bl : Below (B + 4) W wr
  sz : W.heap.size = B + 6
  a : FldK wr B (B + 4) qa na ca (L.take (min i K))
  b : FldK wr B (B + 5) qb nb cb ((L.take i).drop K)
  d : ∀ a b, qa = some a → qb = some b → a.block ≠ b.block
theorem CutK.hitA {W wr u1 u2 : World} {B : Nat} {L : List KidD} {K i : Nat} {qa : Option Addr} {na ca : Nat} {qb : Option Addr} {nb cb : Nat} {q' : Option Addr} {c' : Nat} {r : KidD} (h : CutK W B L K i qa na ca qb nb cb wr) (hi : i < K) (hx : L[i]? = some r) (hb : Below wr.heap.size wr u1)
    (ho : OwnK u2 (B + 6) (.slice q' (na + 1) c') (L.take (min i K) ++ [r])) (hgr : u1.grownBy u2 (qa.map (·.block))) (hq : q'.map (·.block) = qa.map (·.block) ∨ q'.map (·.block) = some u1.heap.size) :
    CutK W B L K (i + 1) q' (na + 1) c' qb nb cb (u2.setCell ⟨B + 4, 2, none⟩ (.slice q' (na + 1) c')) := by
  have hfar : ∀ a, qa = some a → B + 6 ≤ a.block := fun a ha => (h.a.own.far a ha).1
  have hli : i < L.length := (List.getElem?_eq_some_iff.1 hx).1
  have hu : B + 6 ≤ u1.heap.size := by have := h.sz; have := h.bl.size; have := hb.size; omega
  have hgr4 : Below (B + 4) u1 u2 := grown_belowN hgr (by omega) (fun j hj => by
    cases qa with
    | none => cases hj
    | some a => simp only [Option.map_some, Option.some.injEq] at hj; have := hfar a rfl; omega)
  have hbl : Below (B + 4) W (u2.setCell ⟨B + 4, 2, none⟩ (.slice q' (na + 1) c')) := by
    have h1 := (h.bl.trans (hb.mono (by have := h.sz; have := h.bl.size; omega))).trans hgr4
    exact h1.trans (grown_belowN (setCell_grown u2 (B + 4) 2 _) (by have := h1.size; have := h.sz; omega) (fun j hj => by cases hj; omega))
  have hL : (L.take (i + 1)) = L.take i ++ [r] := by rw [List.take_add_one, hx]; rfl
  have hA : L.take (min (i + 1) K) = L.take (min i K) ++ [r] := by rw [show min (i + 1) K = i + 1 by omega, show min i K = i by omega, hL]
  have hB : (L.take (i + 1)).drop K = (L.take i).drop K := by rw [List.drop_eq_nil_of_le (by rw [List.length_take]; omega), List.drop_eq_nil_of_le (by rw [List.length_take]; omega)]
  have h1 := h.a.push (by omega) hb ho hgr
  have h2 := h.b.keep (g' := B + 4) (by omega) hb hgr hfar (fun a b ha hb => fun e => h.d b a hb ha e.symm) 2 (.slice q' (na + 1) c') (by omega) (by omega)
  rw [← hA] at h1
  rw [← hB] at h2
  refine ⟨hbl, h.sz, h1, h2, fun a b ha hb' => ?_⟩
  have hbn := (h.b.own.far b hb').2
  rcases hq with e | e
  · cases qa with
    | none => rw [ha] at e; cases e
    | some a0 => rw [ha] at e; simp only [Option.map_some, Option.some.injEq] at e; have := h.d a0 b rfl hb'; omega
  · rw [ha] at e; simp only [Option.map_some, Option.some.injEq] at e; have := hb.size; omega
theorem CutK.hitB {W wr u1 u2 : World} {B : Nat} {L : List KidD} {K i : Nat} {qa : Option Addr} {na ca : Nat} {qb : Option Addr} {nb cb : Nat} {q' : Option Addr} {c' : Nat} {r : KidD} (h : CutK W B L K i qa na ca qb nb cb wr) (hi : K ≤ i) (hx : L[i]? = some r) (hb : Below wr.heap.size wr u1)
    (ho : OwnK u2 (B + 6) (.slice q' (nb + 1) c') ((L.take i).drop K ++ [r])) (hgr : u1.grownBy u2 (qb.map (·.block))) (hq : q'.map (·.block) = qb.map (·.block) ∨ q'.map (·.block) = some u1.heap.size) :
    CutK W B L K (i + 1) qa na ca q' (nb + 1) c' (u2.setCell ⟨B + 5, 2, none⟩ (.slice q' (nb + 1) c')) := by
  have hfar : ∀ a, qb = some a → B + 6 ≤ a.block := fun a ha => (h.b.own.far a ha).1
  have hli : i < L.length := (List.getElem?_eq_some_iff.1 hx).1
  have hu : B + 6 ≤ u1.heap.size := by have := h.sz; have := h.bl.size; have := hb.size; omega
  have hgr4 : Below (B + 4) u1 u2 := grown_belowN hgr (by omega) (fun j hj => by
    cases qb with
    | none => cases hj
    | some a => simp only [Option.map_some, Option.some.injEq] at hj; have := hfar a rfl; omega)
  have hbl : Below (B + 4) W (u2.setCell ⟨B + 5, 2, none⟩ (.slice q' (nb + 1) c')) := by
    have h1 := (h.bl.trans (hb.mono (by have := h.sz; have := h.bl.size; omega))).trans hgr4
    exact h1.trans (grown_belowN (setCell_grown u2 (B + 5) 2 _) (by have := h1.size; have := h.sz; omega) (fun j hj => by cases hj; omega))
  have hL : (L.take (i + 1)) = L.take i ++ [r] := by rw [List.take_add_one, hx]; rfl
  have hA : L.take (min (i + 1) K) = L.take (min i K) := by rw [show min (i + 1) K = K by omega, show min i K = K by omega]
  have hB : (L.take (i + 1)).drop K = (L.take i).drop K ++ [r] := by rw [hL, List.drop_append_of_le_length (by rw [List.length_take]; omega)]
  have h1 := h.b.push (by omega) hb ho hgr
  have h2 := h.a.keep (g' := B + 5) (by omega) hb hgr hfar (fun a b ha hb => h.d a b ha hb) 2 (.slice q' (nb + 1) c') (by omega) (by omega)
  rw [← hB] at h1
  rw [← hA] at h2
  refine ⟨hbl, h.sz, h2, h1, fun a b ha hb' => ?_⟩
  have hbn := (h.a.own.far a ha).2
  rcases hq with e | e
  · cases qb with
    | none => rw [hb'] at e; cases e
    | some b0 => rw [hb'] at e; simp only [Option.map_some, Option.some.injEq] at e; have := h.d a b0 ha rfl; omega
  · rw [hb'] at e; simp only [Option.map_some, Option.some.injEq] at e; have := hb.size; omega
set_option maxRecDepth 100000 in
set_option maxHeartbeats 16000000 in
theorem refCutK_any (v : CV) (c : ContD) (K : Nat) (w : World) (h : v.On w c) (hk : c.kind = 2) (he : c.rows = []) (hn : v.kn ≤ 1000000) (hK : K ≤ v.kn) :
    Calls Try.prog 29 #[v.val, .int .i64 K] w (CutPost c K w) := by
  have hrows := Lib.hid (h.kids)
  have hL := Lib.hid h.kl
  have hO := h.rl
  have hkd : v.k = 2 := h.kind.trans hk
  rw [he] at hO
  obtain ⟨k, rq, rn, rc, kq, kn, kc⟩ := v
  simp only at hrows hL hO hkd hn hK
  subst hkd
  have hO : rn = 0 := hO.symm
  subst hO
  have hA' : Hid (cutA c K = ⟨2, [], c.kids.take K⟩) := by show _ = _; unfold cutA; exact if_neg (by rw [hk]; decide)
  have hB' : Hid (cutB c K = ⟨2, [], leastAt zK (c.kids.drop K)⟩) := by show _ = _; unfold cutB; exact if_neg (by rw [hk]; decide)
  have hS' : Hid (cutS c K = ((c.kids[K]?).map (·.least)).getD zK) := by show _ = _; unfold cutS; exact if_neg (by rw [hk]; decide)
  obtain ⟨L, hLL⟩ : ∃ L, c.kids = L := ⟨_, rfl⟩
  rw [hLL] at hrows hL hA' hB' hS'
  have hok := Lib.hid hrows.out.ok
  clear h hk he hLL
  obtain ⟨W0, hW⟩ : ∃ W, (((((w.alloc (.cells #[.int .i64 2, .slice rq 0 rc, .slice kq kn kc] 25)).alloc (.cells #[.int .i64 0, .slice none 0 0, .slice none 0 0] 25)).alloc (.cells #[.int .i64 0, .slice none 0 0, .slice none 0 0] 25)).alloc (.cells #[.int .i64 0, .int .u16 0] 28)).alloc (.cells #[.int .i64 0, .slice none 0 0, .slice none 0 0] 25)).alloc (.cells #[.int .i64 0, .slice none 0 0, .slice none 0 0] 25) = W := ⟨_, rfl⟩
  have hbx := Lib.hid (six_rows (a := [.int .i64 2, .slice rq 0 rc, .slice kq kn kc]) (b := [.int .i64 0, .slice none 0 0, .slice none 0 0]) (c := [.int .i64 0, .slice none 0 0, .slice none 0 0]) (d := [.int .i64 0, .int .u16 0]) (e := [.int .i64 0, .slice none 0 0, .slice none 0 0]) (f := [.int .i64 0, .slice none 0 0, .slice none 0 0]) hW)
  have r0 := hbx.out.2.1
  have r4 := hbx.out.2.2.2.2.2.1
  have r5 := hbx.out.2.2.2.2.2.2.1
  obtain ⟨W1, h1⟩ : ∃ x, W0.setCell ⟨w.heap.size + 4, 0, none⟩ (.int .i64 2) = x := ⟨_, rfl⟩
  obtain ⟨W2, h2⟩ : ∃ x, W1.setCell ⟨w.heap.size + 5, 0, none⟩ (.int .i64 2) = x := ⟨_, rfl⟩
  have g1 := setCell_grown W0 (w.heap.size + 4) 0 (.int .i64 2)
  rw [h1] at g1
  have g2 := setCell_grown W1 (w.heap.size + 5) 0 (.int .i64 2)
  rw [h2] at g2
  have x4 := r4.set 0 (.int .i64 2)
  rw [h1] at x4
  have y5 := RowV.gr r5 g1 (by omega)
  have x5 := y5.set 0 (.int .i64 2)
  rw [h2] at x5
  have y4 := RowV.gr x4 g2 (by omega)
  have z0 := RowV.gr r0 g1 (by omega)
  have c0 : W0.cell? ⟨w.heap.size, 0, none⟩ = some (.int .i64 2) := r0.cell 0
  have d0 : W1.cell? ⟨w.heap.size, 0, none⟩ = some (.int .i64 2) := z0.cell 0
  have c4 : W0.cell? ⟨w.heap.size + 4, 0, none⟩ = some (.int .i64 0) := r4.cell 0
  have f4 := r4.free 0
  have c5 : W1.cell? ⟨w.heap.size + 5, 0, none⟩ = some (.int .i64 0) := y5.cell 0
  have f5 := y5.free 0
  have hbb : Hid (Below w.heap.size w W2) := Gr.below g2 (Gr.below g1 hbx.out.1 (by omega)) (by omega)
  have hsz : Hid (W2.heap.size = w.heap.size + 6) := by show _ = _; rw [← h2, ← h1]; simp only [World.size_setCell]; exact hbx.out.2.2.2.2.2.2.2
  have hr0 : Hid (RowV 25 W2 w.heap.size [.int .i64 2, .slice rq 0 rc, .slice kq kn kc]) := RowV.gr z0 g2 (by omega)
  have hr1 : Hid (RowV 25 W2 (w.heap.size + 1) [.int .i64 0, .slice none 0 0, .slice none 0 0]) := RowV.gr (RowV.gr hbx.out.2.2.1 g1 (by omega)) g2 (by omega)
  have hr2 : Hid (RowV 25 W2 (w.heap.size + 2) [.int .i64 0, .slice none 0 0, .slice none 0 0]) := RowV.gr (RowV.gr hbx.out.2.2.2.1 g1 (by omega)) g2 (by omega)
  have hr3 : Hid (RowV 28 W2 (w.heap.size + 3) [.int .i64 0, .int .u16 0]) := RowV.gr (RowV.gr hbx.out.2.2.2.2.1 g1 (by omega)) g2 (by omega)
  have hst : Hid (CutK W2 w.heap.size L K 0 none 0 0 none 0 0 W2) := ⟨Below.refl _ _, hsz.out, ⟨y4, OwnK.nil _ _, by simp⟩, ⟨x5, by rw [List.take_zero, List.drop_nil]; exact OwnK.nil _ _, by simp⟩, fun a b ha => by cases ha⟩
  clear r0 r4 r5 x4 y5 x5 y4 z0 g1 g2 hbx
  show Calls _ _ #[.agg #[.int .i64 2, .slice rq 0 rc, .slice kq kn kc], .int .i64 K] _ _
  go_enter Try.func29, Try.ntmps29
  go_wp2
  clear c0 d0 c4 f4 c5 f5 h1 h2 hW
  have hr0'' := hr0.out
  have c1 : W2.cell? ⟨w.heap.size, 1, none⟩ = some (.slice rq 0 rc) := hr0''.cell 1
  clear hr0''
  go_loopw [9] (fun v wr => v = .int .i64 0 ∧ W2 = wr) (fun _ _ => 0)
  case atStart => exact ⟨rfl, rfl⟩
  case round =>
    obtain ⟨rfl, rfl⟩ := hrel
    go_wp2
    clear c1
    go_loopw [10] (fun v9 wr => ∃ (i : Nat) (qa : Option Addr) (na ca : Nat) (qb : Option Addr) (nb cb : Nat), i ≤ kn ∧ v9 = .int .i64 i ∧ Hid (CutK W2 w.heap.size L K i qa na ca qb nb cb wr)) (fun v9 _ => kn - (RowKit.intOf v9).toNat)
    case atStart => exact ⟨0, none, 0, 0, none, 0, 0, Nat.zero_le _, rfl, hst⟩
    case round =>
      obtain ⟨i, qa, na, ca, qb, nb, cb, hi, rfl, hcr⟩ := hrel
      have hr0' := Lib.hid (hr0.out.block (hcr.out.bl.block _ (by omega)))
      have c1 : wr.cell? ⟨w.heap.size, 1, none⟩ = some (.slice rq 0 rc) := hr0'.out.cell 1
      have c2 : wr.cell? ⟨w.heap.size, 2, none⟩ = some (.slice kq kn kc) := hr0'.out.cell 2
      by_cases hlt : i < kn
      · have hdw : Hid (Below w.heap.size w wr) := hbb.out.trans (hcr.out.bl.mono (by omega))
        obtain ⟨A, ⟨⟨t, id⟩, p⟩, hqA, hx, hokx, hcA⟩ := hrows.out.at hlt
        subst hqA
        have hx' := Lib.hid hx
        have hokx := Lib.hid hokx
        have hs1 := sizeKid t id p
        have helm : Hid (∀ u, Below (w.heap.size + 6) wr u → ∀ j x, ([.int .i64 t, .int .u16 id, .int .i64 p] : List Value)[j]? = some x → u.cell? ((A.add (i * 3)).add j) = some x) := fun u hu j x hj => cell_keeps (hdw.out.trans (hu.mono (by omega))) (Nat.le_refl _) (hcA j x hj)
        have ec : Hid (wr.cell? ⟨w.heap.size, 2, none⟩ = some (.slice (some A) kn kc)) := hr0'.out.cell 2
        have i0 : (0 : Int) ≤ i := by omega
        have i1 : (i : Int) < kn := by omega
        have hlenA : (L.take (min i K)).length ≤ 1000000 := by rw [List.length_take]; have := hL.out; omega
        have hlenB : ((L.take i).drop K).length ≤ 1000000 := by rw [List.length_drop, List.length_take]; have := hL.out; omega
        clear hx hcA hr0'
        by_cases hiK : i < K
        · have ef : Hid (wr.cell? ⟨w.heap.size + 4, 2, none⟩ = some (.slice qa na ca)) := hcr.out.a.row.cell 2
          have hk1 : decide ((i : Int) < K) = true := decide_eq_true (by omega)
          go_wp2_with fail
          refine wp_region_x (by kernel_rfl) 10 (fun u => Below (w.heap.size + 6) wr u) ?_
          change wpAnyX _ _ _ _ _ _ _ _ _ (World.drew wr)
          have hX : Below (w.heap.size + 6) wr (World.drew wr) := ⟨rfl, rfl, rfl, Nat.le_refl _, fun _ _ => rfl⟩
          have hwd : Below wr.heap.size wr (World.drew wr) := below_drew wr
          generalize World.drew wr = u0 at hX hwd ⊢
          refine x_pure (i := 0) (dst := some 58) (v := .pointer (some ⟨w.heap.size + 4, 2, none⟩)) rfl rfl (by kernel_rfl) (by kernel_rfl) (by kernel_rfl) (by kernel_rfl) (fun _ _ _ h => h) (.inl ⟨rfl, fun u hu => by go_simp⟩) (fun _ => hX) ?_; go_frame
          refine x_take (i := 1) (dst := some 59) (v := .slice qa na ca) rfl rfl (by kernel_rfl) (by kernel_rfl) (by kernel_rfl) (by kernel_rfl) (by kernel_rfl) (fun _ _ _ h => h) (.inl ⟨rfl, fun u hu => by have c1 := cell_low hu (show w.heap.size + 4 < w.heap.size + 6 by omega) ef.out; go_simp⟩) hX ?_; go_frame
          refine x_pure (i := 2) (dst := some 60) (v := .pointer (some ⟨w.heap.size, 2, none⟩)) rfl rfl (by kernel_rfl) (by kernel_rfl) (by kernel_rfl) (by kernel_rfl) (fun _ _ _ h => h) (.inl ⟨rfl, fun u hu => by go_simp⟩) (fun _ => hX) ?_; go_frame
          refine x_take (i := 3) (dst := some 61) (v := .slice (some A) kn kc) rfl rfl (by kernel_rfl) (by kernel_rfl) (by kernel_rfl) (by kernel_rfl) (by kernel_rfl) (fun _ _ _ h => h) (.inl ⟨rfl, fun u hu => by have c1 := cell_low hu (show w.heap.size < w.heap.size + 6 by omega) ec.out; go_simp⟩) hX ?_; go_frame
          refine x_pure (i := 4) (dst := some 62) (v := .int .i64 (i : Int)) rfl rfl (by kernel_rfl) (by kernel_rfl) (by kernel_rfl) (by kernel_rfl) (fun _ _ _ h => h) (.inl ⟨rfl, fun u hu => by go_simp⟩) (fun _ => hX) ?_; go_frame
          refine x_pure (i := 5) (dst := some 63) (v := .pointer (some (A.add (i * 3)))) rfl rfl (by kernel_rfl) (by kernel_rfl) (by kernel_rfl) (by kernel_rfl) (fun _ _ _ h => h) (.inl ⟨rfl, fun u hu => by go_simp⟩) (fun _ => hX) ?_; go_frame
          refine x_take (i := 6) (dst := some 64) (v := .agg #[.int .i64 t, .int .u16 id, .int .i64 p]) rfl rfl (by kernel_rfl) (by kernel_rfl) (by kernel_rfl) (by kernel_rfl) (by kernel_rfl) (fun _ _ _ h => h) (y_load_agg 64 (.tmp 63) rfl rfl rfl (fun u hu => run_loadVar_at Try.underlying64 rfl hs1 _ (helm.out u hu))) hX ?_; go_frame
          obtain ⟨u1, hu1⟩ : ∃ x, u0.alloc (.cells #[.int .i64 t, .int .u16 id, .int .i64 p] 64) = x := ⟨_, rfl⟩
          have hb1 := Lib.hid (one_row (xs := [.int .i64 t, .int .u16 id, .int .i64 p]) hu1)
          have hwu := below_step hb1.out.1 hwd
          have hX1 : Below (w.heap.size + 6) wr u1 := hwu.mono (by have := hcr.out.sz; have := hcr.out.bl.size; omega)
          refine x_value (i := 7) (dst := some 65) (w' := u1) (v := .slice (some ⟨u0.heap.size, 0, none⟩) 1 1) rfl rfl (by kernel_rfl) rfl (by rw [← hu1]; go_simp) (fun _ => hX1) ?_; go_frame
          have hone : KidsOn u1 (some ⟨u0.heap.size, 0, none⟩) 1 1 [⟨⟨t, id⟩, p⟩] := RowV.kids1 (r := ⟨⟨t, id⟩, p⟩) hb1.out.2.1 hokx.out
          obtain ⟨q', c', u2, hrun, ho2, hg2, hq2⟩ := run_append_k Try.underlying23 infoKid rfl 23 (hcr.out.a.own.below hwu) hone (by have := hcr.out.a.len; have := hlenA; omega) (by have := hcr.out.a.len; have := hlenA; omega) (by have := hcr.out.sz; have := hcr.out.bl.size; have := hwu.size; omega)
          have hfar : ∀ a, qa = some a → w.heap.size + 6 ≤ a.block := fun a ha => (hcr.out.a.own.far a ha).1
          have hX2 : Below (w.heap.size + 6) wr u2 := hX1.trans (grown_belowN hg2 (by have := hX1.size; have := hcr.out.sz; have := hcr.out.bl.size; omega) (fun j hj => by cases qa with | none => cases hj | some a => simp only [Option.map_some, Option.some.injEq] at hj; have := hfar a rfl; omega))
          refine x_value (i := 8) (dst := some 66) (w' := u2) rfl rfl (by kernel_rfl) rfl (run_append_op2 (s := .tmp 59) (x := .tmp 65) rfl rfl rfl hrun) (fun _ => hX2) ?_; go_frame
          refine x_pure (i := 9) (dst := some 67) (v := .pointer (some ⟨w.heap.size + 4, 2, none⟩)) rfl rfl (by kernel_rfl) (by kernel_rfl) (by kernel_rfl) (by kernel_rfl) (fun _ _ _ h => h) (.inl ⟨rfl, fun u hu => by go_simp⟩) (fun _ => hX2) ?_; go_frame
          obtain ⟨u3, hu3⟩ : ∃ x, u2.setCell ⟨w.heap.size + 4, 2, none⟩ (.slice q' (na + 1) c') = x := ⟨_, rfl⟩
          have hnew := Lib.hid (hcr.out.hitA hiK hx'.out hwu ho2 hg2 hq2)
          rw [hu3] at hnew
          have e4 : u2.cell? ⟨w.heap.size + 4, 2, none⟩ = some (.slice qa na ca) := cell_low hX2 (show w.heap.size + 4 < w.heap.size + 6 by omega) ef.out
          have f4 : u2.frozen? ⟨w.heap.size + 4, 2, none⟩ = false := (hcr.out.a.row.block (hX2.block _ (show w.heap.size + 4 < w.heap.size + 6 by omega))).free 2
          have st4 : (storeVar 23 ⟨w.heap.size + 4, 2, none⟩ (.slice q' (na + 1) c')).run Try.prog u2 = .ok () u3 := by rw [← hu3]; go_simp
          refine x_skip (i := 10) (dst := none) rfl rfl (by kernel_rfl) rfl (run_store_op (x := .tmp 67) (y := .tmp 66) rfl rfl rfl st4) (no_x (by kernel_rfl)) ?_; go_frame
          refine x_done (by kernel_rfl) ?_
          clear st4 e4 f4 hu3 hrun ho2 hg2 hq2 hfar hX hX1 hX2 hwd hwu hu1 hb1 hone hcr helm ef ec
          go_wp2
          go_roundw
          case rel => exact ⟨i + 1, q', na + 1, c', qb, nb, cb, by omega, by go_num, hnew⟩
          case measure => simp [RowKit.intOf]; omega
        · have ef : Hid (wr.cell? ⟨w.heap.size + 5, 2, none⟩ = some (.slice qb nb cb)) := hcr.out.b.row.cell 2
          have hk1 : decide ((i : Int) < K) = false := decide_eq_false (by omega)
          have hiK : K ≤ i := by omega
          go_wp2_with fail
          refine wp_region_x (by kernel_rfl) 10 (fun u => Below (w.heap.size + 6) wr u) ?_
          change wpAnyX _ _ _ _ _ _ _ _ _ (World.drew wr)
          have hX : Below (w.heap.size + 6) wr (World.drew wr) := ⟨rfl, rfl, rfl, Nat.le_refl _, fun _ _ => rfl⟩
          have hwd : Below wr.heap.size wr (World.drew wr) := below_drew wr
          generalize World.drew wr = u0 at hX hwd ⊢
          refine x_pure (i := 0) (dst := some 68) (v := .pointer (some ⟨w.heap.size + 5, 2, none⟩)) rfl rfl (by kernel_rfl) (by kernel_rfl) (by kernel_rfl) (by kernel_rfl) (fun _ _ _ h => h) (.inl ⟨rfl, fun u hu => by go_simp⟩) (fun _ => hX) ?_; go_frame
          refine x_take (i := 1) (dst := some 69) (v := .slice qb nb cb) rfl rfl (by kernel_rfl) (by kernel_rfl) (by kernel_rfl) (by kernel_rfl) (by kernel_rfl) (fun _ _ _ h => h) (.inl ⟨rfl, fun u hu => by have c1 := cell_low hu (show w.heap.size + 5 < w.heap.size + 6 by omega) ef.out; go_simp⟩) hX ?_; go_frame
          refine x_pure (i := 2) (dst := some 70) (v := .pointer (some ⟨w.heap.size, 2, none⟩)) rfl rfl (by kernel_rfl) (by kernel_rfl) (by kernel_rfl) (by kernel_rfl) (fun _ _ _ h => h) (.inl ⟨rfl, fun u hu => by go_simp⟩) (fun _ => hX) ?_; go_frame
          refine x_take (i := 3) (dst := some 71) (v := .slice (some A) kn kc) rfl rfl (by kernel_rfl) (by kernel_rfl) (by kernel_rfl) (by kernel_rfl) (by kernel_rfl) (fun _ _ _ h => h) (.inl ⟨rfl, fun u hu => by have c1 := cell_low hu (show w.heap.size < w.heap.size + 6 by omega) ec.out; go_simp⟩) hX ?_; go_frame
          refine x_pure (i := 4) (dst := some 72) (v := .int .i64 (i : Int)) rfl rfl (by kernel_rfl) (by kernel_rfl) (by kernel_rfl) (by kernel_rfl) (fun _ _ _ h => h) (.inl ⟨rfl, fun u hu => by go_simp⟩) (fun _ => hX) ?_; go_frame
          refine x_pure (i := 5) (dst := some 73) (v := .pointer (some (A.add (i * 3)))) rfl rfl (by kernel_rfl) (by kernel_rfl) (by kernel_rfl) (by kernel_rfl) (fun _ _ _ h => h) (.inl ⟨rfl, fun u hu => by go_simp⟩) (fun _ => hX) ?_; go_frame
          refine x_take (i := 6) (dst := some 74) (v := .agg #[.int .i64 t, .int .u16 id, .int .i64 p]) rfl rfl (by kernel_rfl) (by kernel_rfl) (by kernel_rfl) (by kernel_rfl) (by kernel_rfl) (fun _ _ _ h => h) (y_load_agg 64 (.tmp 73) rfl rfl rfl (fun u hu => run_loadVar_at Try.underlying64 rfl hs1 _ (helm.out u hu))) hX ?_; go_frame
          obtain ⟨u1, hu1⟩ : ∃ x, u0.alloc (.cells #[.int .i64 t, .int .u16 id, .int .i64 p] 64) = x := ⟨_, rfl⟩
          have hb1 := Lib.hid (one_row (xs := [.int .i64 t, .int .u16 id, .int .i64 p]) hu1)
          have hwu := below_step hb1.out.1 hwd
          have hX1 : Below (w.heap.size + 6) wr u1 := hwu.mono (by have := hcr.out.sz; have := hcr.out.bl.size; omega)
          refine x_value (i := 7) (dst := some 75) (w' := u1) (v := .slice (some ⟨u0.heap.size, 0, none⟩) 1 1) rfl rfl (by kernel_rfl) rfl (by rw [← hu1]; go_simp) (fun _ => hX1) ?_; go_frame
          have hone : KidsOn u1 (some ⟨u0.heap.size, 0, none⟩) 1 1 [⟨⟨t, id⟩, p⟩] := RowV.kids1 (r := ⟨⟨t, id⟩, p⟩) hb1.out.2.1 hokx.out
          obtain ⟨q', c', u2, hrun, ho2, hg2, hq2⟩ := run_append_k Try.underlying23 infoKid rfl 23 (hcr.out.b.own.below hwu) hone (by have := hcr.out.b.len; have := hlenB; omega) (by have := hcr.out.b.len; have := hlenB; omega) (by have := hcr.out.sz; have := hcr.out.bl.size; have := hwu.size; omega)
          have hfar : ∀ a, qb = some a → w.heap.size + 6 ≤ a.block := fun a ha => (hcr.out.b.own.far a ha).1
          have hX2 : Below (w.heap.size + 6) wr u2 := hX1.trans (grown_belowN hg2 (by have := hX1.size; have := hcr.out.sz; have := hcr.out.bl.size; omega) (fun j hj => by cases qb with | none => cases hj | some a => simp only [Option.map_some, Option.some.injEq] at hj; have := hfar a rfl; omega))
          refine x_value (i := 8) (dst := some 76) (w' := u2) rfl rfl (by kernel_rfl) rfl (run_append_op2 (s := .tmp 69) (x := .tmp 75) rfl rfl rfl hrun) (fun _ => hX2) ?_; go_frame
          refine x_pure (i := 9) (dst := some 77) (v := .pointer (some ⟨w.heap.size + 5, 2, none⟩)) rfl rfl (by kernel_rfl) (by kernel_rfl) (by kernel_rfl) (by kernel_rfl) (fun _ _ _ h => h) (.inl ⟨rfl, fun u hu => by go_simp⟩) (fun _ => hX2) ?_; go_frame
          obtain ⟨u3, hu3⟩ : ∃ x, u2.setCell ⟨w.heap.size + 5, 2, none⟩ (.slice q' (nb + 1) c') = x := ⟨_, rfl⟩
          have hnew := Lib.hid (hcr.out.hitB hiK hx'.out hwu ho2 hg2 hq2)
          rw [hu3] at hnew
          have e4 : u2.cell? ⟨w.heap.size + 5, 2, none⟩ = some (.slice qb nb cb) := cell_low hX2 (show w.heap.size + 5 < w.heap.size + 6 by omega) ef.out
          have f4 : u2.frozen? ⟨w.heap.size + 5, 2, none⟩ = false := (hcr.out.b.row.block (hX2.block _ (show w.heap.size + 5 < w.heap.size + 6 by omega))).free 2
          have st4 : (storeVar 23 ⟨w.heap.size + 5, 2, none⟩ (.slice q' (nb + 1) c')).run Try.prog u2 = .ok () u3 := by rw [← hu3]; go_simp
          refine x_skip (i := 10) (dst := none) rfl rfl (by kernel_rfl) rfl (run_store_op (x := .tmp 77) (y := .tmp 76) rfl rfl rfl st4) (no_x (by kernel_rfl)) ?_; go_frame
          refine x_done (by kernel_rfl) ?_
          clear st4 e4 f4 hu3 hrun ho2 hg2 hq2 hfar hX hX1 hX2 hwd hwu hu1 hb1 hone hcr helm ef ec
          go_wp2
          go_roundw
          case rel => exact ⟨i + 1, qa, na, ca, q', nb + 1, c', by omega, by go_num, hnew⟩
          case measure => simp [RowKit.intOf]; omega
      · obtain rfl : kn = i := by omega
        clear hlt
        obtain ⟨w5, hw5⟩ : ∃ x, wr.alloc (.cells #[.int .i64 0, .int .u16 0] 28) = x := ⟨_, rfl⟩
        have hbk := Lib.hid (one_row (xs := [.int .i64 0, .int .u16 0]) hw5)
        have hb5 := hbk.out.1
        have hLn : L.length = kn := hL.out
        have hna : na = K := by have := hcr.out.a.len; rw [List.length_take] at this; omega
        have hnb : nb = kn - K := by have := hcr.out.b.len; rw [List.length_drop, List.length_take] at this; omega
        subst hna hnb
        have hwz : Hid (w.heap.size + 6 ≤ wr.heap.size) := by have := hcr.out.sz; have := hcr.out.bl.size; show _ ≤ _; omega
        have hoa : Hid (KidsOn wr qa na ca (L.take na)) := by
          have h := hcr.out.a.own
          rw [show min kn na = na by omega] at h
          exact h.reads (fun r hr => hok.out r (List.mem_of_mem_take hr))
        have hob0 := Lib.hid hcr.out.b.own
        rw [List.take_of_length_le (by omega)] at hob0
        have hfa : Hid (∀ a, qa = some a → w.heap.size + 6 ≤ a.block ∧ a.block < wr.heap.size) := hcr.out.a.own.far
        have hfb : Hid (∀ a, qb = some a → w.heap.size + 6 ≤ a.block ∧ a.block < wr.heap.size) := hcr.out.b.own.far
        have hdd := Lib.hid hcr.out.d
        have ra := Lib.hid ((hr1.out.block (hcr.out.bl.block _ (by omega))).below hb5)
        have rb := Lib.hid ((hr2.out.block (hcr.out.bl.block _ (by omega))).below hb5)
        have rk := Lib.hid ((hr3.out.block (hcr.out.bl.block _ (by omega))).below hb5)
        have ba := Lib.hid (hcr.out.a.row.below hb5)
        have bb := Lib.hid (hcr.out.b.row.below hb5)
        have bk := Lib.hid hbk.out.2.1
        have hd : Hid (Below w.heap.size w w5) := below_step hb5 (hbb.out.trans (hcr.out.bl.mono (by omega)))
        have hA := Lib.hid (hoa.out.below hb5 (Nat.le_refl _))
        have hz5 : Hid (wr.heap.size ≤ w5.heap.size) := hb5.size
        have b1 : w5.cell? ⟨w.heap.size + 5, 1, none⟩ = some (.slice none 0 0) := bb.out.cell 1
        have b2 : w5.cell? ⟨w.heap.size + 5, 2, none⟩ = some (.slice qb (kn - na) cb) := bb.out.cell 2
        by_cases hz : kn - na = 0
        · have hdr : L.drop na = [] := List.drop_eq_nil_of_le (by omega)
          have hLK : L[na]? = none := List.getElem?_eq_none (by omega)
          have hkey : Hid (cutS c na = ⟨0, 0⟩) := by show _ = _; rw [hS'.out, hLK]; rfl
          have hB2 : Hid (cutB c na = ⟨2, [], []⟩) := by show _ = _; rw [hB'.out, hdr]; rfl
          rw [hdr] at hob0
          have hB := Lib.hid ((hob0.out.reads (fun r hr => by cases hr)).below hb5 (Nat.le_refl _))
          rw [hz] at hB bb b2
          have hz6 := hz5
          clear hcr hr0' hr0 hr1 hr2 hr3 hbk hb5 hob0 hst c1
          go_wp2_with fail
          have xa := Lib.hid ba.out.boxed
          have xb := Lib.hid bb.out.boxed
          have xk := Lib.hid bk.out.boxed
          clear ba bb bk
          refine wp_region_held (S := fun u => Boxed u (w.heap.size + 4) [.int .i64 2, .slice none 0 0, .slice qa na ca] ∧ Boxed u (w.heap.size + 5) [.int .i64 2, .slice none 0 0, .slice qb 0 cb] ∧ Boxed u wr.heap.size [.int .i64 0, .int .u16 0]) (by kernel_rfl) ?_
          change wpAnyH _ _ _ _ _ _ _ _ (World.drew w5)
          have hS0 : Hid (Boxed (World.drew w5) (w.heap.size + 4) [.int .i64 2, .slice none 0 0, .slice qa na ca] ∧ Boxed (World.drew w5) (w.heap.size + 5) [.int .i64 2, .slice none 0 0, .slice qb 0 cb] ∧ Boxed (World.drew w5) wr.heap.size [.int .i64 0, .int .u16 0]) := ⟨xa.out.below (below_drew _) (Nat.le_refl _), xb.out.below (below_drew _) (Nat.le_refl _), xk.out.below (below_drew _) (Nat.le_refl _)⟩
          have ra := Lib.hid (ra.out.below (below_drew w5))
          have rb := Lib.hid (rb.out.below (below_drew w5))
          have rk := Lib.hid (rk.out.below (below_drew w5))
          have hA := Lib.hid (hA.out.below (below_drew w5) (Nat.le_refl _))
          have hB := Lib.hid (hB.out.below (below_drew w5) (Nat.le_refl _))
          have hd := Lib.hid (below_step (below_drew w5) hd.out)
          have hz6 : Hid (wr.heap.size ≤ (World.drew w5).heap.size) := hz6.out
          clear xa xb xk
          generalize World.drew w5 = y0 at hS0 ra rb rk hA hB hd hz6 ⊢
          refine held_tk (i := 0) (dst := some 101) rfl rfl (y_load_agg 25 (.tmp 7) rfl rfl rfl (fun u hu => run_loadVar_at Try.underlying25 rfl (sizeCont _ _ _) _ hu.1.all)) hS0.out ?_; go_frame
          refine held_tk (i := 1) (dst := some 102) rfl rfl (y_load_agg 25 (.tmp 8) rfl rfl rfl (fun u hu => run_loadVar_at Try.underlying25 rfl (sizeCont _ _ _) _ hu.2.1.all)) hS0.out ?_; go_frame
          refine held_tk (i := 2) (dst := some 103) rfl rfl (y_load_agg 28 (.tmp 11) rfl rfl rfl (fun u hu => run_loadVar_at Try.underlying28 rfl (sizeKey _ _) _ hu.2.2.all)) hS0.out ?_; go_frame
          obtain ⟨y1, hst, h9, hg9⟩ := run_storeVar_at (P := Try.prog) (ty := 25) (o := 0) (vs := [.int .i64 2, .slice none 0 0, .slice qa na ca]) ra.out (sizeCont _ _ _) (Nat.le_refl _) (cont_one _ _ _ _ _ _ _)
          replace ra : Hid (RowV 25 y1 (w.heap.size + 1) [.int .i64 2, .slice none 0 0, .slice qa na ca]) := h9
          replace rb := Lib.hid (RowV.gr rb.out hg9 (by omega))
          replace rk := Lib.hid (RowV.gr rk.out hg9 (by omega))
          replace hA := Lib.hid (hA.out.gr hg9 (fun a e => by have := (hfa.out a e).1; omega))
          replace hB := Lib.hid (hB.out.gr hg9 (fun a e => by have := (hfb.out a e).1; omega))
          replace hS0 := Lib.hid (And.intro (hS0.out.1.gr hg9 (by omega)) (And.intro (hS0.out.2.1.gr hg9 (by omega)) (hS0.out.2.2.gr hg9 (by have := hwz.out; omega))))
          replace hd := Lib.hid (Gr.below hg9 hd.out (by omega))
          have hz5 : Hid (wr.heap.size ≤ y1.heap.size) := Nat.le_trans hz6.out hg9.size
          clear h9 hg9
          refine held_skip (i := 3) (dst := none) (w' := y1) rfl rfl (by kernel_rfl) rfl (run_store_op (x := .tmp 4) (y := .tmp 101) rfl rfl rfl hst) hS0.out ?_; go_frame
          clear hst
          obtain ⟨y2, hst, h9, hg9⟩ := run_storeVar_at (P := Try.prog) (ty := 25) (o := 0) (vs := [.int .i64 2, .slice none 0 0, .slice qb 0 cb]) rb.out (sizeCont _ _ _) (Nat.le_refl _) (cont_one _ _ _ _ _ _ _)
          replace rb : Hid (RowV 25 y2 (w.heap.size + 2) [.int .i64 2, .slice none 0 0, .slice qb 0 cb]) := h9
          replace ra := Lib.hid (RowV.gr ra.out hg9 (by omega))
          replace rk := Lib.hid (RowV.gr rk.out hg9 (by omega))
          replace hA := Lib.hid (hA.out.gr hg9 (fun a e => by have := (hfa.out a e).1; omega))
          replace hB := Lib.hid (hB.out.gr hg9 (fun a e => by have := (hfb.out a e).1; omega))
          replace hS0 := Lib.hid (And.intro (hS0.out.1.gr hg9 (by omega)) (And.intro (hS0.out.2.1.gr hg9 (by omega)) (hS0.out.2.2.gr hg9 (by have := hwz.out; omega))))
          replace hd := Lib.hid (Gr.below hg9 hd.out (by omega))
          have hz5 : Hid (wr.heap.size ≤ y2.heap.size) := Nat.le_trans hz5.out hg9.size
          clear h9 hg9
          refine held_skip (i := 4) (dst := none) (w' := y2) rfl rfl (by kernel_rfl) rfl (run_store_op (x := .tmp 5) (y := .tmp 102) rfl rfl rfl hst) hS0.out ?_; go_frame
          clear hst
          obtain ⟨y3, hst, h9, hg9⟩ := run_storeVar_at (P := Try.prog) (ty := 28) (o := 0) (vs := [.int .i64 0, .int .u16 0]) rk.out (sizeKey _ _) (Nat.le_refl _) (key_one _ _)
          replace rk : Hid (RowV 28 y3 (w.heap.size + 3) [.int .i64 0, .int .u16 0]) := h9
          replace ra := Lib.hid (RowV.gr ra.out hg9 (by omega))
          replace rb := Lib.hid (RowV.gr rb.out hg9 (by omega))
          replace hA := Lib.hid (hA.out.gr hg9 (fun a e => by have := (hfa.out a e).1; omega))
          replace hB := Lib.hid (hB.out.gr hg9 (fun a e => by have := (hfb.out a e).1; omega))
          replace hS0 := Lib.hid (And.intro (hS0.out.1.gr hg9 (by omega)) (And.intro (hS0.out.2.1.gr hg9 (by omega)) (hS0.out.2.2.gr hg9 (by have := hwz.out; omega))))
          replace hd := Lib.hid (Gr.below hg9 hd.out (by omega))
          have hz5 : Hid (wr.heap.size ≤ y3.heap.size) := Nat.le_trans hz5.out hg9.size
          clear h9 hg9
          refine held_skip (i := 5) (dst := none) (w' := y3) rfl rfl (by kernel_rfl) rfl (run_store_op (x := .tmp 6) (y := .tmp 103) rfl rfl rfl hst) hS0.out ?_; go_frame
          clear hst
          refine wpAnyH_done (by kernel_rfl) ?_ _
          have s1 := ra.out
          have s2 := rb.out
          have s3 := rk.out
          have m10 := s1.cell 0
          have m11 := s1.cell 1
          have m12 := s1.cell 2
          have m20 := s2.cell 0
          have m21 := s2.cell 1
          have m22 := s2.cell 2
          have m30 := s3.cell 0
          have m31 := s3.cell 1
          simp only [List.getElem?_cons_zero, List.getElem?_cons_succ] at m10 m11 m12 m20 m21 m22 m30 m31
          clear s1 s2 s3
          go_wp2
          refine bodyPost_ret (v := .tuple #[.agg #[.int .i64 2, .slice none 0 0, .slice qa na ca], .agg #[.int .i64 2, .slice none 0 0, .slice qb 0 cb], .agg #[.int .i64 0, .int .u16 0]]) (by simp [results, Try.results29, go_sem, m10, m11, m12, m20, m21, m22, m30, m31]) rfl ?_
          refine ⟨⟨2, none, 0, 0, qa, na, ca⟩, ⟨2, none, 0, 0, qb, 0, cb⟩, by rw [hkey.out], ?_, ?_, ⟨fun a ha => (by cases ha), fun a ha => ⟨by have := (hfa.out a ha).1; show w.heap.size ≤ _; omega, Nat.lt_of_lt_of_le (hfa.out a ha).2 hz5.out⟩⟩, ⟨fun a ha => (by cases ha), fun a ha => ⟨by have := (hfb.out a ha).1; show w.heap.size ≤ _; omega, Nat.lt_of_lt_of_le (hfb.out a ha).2 hz5.out⟩⟩, hd.out⟩
          · rw [hA'.out]; exact ⟨rfl, RowsOn.none_ _, hA.out⟩
          · rw [hB2.out]; exact ⟨rfl, RowsOn.none_ _, hB.out⟩
        · obtain ⟨⟨⟨t, id⟩, p⟩, hLK⟩ : ∃ r, L[na]? = some r := ⟨_, List.getElem?_eq_getElem (by omega)⟩
          have hdr : L.drop na = ⟨⟨t, id⟩, p⟩ :: L.drop (na + 1) := by
            obtain ⟨hl, h⟩ := List.getElem?_eq_some_iff.1 hLK
            rw [← h]
            exact List.drop_eq_getElem_cons hl
          have hkey : Hid (cutS c na = ⟨t, id⟩) := by show _ = _; rw [hS'.out, hLK]; rfl
          have hB2 : Hid (cutB c na = ⟨2, [], ⟨zK, p⟩ :: L.drop (na + 1)⟩) := by show _ = _; rw [hB'.out, hdr]; rfl
          obtain ⟨a2, rfl⟩ := hob0.out.some (by omega)
          obtain ⟨g2, cur, rfl, hg2, hrow, hnc, hc, hsz2, ht⟩ := hob0.out.opened
          have hg2w : g2 < wr.heap.size := hrow.lt
          rw [hdr] at ht
          have hrow5 := Lib.hid (hrow.below hb5)
          have hkc : Hid (Boxed w5 g2 [.int .i64 t, .int .u16 id]) := fun j x hj => by
            rw [show (⟨g2, 0, none⟩ : Addr).add j = ⟨g2, j, none⟩ by unfold Addr.add; split <;> simp_all, hrow5.out.cell]
            exact kid_fit (r := ⟨⟨t, id⟩, p⟩) ht j x hj
          have hs1 := sizeKey t id
          have hsk0 := sizeKey 0 0
          have i0 : (0 : Int) < ((kn - na : Nat) : Int) := by omega
          have i2 : ¬ kn - na = 0 := hz
          have hk1 := key_one t id
          have hk2 := key_one 0 0
          obtain ⟨hst1, hst2, hst3⟩ := kids_store (i := 0) (s := zK) (A := []) hsz2 ht rfl (by have := congrArg List.length hdr; rw [List.length_drop, List.length_cons] at this; simp only [List.length_nil]; omega)
          have hmk : Hid (∀ u, RowV 64 u g2 (splice cur 0 [.int .i64 0, .int .u16 0]) → KidsOn u (some ⟨g2, 0, none⟩) (kn - na) cb (⟨zK, p⟩ :: L.drop (na + 1))) := fun u hu =>
            (OwnK.mk (B := 0) (Nat.zero_le _) hu hnc hc hst2 hst1 (by have := congrArg List.length hdr; rw [List.length_drop, List.length_cons] at this; rw [List.nil_append, List.length_cons]; omega)).reads (fun x hx => by
              rcases List.mem_cons.1 hx with rfl | hx
              · exact ⟨zK_ok, (hok.out ⟨⟨t, id⟩, p⟩ (List.mem_of_getElem? hLK)).page⟩
              · exact hok.out x (List.mem_of_mem_drop hx))
          have hfit : 0 + ([.int .i64 0, .int .u16 0] : List Value).length ≤ cur.length := by show 0 + 2 ≤ _; omega
          clear hcr hr0' hr0 hr1 hr2 hr3 hbk hb5 hob0 hst c1 hrow hnc hc hsz2 ht hdr hst1 hst2 hst3
          go_wp2_with (first
            | (with_reducible refine wpList_load_at rfl 28 (.tmp 94) rfl Try.underlying28 rfl hs1 rfl hkc.out.all ?_)
            | ((with_reducible refine wpList_store_at rfl 28 (.tmp 11) (.tmp 95) rfl (o := 0) (vs := [.int .i64 t, .int .u16 id]) rfl rfl bk.out hs1 (Nat.le_refl _) hk1 ?_)
               intro w6 h9 hg9
               have bk : Hid (RowV 28 w6 wr.heap.size [.int .i64 t, .int .u16 id]) := h9
               have ba := Lib.hid (RowV.gr ba.out hg9 (by have := hwz.out; omega))
               have bb := Lib.hid (RowV.gr bb.out hg9 (by have := hwz.out; omega))
               have ra := Lib.hid (RowV.gr ra.out hg9 (by have := hwz.out; omega))
               have rb := Lib.hid (RowV.gr rb.out hg9 (by have := hwz.out; omega))
               have rk := Lib.hid (RowV.gr rk.out hg9 (by have := hwz.out; omega))
               have hA := Lib.hid (hA.out.gr hg9 (fun a e => by have := (hfa.out a e).2; omega))
               have hrow5 := Lib.hid (RowV.gr hrow5.out hg9 (by omega))
               have hd := Lib.hid (Gr.below hg9 hd.out (by have := hwz.out; omega))
               have hz6 : Hid (wr.heap.size ≤ w6.heap.size) := Nat.le_trans hz5.out hg9.size
               have e2 : w6.cell? ⟨w.heap.size + 5, 2, none⟩ = some (.slice (some ⟨g2, 0, none⟩) (kn - na) cb) := bb.out.cell 2
               clear h9 hg9)
            | ((with_reducible refine wpList_store_at rfl 28 (.tmp 100) (.tmp 98) rfl (o := 0) (vs := [.int .i64 0, .int .u16 0]) rfl rfl hrow5.out hsk0 hfit hk2 ?_)
               intro w7 h9 hg9
               have hB := Lib.hid (hmk.out w7 h9)
               have ba := Lib.hid (RowV.gr ba.out hg9 (by omega))
               have bb := Lib.hid (RowV.gr bb.out hg9 (by omega))
               have bk := Lib.hid (RowV.gr bk.out hg9 (by omega))
               have ra := Lib.hid (RowV.gr ra.out hg9 (by omega))
               have rb := Lib.hid (RowV.gr rb.out hg9 (by omega))
               have rk := Lib.hid (RowV.gr rk.out hg9 (by omega))
               have hA := Lib.hid (hA.out.gr hg9 (fun a e => hdd.out a _ e rfl))
               have hd := Lib.hid (Gr.below hg9 hd.out (by omega))
               have hz6 : Hid (wr.heap.size ≤ w7.heap.size) := Nat.le_trans hz6.out hg9.size
               clear h9 hg9))
          have xa := Lib.hid ba.out.boxed
          have xb := Lib.hid bb.out.boxed
          have xk := Lib.hid bk.out.boxed
          clear ba bb bk
          refine wp_region_held (S := fun u => Boxed u (w.heap.size + 4) [.int .i64 2, .slice none 0 0, .slice qa na ca] ∧ Boxed u (w.heap.size + 5) [.int .i64 2, .slice none 0 0, .slice (some ⟨g2, 0, none⟩) (kn - na) cb] ∧ Boxed u wr.heap.size [.int .i64 t, .int .u16 id]) (by kernel_rfl) ?_
          change wpAnyH _ _ _ _ _ _ _ _ (World.drew w7)
          have hS0 : Hid (Boxed (World.drew w7) (w.heap.size + 4) [.int .i64 2, .slice none 0 0, .slice qa na ca] ∧ Boxed (World.drew w7) (w.heap.size + 5) [.int .i64 2, .slice none 0 0, .slice (some ⟨g2, 0, none⟩) (kn - na) cb] ∧ Boxed (World.drew w7) wr.heap.size [.int .i64 t, .int .u16 id]) := ⟨xa.out.below (below_drew _) (Nat.le_refl _), xb.out.below (below_drew _) (Nat.le_refl _), xk.out.below (below_drew _) (Nat.le_refl _)⟩
          have ra := Lib.hid (ra.out.below (below_drew w7))
          have rb := Lib.hid (rb.out.below (below_drew w7))
          have rk := Lib.hid (rk.out.below (below_drew w7))
          have hA := Lib.hid (hA.out.below (below_drew w7) (Nat.le_refl _))
          have hB := Lib.hid (hB.out.below (below_drew w7) (Nat.le_refl _))
          have hd := Lib.hid (below_step (below_drew w7) hd.out)
          have hz6 : Hid (wr.heap.size ≤ (World.drew w7).heap.size) := hz6.out
          clear xa xb xk
          generalize World.drew w7 = y0 at hS0 ra rb rk hA hB hd hz6 ⊢
          refine held_tk (i := 0) (dst := some 101) rfl rfl (y_load_agg 25 (.tmp 7) rfl rfl rfl (fun u hu => run_loadVar_at Try.underlying25 rfl (sizeCont _ _ _) _ hu.1.all)) hS0.out ?_; go_frame
          refine held_tk (i := 1) (dst := some 102) rfl rfl (y_load_agg 25 (.tmp 8) rfl rfl rfl (fun u hu => run_loadVar_at Try.underlying25 rfl (sizeCont _ _ _) _ hu.2.1.all)) hS0.out ?_; go_frame
          refine held_tk (i := 2) (dst := some 103) rfl rfl (y_load_agg 28 (.tmp 11) rfl rfl rfl (fun u hu => run_loadVar_at Try.underlying28 rfl (sizeKey _ _) _ hu.2.2.all)) hS0.out ?_; go_frame
          obtain ⟨y1, hst, h9, hg9⟩ := run_storeVar_at (P := Try.prog) (ty := 25) (o := 0) (vs := [.int .i64 2, .slice none 0 0, .slice qa na ca]) ra.out (sizeCont _ _ _) (Nat.le_refl _) (cont_one _ _ _ _ _ _ _)
          replace ra : Hid (RowV 25 y1 (w.heap.size + 1) [.int .i64 2, .slice none 0 0, .slice qa na ca]) := h9
          replace rb := Lib.hid (RowV.gr rb.out hg9 (by omega))
          replace rk := Lib.hid (RowV.gr rk.out hg9 (by omega))
          replace hA := Lib.hid (hA.out.gr hg9 (fun a e => by have := (hfa.out a e).1; omega))
          replace hB := Lib.hid (hB.out.gr hg9 (fun a e => by have := (hfb.out a e).1; omega))
          replace hS0 := Lib.hid (And.intro (hS0.out.1.gr hg9 (by omega)) (And.intro (hS0.out.2.1.gr hg9 (by omega)) (hS0.out.2.2.gr hg9 (by have := hwz.out; omega))))
          replace hd := Lib.hid (Gr.below hg9 hd.out (by omega))
          have hz5 : Hid (wr.heap.size ≤ y1.heap.size) := Nat.le_trans hz6.out hg9.size
          clear h9 hg9
          refine held_skip (i := 3) (dst := none) (w' := y1) rfl rfl (by kernel_rfl) rfl (run_store_op (x := .tmp 4) (y := .tmp 101) rfl rfl rfl hst) hS0.out ?_; go_frame
          clear hst
          obtain ⟨y2, hst, h9, hg9⟩ := run_storeVar_at (P := Try.prog) (ty := 25) (o := 0) (vs := [.int .i64 2, .slice none 0 0, .slice (some ⟨g2, 0, none⟩) (kn - na) cb]) rb.out (sizeCont _ _ _) (Nat.le_refl _) (cont_one _ _ _ _ _ _ _)
          replace rb : Hid (RowV 25 y2 (w.heap.size + 2) [.int .i64 2, .slice none 0 0, .slice (some ⟨g2, 0, none⟩) (kn - na) cb]) := h9
          replace ra := Lib.hid (RowV.gr ra.out hg9 (by omega))
          replace rk := Lib.hid (RowV.gr rk.out hg9 (by omega))
          replace hA := Lib.hid (hA.out.gr hg9 (fun a e => by have := (hfa.out a e).1; omega))
          replace hB := Lib.hid (hB.out.gr hg9 (fun a e => by have := (hfb.out a e).1; omega))
          replace hS0 := Lib.hid (And.intro (hS0.out.1.gr hg9 (by omega)) (And.intro (hS0.out.2.1.gr hg9 (by omega)) (hS0.out.2.2.gr hg9 (by have := hwz.out; omega))))
          replace hd := Lib.hid (Gr.below hg9 hd.out (by omega))
          have hz5 : Hid (wr.heap.size ≤ y2.heap.size) := Nat.le_trans hz5.out hg9.size
          clear h9 hg9
          refine held_skip (i := 4) (dst := none) (w' := y2) rfl rfl (by kernel_rfl) rfl (run_store_op (x := .tmp 5) (y := .tmp 102) rfl rfl rfl hst) hS0.out ?_; go_frame
          clear hst
          obtain ⟨y3, hst, h9, hg9⟩ := run_storeVar_at (P := Try.prog) (ty := 28) (o := 0) (vs := [.int .i64 t, .int .u16 id]) rk.out (sizeKey _ _) (Nat.le_refl _) (key_one _ _)
          replace rk : Hid (RowV 28 y3 (w.heap.size + 3) [.int .i64 t, .int .u16 id]) := h9
          replace ra := Lib.hid (RowV.gr ra.out hg9 (by omega))
          replace rb := Lib.hid (RowV.gr rb.out hg9 (by omega))
          replace hA := Lib.hid (hA.out.gr hg9 (fun a e => by have := (hfa.out a e).1; omega))
          replace hB := Lib.hid (hB.out.gr hg9 (fun a e => by have := (hfb.out a e).1; omega))
          replace hS0 := Lib.hid (And.intro (hS0.out.1.gr hg9 (by omega)) (And.intro (hS0.out.2.1.gr hg9 (by omega)) (hS0.out.2.2.gr hg9 (by have := hwz.out; omega))))
          replace hd := Lib.hid (Gr.below hg9 hd.out (by omega))
          have hz5 : Hid (wr.heap.size ≤ y3.heap.size) := Nat.le_trans hz5.out hg9.size
          clear h9 hg9
          refine held_skip (i := 5) (dst := none) (w' := y3) rfl rfl (by kernel_rfl) rfl (run_store_op (x := .tmp 6) (y := .tmp 103) rfl rfl rfl hst) hS0.out ?_; go_frame
          clear hst
          refine wpAnyH_done (by kernel_rfl) ?_ _
          have s1 := ra.out
          have s2 := rb.out
          have s3 := rk.out
          have m10 := s1.cell 0
          have m11 := s1.cell 1
          have m12 := s1.cell 2
          have m20 := s2.cell 0
          have m21 := s2.cell 1
          have m22 := s2.cell 2
          have m30 := s3.cell 0
          have m31 := s3.cell 1
          simp only [List.getElem?_cons_zero, List.getElem?_cons_succ] at m10 m11 m12 m20 m21 m22 m30 m31
          clear s1 s2 s3
          go_wp2
          refine bodyPost_ret (v := .tuple #[.agg #[.int .i64 2, .slice none 0 0, .slice qa na ca], .agg #[.int .i64 2, .slice none 0 0, .slice (some ⟨g2, 0, none⟩) (kn - na) cb], .agg #[.int .i64 t, .int .u16 id]]) (by simp [results, Try.results29, go_sem, m10, m11, m12, m20, m21, m22, m30, m31]) rfl ?_
          refine ⟨⟨2, none, 0, 0, qa, na, ca⟩, ⟨2, none, 0, 0, (some ⟨g2, 0, none⟩), (kn - na), cb⟩, by rw [hkey.out], ?_, ?_, ⟨fun a ha => (by cases ha), fun a ha => ⟨by have := (hfa.out a ha).1; show w.heap.size ≤ _; omega, Nat.lt_of_lt_of_le (hfa.out a ha).2 hz5.out⟩⟩, ⟨fun a ha => (by cases ha), fun a ha => ⟨by have := (hfb.out a ha).1; show w.heap.size ≤ _; omega, Nat.lt_of_lt_of_le (hfb.out a ha).2 hz5.out⟩⟩, hd.out⟩
          · rw [hA'.out]; exact ⟨rfl, RowsOn.none_ _, hA.out⟩
          · rw [hB2.out]; exact ⟨rfl, RowsOn.none_ _, hB.out⟩
end Go.Proofs.Ytaiepdhmlmnggaa

/-! The document's Rises, and Both, of pages. -/
namespace Go.Proofs.Ytaiepdhmlmnggaa
open Go.RowKit

theorem key_of {w : World} {a : Addr} {x y z u : Value} (h : ∀ j v, ([x, y, z, u] : List Value)[j]? = some v → w.cell? (a.add j) = some v) : ∀ j v, ([x, y] : List Value)[j]? = some v → w.cell? (a.add j) = some v := fun j v hj => h j v (by
  match j, hj with
  | 0, hj => exact hj
  | 1, hj => exact hj
  | j + 2, hj => simp at hj)
theorem key_of3 {w : World} {a : Addr} {x y z : Value} (h : ∀ j v, ([x, y, z] : List Value)[j]? = some v → w.cell? (a.add j) = some v) : ∀ j v, ([x, y] : List Value)[j]? = some v → w.cell? (a.add j) = some v := fun j v hj => h j v (by
  match j, hj with
  | 0, hj => exact hj
  | 1, hj => exact hj
  | j + 2, hj => simp at hj)
set_option maxRecDepth 100000 in
set_option maxHeartbeats 8000000 in
theorem refRises_any (v : CV) (c : ContD) (b : Bool) (hb : b = true ↔ RiseC c ∧ ApartC c) (w : World) (h : v.On w c) :
    Calls Try.prog 60 #[v.val] w (fun e w' => e = .returned (.bool b) ∧ Below w.heap.size w w') := by
  have hr := Lib.hid (fun u (hu : Below w.heap.size w u) => (h.below hu (Nat.le_refl _)).rows)
  have hk := Lib.hid (fun u (hu : Below w.heap.size w u) => (h.below hu (Nat.le_refl _)).kids)
  have hrl := Lib.hid h.rl
  have hkl := Lib.hid h.kl
  have hb' := Lib.hid hb
  have hm := h.sm
  unfold maxLen at hm
  obtain ⟨k, rq, rn, rc, kq, kn, kc⟩ := v
  simp only at hr hk hrl hkl hm
  obtain ⟨hm1, hm2⟩ := hm
  obtain ⟨W, hW⟩ : ∃ W, w.alloc (.cells #[.int .i64 k, .slice rq rn rc, .slice kq kn kc] 25) = W := ⟨_, rfl⟩
  have hbx := Lib.hid (one_box (xs := [.int .i64 k, .slice rq rn rc, .slice kq kn kc]) hW)
  clear h hb
  show Calls _ _ #[.agg #[.int .i64 k, .slice rq rn rc, .slice kq kn kc]] _ _
  go_enter Try.func60, Try.ntmps60
  go_wp2
  clear hW
  go_loopw [3] (fun v3 wr => ∃ k' : Nat, (k' = 1 ∨ k' ≤ rn) ∧ 1 ≤ k' ∧ v3 = .int .i64 k' ∧ Hid (Below W.heap.size W wr) ∧ Hid (∀ (i : Nat) (x y : RowD), i + 1 < k' → c.rows[i]? = some x → c.rows[i + 1]? = some y → RlR x y)) (fun v3 _ => rn + 1 - (RowKit.intOf v3).toNat)
  case atStart => exact ⟨1, .inl rfl, Nat.le_refl _, rfl, (show Below _ _ _ from Below.refl _ _), fun i x y hi => by omega⟩
  case round =>
    obtain ⟨k', hk', hk1, rfl, hd, hq⟩ := hrel
    have hdw := Lib.hid (below_step hd.out hbx.out.1)
    have c1 := (hbx.out.2.1.below hd.out (Nat.le_refl _)).cell 1 rfl
    have c2 := (hbx.out.2.1.below hd.out (Nat.le_refl _)).cell 2 rfl
    by_cases hlt : k' < rn
    · obtain ⟨m, rfl⟩ : ∃ m, k' = m + 1 := ⟨k' - 1, by omega⟩
      obtain ⟨K, hK⟩ : ∃ K, m + 1 = K := ⟨_, rfl⟩
      rw [hK] at hq hk1 hk' hlt ⊢
      have hmn : m < rn := by omega
      obtain ⟨A, ⟨⟨t, id⟩, v, s⟩, hqA, hx, hok, hcA⟩ := (hr.out wr hdw.out).at hmn
      subst hqA
      obtain ⟨A', ⟨⟨t2, id2⟩, v2, s2⟩, hqB, hy, hok2, hcB⟩ := (hr.out wr hdw.out).at hlt
      obtain rfl : A = A' := by cases hqB; rfl
      have hcA' := Lib.hid (key_of hcA)
      have hcB' := Lib.hid (key_of hcB)
      have hs1 := sizeKey t id
      have hs2 := sizeKey t2 id2
      have hx' := Lib.hid hx
      have hy' := Lib.hid hy
      have hK' := Lib.hid hK
      have i0 : (0 : Int) ≤ m := by omega
      have i1 : (m : Int) < rn := by omega
      have i2 : (0 : Int) ≤ K := by omega
      have i3 : (K : Int) < rn := by omega
      have e1 : IntKind.i64.wrap ((K : Int) - 1) = (m : Int) := by rw [IntWalk.i64_in _ (by omega)]; omega
      obtain ⟨z, hz⟩ : ∃ z, cmpK ⟨t, id⟩ ⟨t2, id2⟩ = z := ⟨_, rfl⟩
      have hcm := Lib.hid (fun u => refCompare_any t id t2 id2 u)
      rw [hz] at hcm
      obtain ⟨E, hE⟩ : ∃ E, decide ((0 : Int) ≤ z) = E := ⟨_, rfl⟩
      have hE' := Lib.hid hE
      have hz' := Lib.hid hz
      clear hx hy hok hok2 hqB hz hcA hcB
      go_wp2_with fail
      refine wp_region_held (S := fun u => Below wr.heap.size wr u) (by kernel_rfl) ?_
      change wpAnyH _ _ _ _ _ _ _ _ (World.drew wr)
      refine wpF.held _ _ _ ?_ _ (below_drew wr)
      refine fx (i := 0) (dst := some 13) (v := .pointer (some ⟨w.heap.size, 1, none⟩)) rfl rfl (fx_read (fun u hu => by go_simp)) ?_; go_frame
      refine fx (i := 1) (dst := some 14) (v := .slice (some A) rn rc) rfl rfl (fx_read (fun u hu => by have e0 := (hbx.out.2.1.below (below_step hu hd.out) (Nat.le_refl _)).cell 1 rfl; go_simp)) ?_; go_frame
      refine fx (i := 2) (dst := some 15) (v := .int .i64 (K : Int)) rfl rfl (fx_read (fun u hu => by go_simp)) ?_; go_frame
      refine fx (i := 3) (dst := some 16) (v := .int .i64 (m : Int)) rfl rfl (fx_read (fun u hu => by go_simp)) ?_; go_frame
      refine fx (i := 4) (dst := some 17) (v := .pointer (some (A.add (m * 4)))) rfl rfl (fx_read (fun u hu => by go_simp)) ?_; go_frame
      refine fx (i := 5) (dst := some 18) (v := .pointer (some (A.add (m * 4)))) rfl rfl (fx_read (fun u hu => by go_simp)) ?_; go_frame
      refine fx (i := 6) (dst := some 19) (v := .agg #[.int .i64 t, .int .u16 id]) rfl rfl (fx_load 28 (.tmp 18) (fun u hu => run_loadVar_at Try.underlying28 rfl hs1 _ (fun j x hj => cell_keeps hu (Nat.le_refl _) (hcA'.out j x hj)))) ?_; go_frame
      refine fx (i := 7) (dst := some 20) (v := .pointer (some ⟨w.heap.size, 1, none⟩)) rfl rfl (fx_read (fun u hu => by go_simp)) ?_; go_frame
      refine fx (i := 8) (dst := some 21) (v := .slice (some A) rn rc) rfl rfl (fx_read (fun u hu => by have e0 := (hbx.out.2.1.below (below_step hu hd.out) (Nat.le_refl _)).cell 1 rfl; go_simp)) ?_; go_frame
      refine fx (i := 9) (dst := some 22) (v := .int .i64 (K : Int)) rfl rfl (fx_read (fun u hu => by go_simp)) ?_; go_frame
      refine fx (i := 10) (dst := some 23) (v := .pointer (some (A.add (K * 4)))) rfl rfl (fx_read (fun u hu => by go_simp)) ?_; go_frame
      refine fx (i := 11) (dst := some 24) (v := .pointer (some (A.add (K * 4)))) rfl rfl (fx_read (fun u hu => by go_simp)) ?_; go_frame
      refine fx (i := 12) (dst := some 25) (v := .agg #[.int .i64 t2, .int .u16 id2]) rfl rfl (fx_load 28 (.tmp 24) (fun u hu => run_loadVar_at Try.underlying28 rfl hs2 _ (fun j x hj => cell_keeps hu (Nat.le_refl _) (hcB'.out j x hj)))) ?_; go_frame
      refine fx (i := 13) (dst := some 26) (v := .int .i64 z) rfl rfl (fx_call (fun u hu => (hcm.out u).mono fun e y h => ⟨h.1, below_step h.2 hu⟩)) ?_; go_frame
      refine fx (i := 14) (dst := some 27) (v := .bool E) rfl rfl (fx_read (fun u hu => by go_simp)) ?_; go_frame
      refine fx_done (fun w2 hu => ?_) (by kernel_rfl) _
      have hd2 := Lib.hid (below_step hu hd.out)
      clear hu hcA' hcB' hcm hs1 hs2 e1 hE
      clear c1 c2
      cases E with
      | true =>
        obtain rfl : b = false := by
          cases b with
          | false => rfl
          | true =>
            have h1 := chain_rel ((hb'.out.1 rfl).1.1) (show m < K by have := hK'.out; omega) hx'.out hy'.out
            unfold RlR at h1
            have h2 := of_decide_eq_true hE'.out
            have h3 := hz'.out
            simp only at h1
            omega
        go_wp2
        go_ret
        exact ⟨rfl, below_step hd2.out hbx.out.1⟩
      | false =>
        go_wp2
        go_roundw
        case rel =>
          refine ⟨K + 1, .inr (by omega), by omega, by go_num, hd2, fun i x y hi hxi hyi => ?_⟩
          rcases Nat.lt_or_ge (i + 1) K with h | h
          · exact hq.out i x y h hxi hyi
          · obtain rfl : i = m := by have := hK'.out; omega
            rw [hx'.out] at hxi
            rw [hK'.out, hy'.out] at hyi
            cases hxi
            cases hyi
            unfold RlR
            have h2 := of_decide_eq_false hE'.out
            have h3 := hz'.out
            simp only
            omega
        case measure => simp [RowKit.intOf]; omega
    · have hlt' : decide ((k' : Int) < rn) = false := decide_eq_false (by omega)
      have hR := Lib.hid (rel_chain RlR.tr fun i x y hx hy => hq.out i x y (by have := (List.getElem?_eq_some_iff.1 hy).1; have := hrl.out; omega) hx hy)
      go_wp2
      clear c1 c2 hq hlt' hlt
      have hd0 := hd
      go_loopw [4] (fun v4 wr => ∃ k' : Nat, (k' = 1 ∨ k' ≤ kn) ∧ 1 ≤ k' ∧ v4 = .int .i64 k' ∧ Hid (Below W.heap.size W wr) ∧ Hid (∀ (i : Nat) (x y : KidD), i + 1 < k' → c.kids[i]? = some x → c.kids[i + 1]? = some y → RlK x y) ∧ Hid (∀ (i : Nat) x, i < k' → c.kids[i]? = some x → hasP (c.kids.take i) x.page = false)) (fun v4 _ => kn + 1 - (RowKit.intOf v4).toNat)
      case atStart => exact ⟨1, .inl rfl, Nat.le_refl _, rfl, hd0, (fun i x y hi => by omega), fun i x hi hx => (by obtain rfl : i = 0 := (by omega); rfl)⟩
      case round =>
        clear hdw hd hd0
        obtain ⟨k', hk', hk1, rfl, hd, hq, hp⟩ := hrel
        have hdw := Lib.hid (below_step hd.out hbx.out.1)
        have c2 := (hbx.out.2.1.below hd.out (Nat.le_refl _)).cell 2 rfl
        by_cases hlt : k' < kn
        · obtain ⟨m, rfl⟩ : ∃ m, k' = m + 1 := ⟨k' - 1, by omega⟩
          obtain ⟨K, hK⟩ : ∃ K, m + 1 = K := ⟨_, rfl⟩
          rw [hK] at hq hp hk1 hk' hlt ⊢
          have hmn : m < kn := by omega
          obtain ⟨A, ⟨⟨t, id⟩, p⟩, hqA, hx, hok, hcA⟩ := (hk.out wr hdw.out).at hmn
          subst hqA
          obtain ⟨A', ⟨⟨t2, id2⟩, p2⟩, hqB, hy, hok2, hcB⟩ := (hk.out wr hdw.out).at hlt
          obtain rfl : A = A' := by cases hqB; rfl
          have hcA' := Lib.hid (key_of3 hcA)
          have hcB' := Lib.hid (key_of3 hcB)
          have hpg := Lib.hid (fun u (hu : Below w.heap.size w u) => hk.out u hu)
          have hs1 := sizeKey t id
          have hs2 := sizeKey t2 id2
          have hx' := Lib.hid hx
          have hy' := Lib.hid hy
          have hK' := Lib.hid hK
          have i0 : (0 : Int) ≤ m := by omega
          have i1 : (m : Int) < kn := by omega
          have i2 : (0 : Int) ≤ K := by omega
          have i3 : (K : Int) < kn := by omega
          have e1 : IntKind.i64.wrap ((K : Int) - 1) = (m : Int) := by rw [IntWalk.i64_in _ (by omega)]; omega
          obtain ⟨z, hz⟩ : ∃ z, cmpK ⟨t, id⟩ ⟨t2, id2⟩ = z := ⟨_, rfl⟩
          have hcm := Lib.hid (fun u => refCompare_any t id t2 id2 u)
          rw [hz] at hcm
          obtain ⟨E, hE⟩ : ∃ E, decide ((0 : Int) ≤ z) = E := ⟨_, rfl⟩
          have hE' := Lib.hid hE
          have hz' := Lib.hid hz
          clear hx hy hok hok2 hqB hz hcA hcB
          go_wp2_with fail
          refine wp_region_held (S := fun u => Below wr.heap.size wr u) (by kernel_rfl) ?_
          change wpAnyH _ _ _ _ _ _ _ _ (World.drew wr)
          refine wpF.held _ _ _ ?_ _ (below_drew wr)
          refine fx (i := 0) (dst := some 35) (v := .pointer (some ⟨w.heap.size, 2, none⟩)) rfl rfl (fx_read (fun u hu => by go_simp)) ?_; go_frame
          refine fx (i := 1) (dst := some 36) (v := .slice (some A) kn kc) rfl rfl (fx_read (fun u hu => by have e0 := (hbx.out.2.1.below (below_step hu hd.out) (Nat.le_refl _)).cell 2 rfl; go_simp)) ?_; go_frame
          refine fx (i := 2) (dst := some 37) (v := .int .i64 (K : Int)) rfl rfl (fx_read (fun u hu => by go_simp)) ?_; go_frame
          refine fx (i := 3) (dst := some 38) (v := .int .i64 (m : Int)) rfl rfl (fx_read (fun u hu => by go_simp)) ?_; go_frame
          refine fx (i := 4) (dst := some 39) (v := .pointer (some (A.add (m * 3)))) rfl rfl (fx_read (fun u hu => by go_simp)) ?_; go_frame
          refine fx (i := 5) (dst := some 40) (v := .pointer (some (A.add (m * 3)))) rfl rfl (fx_read (fun u hu => by go_simp)) ?_; go_frame
          refine fx (i := 6) (dst := some 41) (v := .agg #[.int .i64 t, .int .u16 id]) rfl rfl (fx_load 28 (.tmp 40) (fun u hu => run_loadVar_at Try.underlying28 rfl hs1 _ (fun j x hj => cell_keeps hu (Nat.le_refl _) (hcA'.out j x hj)))) ?_; go_frame
          refine fx (i := 7) (dst := some 42) (v := .pointer (some ⟨w.heap.size, 2, none⟩)) rfl rfl (fx_read (fun u hu => by go_simp)) ?_; go_frame
          refine fx (i := 8) (dst := some 43) (v := .slice (some A) kn kc) rfl rfl (fx_read (fun u hu => by have e0 := (hbx.out.2.1.below (below_step hu hd.out) (Nat.le_refl _)).cell 2 rfl; go_simp)) ?_; go_frame
          refine fx (i := 9) (dst := some 44) (v := .int .i64 (K : Int)) rfl rfl (fx_read (fun u hu => by go_simp)) ?_; go_frame
          refine fx (i := 10) (dst := some 45) (v := .pointer (some (A.add (K * 3)))) rfl rfl (fx_read (fun u hu => by go_simp)) ?_; go_frame
          refine fx (i := 11) (dst := some 46) (v := .pointer (some (A.add (K * 3)))) rfl rfl (fx_read (fun u hu => by go_simp)) ?_; go_frame
          refine fx (i := 12) (dst := some 47) (v := .agg #[.int .i64 t2, .int .u16 id2]) rfl rfl (fx_load 28 (.tmp 46) (fun u hu => run_loadVar_at Try.underlying28 rfl hs2 _ (fun j x hj => cell_keeps hu (Nat.le_refl _) (hcB'.out j x hj)))) ?_; go_frame
          refine fx (i := 13) (dst := some 48) (v := .int .i64 z) rfl rfl (fx_call (fun u hu => (hcm.out u).mono fun e y h => ⟨h.1, below_step h.2 hu⟩)) ?_; go_frame
          refine fx (i := 14) (dst := some 49) (v := .bool E) rfl rfl (fx_read (fun u hu => by go_simp)) ?_; go_frame
          refine fx_done (fun w2 hu => ?_) (by kernel_rfl) _
          have hd2 := Lib.hid (below_step hu hd.out)
          clear hu hcA' hcB' hcm hs1 hs2 e1 hE
          clear c2
          cases E with
          | true =>
            obtain rfl : b = false := by
              cases b with
              | false => rfl
              | true =>
                have h1 := chain_rel ((hb'.out.1 rfl).1.2) (show m < K by have := hK'.out; omega) hx'.out hy'.out
                unfold RlK at h1
                have h2 := of_decide_eq_true hE'.out
                have h3 := hz'.out
                simp only at h1
                omega
            go_wp2
            go_ret
            exact ⟨rfl, below_step hd2.out hbx.out.1⟩
          | false =>
            go_wp2
            go_loopw [5] (fun v5 wr => ∃ j : Nat, j ≤ K ∧ v5 = .int .i64 j ∧ Hid (Below W.heap.size W wr) ∧ Hid (∀ (i : Nat) x, i < j → c.kids[i]? = some x → x.page ≠ p2)) (fun v5 _ => K - (RowKit.intOf v5).toNat)
            case atStart => exact ⟨0, Nat.zero_le _, rfl, hd2, fun i x hi => by omega⟩
            case round =>
              clear hd hdw
              obtain ⟨j, hj, rfl, hd, hnp⟩ := hrel
              have hdw := Lib.hid (below_step hd.out hbx.out.1)
              by_cases hjl : j < K
              · have hjn : j < kn := by omega
                obtain ⟨A1, ⟨⟨t3, id3⟩, p3⟩, hqA, hx3, hok3, hcA⟩ := (hk.out _ hdw.out).at hjn
                obtain rfl : A = A1 := by cases hqA; rfl
                obtain ⟨A2, r2, hqB, hy3, hok4, hcB⟩ := (hk.out _ hdw.out).at hlt
                obtain rfl : A = A2 := by cases hqB; rfl
                obtain rfl : (⟨⟨t2, id2⟩, p2⟩ : KidD) = r2 := by have := hy'.out; rw [this] at hy3; cases hy3; rfl
                have hcA' : Hid (∀ u, Below wr.heap.size wr u → u.cell? ⟨(A.add (j * 3)).block, (A.add (j * 3)).off + 2, none⟩ = some (.int .i64 p3)) := fun u hu => cell_keeps hu (Nat.le_refl _) (hcA 2 _ rfl)
                have hcB' : Hid (∀ u, Below wr.heap.size wr u → u.cell? ⟨(A.add (K * 3)).block, (A.add (K * 3)).off + 2, none⟩ = some (.int .i64 p2)) := fun u hu => cell_keeps hu (Nat.le_refl _) (hcB 2 _ rfl)
                have hx3' := Lib.hid hx3
                have j0 : (0 : Int) ≤ j := by omega
                have j1 : (j : Int) < kn := by omega
                have j2 : decide ((j : Int) < K) = true := decide_eq_true (by omega)
                obtain ⟨E, hE⟩ : ∃ E : Bool, (p3 == p2) = E := ⟨_, rfl⟩
                have hE3 := Lib.hid hE
                clear hx3 hy3 hok3 hok4 hqA hqB hcA hcB
                go_wp2_with fail
                refine wp_region_held (S := fun u => Below wr.heap.size wr u) (by kernel_rfl) ?_
                change wpAnyH _ _ _ _ _ _ _ _ (World.drew wr)
                refine wpF.held _ _ _ ?_ _ (below_drew wr)
                refine fx (i := 0) (dst := some 55) (v := .pointer (some ⟨w.heap.size, 2, none⟩)) rfl rfl (fx_read (fun u hu => by go_simp)) ?_; go_frame
                refine fx (i := 1) (dst := some 56) (v := .slice (some A) kn kc) rfl rfl (fx_read (fun u hu => by have e0 := (hbx.out.2.1.below (below_step hu hd.out) (Nat.le_refl _)).cell 2 rfl; go_simp)) ?_; go_frame
                refine fx (i := 2) (dst := some 57) (v := .int .i64 (j : Int)) rfl rfl (fx_read (fun u hu => by go_simp)) ?_; go_frame
                refine fx (i := 3) (dst := some 58) (v := .pointer (some (A.add (j * 3)))) rfl rfl (fx_read (fun u hu => by go_simp)) ?_; go_frame
                refine fx (i := 4) (dst := some 59) (v := .pointer (some ((A.add (j * 3)).add 2))) rfl rfl (fx_read (fun u hu => by go_simp)) ?_; go_frame
                refine fx (i := 5) (dst := some 60) (v := .int .i64 p3) rfl rfl (fx_read (fun u hu => by have e0 := hcA'.out u hu; go_simp)) ?_; go_frame
                refine fx (i := 6) (dst := some 61) (v := .pointer (some ⟨w.heap.size, 2, none⟩)) rfl rfl (fx_read (fun u hu => by go_simp)) ?_; go_frame
                refine fx (i := 7) (dst := some 62) (v := .slice (some A) kn kc) rfl rfl (fx_read (fun u hu => by have e0 := (hbx.out.2.1.below (below_step hu hd.out) (Nat.le_refl _)).cell 2 rfl; go_simp)) ?_; go_frame
                refine fx (i := 8) (dst := some 63) (v := .int .i64 (K : Int)) rfl rfl (fx_read (fun u hu => by go_simp)) ?_; go_frame
                refine fx (i := 9) (dst := some 64) (v := .pointer (some (A.add (K * 3)))) rfl rfl (fx_read (fun u hu => by go_simp)) ?_; go_frame
                refine fx (i := 10) (dst := some 65) (v := .pointer (some ((A.add (K * 3)).add 2))) rfl rfl (fx_read (fun u hu => by go_simp)) ?_; go_frame
                refine fx (i := 11) (dst := some 66) (v := .int .i64 p2) rfl rfl (fx_read (fun u hu => by have e0 := hcB'.out u hu; go_simp)) ?_; go_frame
                refine fx (i := 12) (dst := some 67) (v := .bool E) rfl rfl (fx_read (fun u hu => by go_simp)) ?_; go_frame
                refine fx_done (fun w3 hu => ?_) (by kernel_rfl) _
                have hd3 := Lib.hid (below_step hu hd.out)
                clear hu hcA' hcB' hE
                cases E with
                | true =>
                  obtain rfl : b = false := by
                    cases b with
                    | false => rfl
                    | true =>
                      have h1 := take_nodup (hb'.out.1 rfl).2 hy'.out
                      have h2 := hasP_iff.1 h1 ⟨⟨t3, id3⟩, p3⟩ (List.mem_iff_getElem?.2 ⟨j, by rw [List.getElem?_take_of_lt (by omega)]; exact hx3'.out⟩)
                      exact absurd (by simpa using hE3.out) h2
                  go_wp2
                  go_ret
                  exact ⟨rfl, below_step hd3.out hbx.out.1⟩
                | false =>
                  go_wp2
                  go_roundw
                  case rel =>
                    refine ⟨j + 1, by omega, by go_num, hd3, fun i x hi hxi => ?_⟩
                    rcases Nat.lt_or_ge i j with h | h
                    · exact hnp.out i x h hxi
                    · obtain rfl : i = j := by omega
                      rw [hx3'.out] at hxi
                      cases hxi
                      intro e
                      have := hE3.out
                      simp only at e
                      rw [e] at this
                      simp at this
                  case measure => simp [RowKit.intOf]; omega
              · obtain rfl : K = j := by omega
                have j2 : decide ((K : Int) < K) = false := decide_eq_false (by omega)
                go_wp2
                go_roundw
                case rel =>
                  refine ⟨K + 1, .inr (by omega), by omega, by go_num, hd, (fun i x y hi hxi hyi => ?_), fun i x hi hxi => ?_⟩
                  · rcases Nat.lt_or_ge (i + 1) K with h | h
                    · exact hq.out i x y h hxi hyi
                    · obtain rfl : i = m := by have := hK'.out; omega
                      rw [hx'.out] at hxi
                      rw [hK'.out, hy'.out] at hyi
                      cases hxi
                      cases hyi
                      unfold RlK
                      have h2 := of_decide_eq_false hE'.out
                      have h3 := hz'.out
                      simp only
                      omega
                  · rcases Nat.lt_or_ge i K with h | h
                    · exact hp.out i x h hxi
                    · obtain rfl : i = K := by omega
                      rw [hy'.out] at hxi
                      cases hxi
                      refine hasP_iff.2 fun y hy => ?_
                      obtain ⟨i', hi'⟩ := List.mem_iff_getElem?.1 hy
                      have hil : i' < i := by
                        have := (List.getElem?_eq_some_iff.1 hi').1
                        rw [List.length_take] at this
                        omega
                      rw [List.getElem?_take_of_lt hil] at hi'
                      exact hnp.out i' y hil hi'
                case measure => simp [RowKit.intOf]; omega
        · have hlt' : decide ((k' : Int) < kn) = false := decide_eq_false (by omega)
          have hKK : c.kids.Pairwise RlK := rel_chain RlK.tr fun i x y hx hy => hq.out i x y (by have := (List.getElem?_eq_some_iff.1 hy).1; have := hkl.out; omega) hx hy
          have hAP : ApartC c := nodup_take fun i x hx => hp.out i x (by have := (List.getElem?_eq_some_iff.1 hx).1; have := hkl.out; omega) hx
          obtain rfl : b = true := hb'.out.2 ⟨⟨hR.out, hKK⟩, hAP⟩
          clear hKK hAP
          go_wp2
          go_ret
          exact ⟨rfl, hdw.out⟩

end Go.Proofs.Ytaiepdhmlmnggaa

/-! The document's Both of two pages. -/
namespace Go.Proofs.Ytaiepdhmlmnggaa
open Go.RowKit

theorem five_rows {w W : World} {T1 T2 T3 T4 T5 : TypeId} {a b c d e : List Value} (h : ((((w.alloc (.cells a.toArray T1)).alloc (.cells b.toArray T2)).alloc (.cells c.toArray T3)).alloc (.cells d.toArray T4)).alloc (.cells e.toArray T5) = W) :
    Below w.heap.size w W ∧ RowV T1 W w.heap.size a ∧ RowV T2 W (w.heap.size + 1) b ∧ RowV T3 W (w.heap.size + 2) c ∧ RowV T4 W (w.heap.size + 3) d ∧ RowV T5 W (w.heap.size + 4) e ∧ W.heap.size = w.heap.size + 5 := by
  obtain ⟨V, hV⟩ : ∃ V, ((w.alloc (.cells a.toArray T1)).alloc (.cells b.toArray T2)).alloc (.cells c.toArray T3) = V := ⟨_, rfl⟩
  rw [hV] at h
  obtain ⟨b1, a1, a2, a3, a4⟩ := three_rows hV
  obtain ⟨b2, c1, c2, c4⟩ := two_rows h
  have e4 : V.heap.size + 1 = w.heap.size + 4 := by omega
  rw [a4] at c1
  rw [e4] at c2
  exact ⟨below_step b2 b1, a1.below b2, a2.below b2, a3.below b2, c1, c2, by omega⟩
/-- the rows, kids of both, whatever they are -/
def bothC (a b : ContD) (s : KeyD) : ContD := ⟨a.kind, a.rows ++ b.rows, a.kids ++ leastAt s b.kids⟩
theorem both_join {a b : ContD} {s : KeyD} (hga : GoodC a) (hgb : GoodC b) (hk : a.kind = 1 ∨ a.kind = 2) (hkk : a.kind = b.kind) : bothC a b s = joinC a b s := by
  unfold bothC joinC
  rcases hk with e | e
  · rw [if_pos e, (good_leaf hga e).2, (good_leaf hgb (hkk ▸ e)).2, e]; rfl
  · rw [if_neg (by omega), (good_inner hga e).2, (good_inner hgb (hkk ▸ e)).2, e]; rfl
theorem leastAt_take {s : KeyD} : ∀ (L : List KidD) (i : Nat) (x : KidD), L[i]? = some x → (leastAt s L).take (i + 1) = (leastAt s L).take i ++ [if i = 0 then ⟨s, x.page⟩ else x]
  | [], i, x, h => by simp at h
  | y :: L, 0, x, h => by cases h; rfl
  | y :: L, i + 1, x, h => by
    have h1 : (leastAt s (y :: L))[i + 1]? = some x := h
    rw [List.take_add_one, h1]
    rfl
def BothPost (a b : ContD) (s : KeyD) (w : World) (e : Ending) (w' : World) : Prop := ∃ (vj : CV), e = .returned vj.val ∧ vj.On w' (bothC a b s) ∧ FarV w.heap.size w'.heap.size vj ∧ Below w.heap.size w w'
/-- what stands in the middle: the rows whole, j kids of the second one -/
structure BothS (W : World) (B : Nat) (k : Int) (qr : Option Addr) (nr cr : Nat) (R : List RowD) (Ka D : List KidD) (j : Nat) (q : Option Addr) (n c : Nat) (wr : World) : Prop where
  bl : Below (B + 4) W wr
  sz : B + 5 ≤ W.heap.size
  row : RowV 25 wr (B + 4) [.int .i64 k, .slice qr nr cr, .slice q n c]
  rs : RowsOn wr qr nr cr R
  rf : ∀ a, qr = some a → B + 5 ≤ a.block ∧ a.block < wr.heap.size
  own : OwnK wr (B + 5) (.slice q n c) (Ka ++ D.take j)
  len : n = (Ka ++ D.take j).length
  d : ∀ a b, qr = some a → q = some b → a.block ≠ b.block
theorem okx2 {l m : List RowD} (h1 : ∀ r ∈ l, RowOk r) (h2 : ∀ r ∈ m, RowOk r) : ∀ r ∈ l ++ m, RowOk r := fun r hr => (List.mem_append.1 hr).elim (h1 r) (h2 r)
theorem rows_kept {u u' : World} {q : Option Addr} {n c : Nat} {l : List RowD} (h : RowsOn u q n c l) (hb : ∀ a, q = some a → u'.heap[a.block]? = u.heap[a.block]?) : RowsOn u' q n c l :=
  ⟨h.len, h.le, h.cap, h.nil, fun i r hi => by
    obtain ⟨a, rfl, hc⟩ := h.get i r hi
    refine ⟨a, rfl, fun j x hj => ?_⟩
    have e : ((a.add (i * 4)).add j).block = a.block := by unfold Addr.add; (repeat' split) <;> rfl
    rw [World.cell?_of_block (w := u) (by rw [e]; exact hb a rfl)]
    exact hc j x hj, h.ok⟩
theorem BothS.step {W wr u1 u2 : World} {B : Nat} {k : Int} {qr : Option Addr} {nr cr : Nat} {R : List RowD} {Ka D : List KidD} {j : Nat} {q q' : Option Addr} {n c c' m : Nat} {M : List KidD} {j' : Nat} (h : BothS W B k qr nr cr R Ka D j q n c wr) (hb : Below wr.heap.size wr u1)
    (ho : OwnK u2 (B + 5) (.slice q' (n + m) c') ((Ka ++ D.take j) ++ M)) (hM : D.take j' = D.take j ++ M) (hm : M.length = m) (hgr : u1.grownBy u2 (q.map (·.block))) (hq : q'.map (·.block) = q.map (·.block) ∨ q'.map (·.block) = some u1.heap.size) :
    BothS W B k qr nr cr R Ka D j' q' (n + m) c' (u2.setCell ⟨B + 4, 2, none⟩ (.slice q' (n + m) c')) := by
  have hfar : ∀ a, q = some a → B + 5 ≤ a.block := fun a ha => (h.own.far a ha).1
  have hu : B + 5 ≤ u1.heap.size := by have := h.sz; have := h.bl.size; have := hb.size; omega
  have hgr4 : Below (B + 4) u1 u2 := grown_belowN hgr (by omega) (fun j hj => by
    cases q with
    | none => cases hj
    | some a => simp only [Option.map_some, Option.some.injEq] at hj; have := hfar a rfl; omega)
  have hbl1 := (h.bl.trans (hb.mono (by have := h.sz; have := h.bl.size; omega))).trans hgr4
  have hg5 := setCell_grown u2 (B + 4) 2 (.slice q' (n + m) c')
  have hr1 := h.row.below hb
  have hne : ∀ a : Addr, qr = some a → some a.block ≠ q.map (·.block) := fun a ha e => by
    cases q with
    | none => cases e
    | some b => simp only [Option.map_some, Option.some.injEq] at e; exact h.d a b ha rfl e
  have hne4 : some (B + 4) ≠ q.map (·.block) := fun e => by
    cases q with
    | none => cases e
    | some b => simp only [Option.map_some, Option.some.injEq] at e; have := hfar b rfl; omega
  have hr2 : RowV 25 u2 (B + 4) [.int .i64 k, .slice qr nr cr, .slice q n c] := hr1.block (hgr.block _ hr1.lt (fun e => hne4 (by simpa using e)))
  have hrs1 := h.rs.below hb (Nat.le_refl _)
  have hrs2 : RowsOn u2 qr nr cr R := rows_kept hrs1 (fun a ha => hgr.block _ (Nat.lt_of_lt_of_le (h.rf a ha).2 hb.size) (fun e => hne a ha (by simpa using e)))
  refine ⟨hbl1.trans (grown_belowN hg5 (by have := hbl1.size; have := h.sz; omega) (fun j hj => by cases hj; omega)), h.sz, hr2.set 2 _, rows_kept hrs2 (fun a ha => hg5.block _ ?_ (fun e => ?_)), fun a ha => ⟨(h.rf a ha).1, ?_⟩, ?_, ?_, fun a b ha hb' => ?_⟩
  · have := (h.rf a ha).2; have := hb.size; have := hgr4.size; omega
  · have := (h.rf a ha).1; simp only [Option.some.injEq] at e; omega
  · have := (h.rf a ha).2; have := hb.size; have := hgr4.size; have := hg5.size; omega
  · rw [hM, ← List.append_assoc]
    exact ho.kept (fun a ha => hg5.block _ (ho.far a ha).2 (fun e => by have := (ho.far a ha).1; simp only [Option.some.injEq] at e; omega))
  · rw [hM, ← List.append_assoc, List.length_append, hm, ← h.len]
  · have hbn := (h.rf a ha).2
    rcases hq with e | e
    · cases q with
      | none => rw [hb'] at e; cases e
      | some b0 => rw [hb'] at e; simp only [Option.map_some, Option.some.injEq] at e; have := h.d a b0 ha rfl; omega
    · rw [hb'] at e; simp only [Option.map_some, Option.some.injEq] at e; have := hb.size; omega
set_option maxRecDepth 100000 in
set_option maxHeartbeats 16000000 in
theorem refBoth_any (v u : CV) (a b : ContD) (kt ki : Int) (w : World) (ha : v.On w a) (hb : u.On w b) (hko : KeyOk ⟨kt, ki⟩) (hs1 : v.rn ≤ 1000000) (hs2 : v.kn ≤ 1000000) (hs3 : u.rn ≤ 1000000) (hs4 : u.kn ≤ 1000000) :
    Calls Try.prog 30 #[v.val, u.val, .agg #[.int .i64 kt, .int .u16 ki]] w (BothPost a b ⟨kt, ki⟩ w) := by
  have hra := Lib.hid ha.rows
  have hka := Lib.hid ha.kids
  have hrb := Lib.hid hb.rows
  have hkb := Lib.hid hb.kids
  have hkd := Lib.hid ha.kind
  obtain ⟨k, rq, rn, rc, kq, kn, kc⟩ := v
  obtain ⟨k2, rq2, rn2, rc2, kq2, kn2, kc2⟩ := u
  simp only at hra hka hrb hkb hkd hs1 hs2 hs3 hs4
  have hko' := Lib.hid hko
  obtain ⟨W0, hW⟩ : ∃ W, ((((w.alloc (.cells #[.int .i64 k, .slice rq rn rc, .slice kq kn kc] 25)).alloc (.cells #[.int .i64 k2, .slice rq2 rn2 rc2, .slice kq2 kn2 kc2] 25)).alloc (.cells #[.int .i64 kt, .int .u16 ki] 28)).alloc (.cells #[.int .i64 0, .slice none 0 0, .slice none 0 0] 25)).alloc (.cells #[.int .i64 0, .slice none 0 0, .slice none 0 0] 25) = W := ⟨_, rfl⟩
  have hbx := Lib.hid (five_rows (a := [.int .i64 k, .slice rq rn rc, .slice kq kn kc]) (b := [.int .i64 k2, .slice rq2 rn2 rc2, .slice kq2 kn2 kc2]) (c := [.int .i64 kt, .int .u16 ki]) (d := [.int .i64 0, .slice none 0 0, .slice none 0 0]) (e := [.int .i64 0, .slice none 0 0, .slice none 0 0]) hW)
  have r0 := Lib.hid hbx.out.2.1
  have r1 := Lib.hid hbx.out.2.2.1
  have r2 := Lib.hid hbx.out.2.2.2.1
  have r3 := Lib.hid hbx.out.2.2.2.2.1
  have r4 := Lib.hid hbx.out.2.2.2.2.2.1
  have hbb := Lib.hid hbx.out.1
  have hsz := Lib.hid hbx.out.2.2.2.2.2.2
  have c0 : W0.cell? ⟨w.heap.size, 0, none⟩ = some (.int .i64 k) := r0.out.cell 0
  clear ha hb hko
  show Calls _ _ #[.agg #[.int .i64 k, .slice rq rn rc, .slice kq kn kc], .agg #[.int .i64 k2, .slice rq2 rn2 rc2, .slice kq2 kn2 kc2], .agg #[.int .i64 kt, .int .u16 ki]] _ _
  go_enter Try.func30, Try.ntmps30
  go_wp2_with (first
    | ((with_reducible refine wpList_store_at rfl 25 (.tmp 7) (.tmp 12) rfl (o := 0) (vs := [.int .i64 k, .slice none 0 0, .slice none 0 0]) rfl rfl r4.out (sizeCont (.int .i64 k) (.slice none 0 0) (.slice none 0 0)) (Nat.le_refl _) (cont_one _ _ _ _ _ _ _) ?_)
       intro W h9 hg9
       have r4 : Hid (RowV 25 W (w.heap.size + 4) [.int .i64 k, .slice none 0 0, .slice none 0 0]) := h9
       have r0 := Lib.hid (RowV.gr r0.out hg9 (by omega))
       have r1 := Lib.hid (RowV.gr r1.out hg9 (by omega))
       have r2 := Lib.hid (RowV.gr r2.out hg9 (by omega))
       have r3 := Lib.hid (RowV.gr r3.out hg9 (by omega))
       have hbb := Lib.hid (Gr.below hg9 hbb.out (by omega))
       have hsz : Hid (w.heap.size + 5 ≤ W.heap.size) := by have h1 := hsz.out; have h2 := hg9.size; show _ ≤ _; omega
       clear h9 hg9))
  refine wp_region_x (by kernel_rfl) 9 (fun u => Below (w.heap.size + 5) W u) ?_
  change wpAnyX _ _ _ _ _ _ _ _ _ (World.drew W)
  have hX : Below (w.heap.size + 5) W (World.drew W) := ⟨rfl, rfl, rfl, Nat.le_refl _, fun _ _ => rfl⟩
  have hwd : Below W.heap.size W (World.drew W) := below_drew W
  generalize World.drew W = u0 at hX hwd ⊢
  refine x_pure (i := 0) (dst := some 13) (v := .pointer (some ⟨w.heap.size + 4, 1, none⟩)) rfl rfl (by kernel_rfl) (by kernel_rfl) (by kernel_rfl) (by kernel_rfl) (fun _ _ _ h => h) (.inl ⟨rfl, fun u hu => by go_simp⟩) (fun _ => hX) ?_; go_frame
  refine x_take (i := 1) (dst := some 14) (v := .slice none 0 0) rfl rfl (by kernel_rfl) (by kernel_rfl) (by kernel_rfl) (by kernel_rfl) (by kernel_rfl) (fun _ _ _ h => h) (.inl ⟨rfl, fun u hu => by have c1 : u.cell? ⟨w.heap.size + 4, 1, none⟩ = some (.slice none 0 0) := cell_low hu (show w.heap.size + 4 < w.heap.size + 5 by omega) (r4.out.cell 1); go_simp⟩) hX ?_; go_frame
  refine x_pure (i := 2) (dst := some 15) (v := .pointer (some ⟨w.heap.size, 1, none⟩)) rfl rfl (by kernel_rfl) (by kernel_rfl) (by kernel_rfl) (by kernel_rfl) (fun _ _ _ h => h) (.inl ⟨rfl, fun u hu => by go_simp⟩) (fun _ => hX) ?_; go_frame
  refine x_take (i := 3) (dst := some 16) (v := .slice rq rn rc) rfl rfl (by kernel_rfl) (by kernel_rfl) (by kernel_rfl) (by kernel_rfl) (by kernel_rfl) (fun _ _ _ h => h) (.inl ⟨rfl, fun u hu => by have c1 : u.cell? ⟨w.heap.size, 1, none⟩ = some (.slice rq rn rc) := cell_low hu (show w.heap.size < w.heap.size + 5 by omega) (r0.out.cell 1); go_simp⟩) hX ?_; go_frame
  refine x_pure (i := 5) (dst := some 18) (v := .pointer (some ⟨w.heap.size + 1, 1, none⟩)) rfl rfl (by kernel_rfl) (by kernel_rfl) (by kernel_rfl) (by kernel_rfl) (fun _ _ _ h => h) (.inl ⟨rfl, fun u hu => by go_simp⟩) (fun _ => hX) ?_; go_frame
  refine x_take (i := 6) (dst := some 19) (v := .slice rq2 rn2 rc2) rfl rfl (by kernel_rfl) (by kernel_rfl) (by kernel_rfl) (by kernel_rfl) (by kernel_rfl) (fun _ _ _ h => h) (.inl ⟨rfl, fun u hu => by have c1 : u.cell? ⟨w.heap.size + 1, 1, none⟩ = some (.slice rq2 rn2 rc2) := cell_low hu (show w.heap.size + 1 < w.heap.size + 5 by omega) (r1.out.cell 1); go_simp⟩) hX ?_; go_frame
  have hwz : w.heap.size + 5 ≤ W.heap.size := hsz.out
  obtain ⟨q1, c1, u1, hrun, ho1, hg1, hq1⟩ := run_append_r (w := u0) Try.underlying22 infoRow rfl 22 (OwnR.nil 30 u0 (w.heap.size + 5)) (hra.out.below (below_step hwd hbb.out) (Nat.le_refl _)) (by omega) (by omega) (by have := hwd.size; omega)
  have hg1' : Below u0.heap.size u0 u1 := grown_belowN hg1 (Nat.le_refl _) (fun j hj => by cases hj)
  have hX1 : Below (w.heap.size + 5) W u1 := hX.trans (hg1'.mono (by have := hwd.size; omega))
  refine x_value (i := 4) (dst := some 17) (w' := u1) rfl rfl (by kernel_rfl) rfl (run_append_op2 (s := .tmp 14) (x := .tmp 16) rfl rfl rfl hrun) (fun _ => hX1) ?_; go_frame
  have hw1 := below_step hg1' hwd
  obtain ⟨q2, c2, u2, hrun2, ho2, hg2, hq2⟩ := run_append_r (w := u1) Try.underlying22 infoRow rfl 22 ho1 (hrb.out.below (below_step hw1 hbb.out) (Nat.le_refl _)) (by omega) (by omega) (by have := hw1.size; omega)
  have hfar1 : ∀ a, q1 = some a → W.heap.size ≤ a.block := fun a ha => by
    subst ha
    rcases hq1 with e | e
    · cases e
    · simp only [Option.map_some, Option.some.injEq] at e; have := hwd.size; omega
  have hw2 : Below W.heap.size W u2 := hw1.trans (grown_belowN hg2 hw1.size (fun j hj => by
    cases q1 with
    | none => cases hj
    | some a => simp only [Option.map_some, Option.some.injEq] at hj; have := hfar1 a rfl; omega))
  have hX2 : Below (w.heap.size + 5) W u2 := hw2.mono (by omega)
  refine x_value (i := 7) (dst := some 20) (w' := u2) rfl rfl (by kernel_rfl) rfl (run_append_op2 (s := .tmp 17) (x := .tmp 19) rfl rfl rfl hrun2) (fun _ => hX2) ?_; go_frame
  refine x_pure (i := 8) (dst := some 21) (v := .pointer (some ⟨w.heap.size + 4, 1, none⟩)) rfl rfl (by kernel_rfl) (by kernel_rfl) (by kernel_rfl) (by kernel_rfl) (fun _ _ _ h => h) (.inl ⟨rfl, fun u hu => by go_simp⟩) (fun _ => hX2) ?_; go_frame
  obtain ⟨nr, hnr⟩ : ∃ x, 0 + rn + rn2 = x := ⟨_, rfl⟩
  rw [hnr] at ho2 hrun2 ⊢
  obtain ⟨u3, hu3⟩ : ∃ x, u2.setCell ⟨w.heap.size + 4, 1, none⟩ (.slice q2 nr c2) = x := ⟨_, rfl⟩
  have r4u := r4.out.below hw2
  have e4 : u2.cell? ⟨w.heap.size + 4, 1, none⟩ = some (.slice none 0 0) := r4u.cell 1
  have f4 : u2.frozen? ⟨w.heap.size + 4, 1, none⟩ = false := r4u.free 1
  have st4 : (storeVar 22 ⟨w.heap.size + 4, 1, none⟩ (.slice q2 nr c2)).run Try.prog u2 = .ok () u3 := by rw [← hu3]; go_simp
  refine x_skip (i := 9) (dst := none) rfl rfl (by kernel_rfl) rfl (run_store_op (x := .tmp 21) (y := .tmp 20) rfl rfl rfl st4) (no_x (by kernel_rfl)) ?_; go_frame
  refine x_done (by kernel_rfl) ?_
  have g3 := setCell_grown u2 (w.heap.size + 4) 1 (.slice q2 nr c2)
  rw [hu3] at g3
  have x4 := r4u.set 1 (.slice q2 nr c2)
  rw [hu3] at x4
  have hb3 : Below (w.heap.size + 4) W u3 := (hw2.mono (by omega)).trans (grown_belowN g3 (by have := hw2.size; omega) (fun j hj => by cases hj; omega))
  have ho3 : OwnR 30 u3 (w.heap.size + 5) (.slice q2 nr c2) (a.rows ++ b.rows) := ho2.kept (fun a ha => g3.block _ (ho2.far a ha).2 (fun e => by have := (ho2.far a ha).1; simp only [Option.some.injEq] at e; omega))
  have hst : Hid (BothS W w.heap.size k q2 nr c2 (a.rows ++ b.rows) [] a.kids 0 none 0 0 u3) := ⟨hb3, hsz.out, x4, ho3.reads (okx2 hra.out.ok hrb.out.ok), ho3.far, OwnK.nil _ _, rfl, fun a b _ h => by cases h⟩
  have hx0 : u3.cell? ⟨w.heap.size, 2, none⟩ = some (.slice kq kn kc) := (r0.out.block (hb3.block _ (by omega))).cell 2
  have hx4 : u3.cell? ⟨w.heap.size + 4, 2, none⟩ = some (.slice none 0 0) := x4.cell 2
  have fx4 : u3.frozen? ⟨w.heap.size + 4, 2, none⟩ = false := x4.free 2
  have hstr : Hid (RowV 25 u3 (w.heap.size + 4) [.int .i64 k, .slice q2 nr c2, .slice none 0 0]) := hst.out.row
  have hka3 := Lib.hid (hka.out.below (hbb.out.trans (hb3.mono (by omega))) (Nat.le_refl _))
  have hb3' := Lib.hid hb3
  clear st4 e4 f4 hu3 hrun hrun2 ho1 ho2 ho3 hg1 hg2 hq1 hq2 hg1' hX hX1 hX2 hwd hw1 hw2 hfar1 r4u g3 x4 hW c0 hb3 hbx
  go_wp2_with (first
    | (at_builtin
       refine wpList_append_k Try.underlying23 infoKid rfl rfl (.tmp 23) (.tmp 25) rfl rfl rfl (OwnK.nil u3 (w.heap.size + 5)) hka3.out (by omega) (by omega) (by have := hb3'.out.size; omega) ?_
       intro q' c' w4 g1 g2 g3
       obtain ⟨w5, hw5⟩ : ∃ x, w4.setCell ⟨w.heap.size + 4, 2, none⟩ (.slice q' kn c') = x := ⟨_, rfl⟩
       have hst := Lib.hid (hst.out.step (j' := kn) (Below.refl _ _) g1 (by rw [List.take_zero, List.nil_append]; exact List.take_of_length_le (by rw [hka3.out.len]; exact Nat.le_refl _)) hka3.out.len g2 g3)
       rw [Nat.zero_add, hw5] at hst
       have hb4 : Below (w.heap.size + 4) u3 w4 := grown_belowN g2 (by have := hb3'.out.size; omega) (fun j hj => by cases hj)
       have y4 : w4.cell? ⟨w.heap.size + 4, 2, none⟩ = some (.slice none 0 0) := by
         have := g2.block (w.heap.size + 4) (by have := hb3'.out.size; omega) (fun e => by cases e)
         rw [World.cell?_of_block (w := u3) this]; exact hx4
       have fy4 : w4.frozen? ⟨w.heap.size + 4, 2, none⟩ = false := by
         have := g2.block (w.heap.size + 4) (by have := hb3'.out.size; omega) (fun e => by cases e)
         exact ((hstr.out.block this)).free 2
       clear g1 g2 g3 hb4))
  clear y4 fy4 hx0 hx4 fx4 hw5 hstr
  have hD : Hid ((leastAt ⟨kt, ki⟩ b.kids).length = kn2) := by show _ = _; rw [leastAt_len]; exact hkb.out.len
  have hst : Hid (BothS W w.heap.size k q2 nr c2 (a.rows ++ b.rows) a.kids (leastAt ⟨kt, ki⟩ b.kids) 0 q' kn c' w5) := by
    obtain ⟨s1, s2, s3, s4, s5, s6, s7, s8⟩ := hst.out
    rw [List.nil_append, List.take_of_length_le (by rw [hka.out.len]; exact Nat.le_refl _)] at s6 s7
    exact ⟨s1, s2, s3, s4, s5, by rw [List.take_zero, List.append_nil]; exact s6, by rw [List.take_zero, List.append_nil]; exact s7, s8⟩
  have hz := sizeCont (.int .i64 0) (.slice none 0 0) (.slice none 0 0)
  go_loopw [8] (fun v8 wr => ∃ (j : Nat) (q : Option Addr) (n c : Nat), j ≤ kn2 ∧ v8 = .int .i64 j ∧ Hid (BothS W w.heap.size k q2 nr c2 (a.rows ++ b.rows) a.kids (leastAt ⟨kt, ki⟩ b.kids) j q n c wr)) (fun v8 _ => kn2 - (RowKit.intOf v8).toNat)
  case atStart => exact ⟨0, q', kn, c', Nat.zero_le _, rfl, hst⟩
  case round =>
    clear hst
    obtain ⟨j, q, n, c, hj, rfl, hst⟩ := hrel
    have hdw : Hid (Below w.heap.size w wr) := hbb.out.trans (hst.out.bl.mono (by omega))
    have e1 : wr.cell? ⟨w.heap.size + 1, 2, none⟩ = some (.slice kq2 kn2 kc2) := (r1.out.block (hst.out.bl.block _ (by omega))).cell 2
    have hwrz : Hid (w.heap.size + 5 ≤ wr.heap.size) := by show _ ≤ _; have := hst.out.bl.size; have := hst.out.sz; omega
    by_cases hlt : j < kn2
    · obtain ⟨A, ⟨⟨t, id⟩, p⟩, hqA, hx, hokx, hcA⟩ := (hkb.out.below hdw.out (Nat.le_refl _)).at hlt
      subst hqA
      have hcA : Hid (∀ j' x, ([.int .i64 t, .int .u16 id, .int .i64 p] : List Value)[j']? = some x → wr.cell? ((A.add (j * 3)).add j') = some x) := hcA
      have hsk := sizeKid t id p
      have hkey := sizeKey kt ki
      have j0 : (0 : Int) ≤ j := by omega
      have j1 : (j : Int) < kn2 := by omega
      have hx' := Lib.hid hx
      have hok' := Lib.hid hokx
      have hnn : n ≤ 2000000 := by have h1 := hst.out.len; have h2 := hD.out; rw [List.length_append, List.length_take, hka.out.len] at h1; omega
      have rk := Lib.hid ((r2.out.block (hst.out.bl.block _ (show w.heap.size + 2 < w.heap.size + 4 by omega))).boxed)
      have hk1 := key_one kt ki
      clear hx hokx
      by_cases h0 : j = 0
      · subst h0
        have hcA : Hid (∀ j' x, ([.int .i64 t, .int .u16 id, .int .i64 p] : List Value)[j']? = some x → wr.cell? (A.add j') = some x) := fun j' x hj => by
          have e : (A.add (0 * 3)).add j' = A.add j' := by cases A; unfold Addr.add; split <;> simp_all
          rw [← e]
          exact hcA.out j' x hj
        obtain ⟨w1, hw1⟩ : ∃ x, wr.alloc (.cells #[.int .i64 t, .int .u16 id, .int .i64 p] 64) = x := ⟨_, rfl⟩
        have hb1 := Lib.hid (one_row (xs := [.int .i64 t, .int .u16 id, .int .i64 p]) hw1)
        have rk1 := Lib.hid (rk.out.below hb1.out.1 (Nat.le_refl _))
        have rw1 := Lib.hid hb1.out.2.1
        have hfit : 0 + ([.int .i64 kt, .int .u16 ki] : List Value).length ≤ ([.int .i64 t, .int .u16 id, .int .i64 p] : List Value).length := by show 0 + 2 ≤ 3; decide
        go_wp2_with (first
          | (with_reducible refine wpList_load_at rfl 64 (.tmp 38) rfl Try.underlying64 rfl hsk rfl hcA.out ?_)
          | (with_reducible refine wpList_load_at rfl 28 (.tmp 5) rfl Try.underlying28 rfl hkey rfl rk1.out.all ?_)
          | ((with_reducible refine wpList_store_at rfl 28 (.tmp 43) (.tmp 42) rfl (o := 0) (vs := [.int .i64 kt, .int .u16 ki]) rfl rfl rw1.out hkey hfit hk1 ?_)
             intro w2 h9 hg9
             have hbx2 : Hid (RowV 64 w2 wr.heap.size [.int .i64 kt, .int .u16 ki, .int .i64 p]) := h9
             have hd2 := Lib.hid (Gr.below hg9 hb1.out.1 (Nat.le_refl _))
             obtain ⟨w3, hw3⟩ : ∃ x, w2.alloc (.cells #[.int .i64 kt, .int .u16 ki, .int .i64 p] 64) = x := ⟨_, rfl⟩
             have hb3 := Lib.hid (one_row (xs := [.int .i64 kt, .int .u16 ki, .int .i64 p]) hw3)
             have hd3 := Lib.hid (below_step hb3.out.1 hd2.out)
             have hsk2 := sizeKid kt ki p
             have bxx := Lib.hid hbx2.out.boxed
             have hone := Lib.hid (RowV.kids1 (r := ⟨⟨kt, ki⟩, p⟩) hb3.out.2.1 ⟨hko'.out, hok'.out.page⟩)
             have ho3 := Lib.hid (hst.out.own.below hd3.out)
             have i4 : w2.cell? ⟨w.heap.size + 4, 2, none⟩ = some (.slice q n c) := (hst.out.row.below hd2.out).cell 2
             have i5 : w3.cell? ⟨w.heap.size + 4, 2, none⟩ = some (.slice q n c) := (hst.out.row.below hd3.out).cell 2
             clear h9 hg9)
          | (with_reducible refine wpList_load_at rfl 64 (.tmp 9) rfl Try.underlying64 rfl hsk2 rfl bxx.out.all ?_)
          | (at_builtin
             refine wpList_append_k Try.underlying23 infoKid rfl rfl (.tmp 45) (.tmp 47) rfl rfl rfl ho3.out hone.out (by omega) (by omega) (by have := hd3.out.size; have := hwrz.out; omega) ?_
             intro q4 c4 w4 g1 g2 g3
             obtain ⟨w5', hw5⟩ : ∃ x, w4.setCell ⟨w.heap.size + 4, 2, none⟩ (.slice q4 (n + 1) c4) = x := ⟨_, rfl⟩
             have hnew := Lib.hid (hst.out.step (j' := 0 + 1) hd3.out g1 (by rw [leastAt_take _ _ _ hx'.out]; rw [if_pos rfl]) rfl g2 g3)
             rw [hw5] at hnew
             have hfq : ∀ a, q = some a → w.heap.size + 5 ≤ a.block := fun a ha => (hst.out.own.far a ha).1
             have hbk := g2.block (w.heap.size + 4) (by have := hd3.out.size; have := hwrz.out; omega) (fun e => by
               cases q with
               | none => cases e
               | some a => simp only [Option.map_some, Option.some.injEq] at e; have := hfq a rfl; omega)
             have i6 : w4.cell? ⟨w.heap.size + 4, 2, none⟩ = some (.slice q n c) := by rw [World.cell?_of_block (w := w3) hbk]; exact i5
             have f6 : w4.frozen? ⟨w.heap.size + 4, 2, none⟩ = false := ((hst.out.row.below hd3.out).block hbk).free 2
             clear g1 g2 g3 hbk hfq))
        go_roundw
        case rel => exact ⟨0 + 1, q4, n + 1, c4, by omega, by go_num, hnew⟩
        case measure => simp [RowKit.intOf]; omega
      · have hz0 : ((j : Int) == 0) = false := by simp; omega
        have h0 := Lib.hid h0
        obtain ⟨w1, hw1⟩ : ∃ x, wr.alloc (.cells #[.int .i64 t, .int .u16 id, .int .i64 p] 64) = x := ⟨_, rfl⟩
        have hb1 := Lib.hid (one_row (xs := [.int .i64 t, .int .u16 id, .int .i64 p]) hw1)
        obtain ⟨w3, hw3⟩ : ∃ x, w1.alloc (.cells #[.int .i64 t, .int .u16 id, .int .i64 p] 64) = x := ⟨_, rfl⟩
        have hb3 := Lib.hid (one_row (xs := [.int .i64 t, .int .u16 id, .int .i64 p]) hw3)
        have hd3 := Lib.hid (below_step hb3.out.1 hb1.out.1)
        have bxx := Lib.hid hb1.out.2.1.boxed
        have hone := Lib.hid (RowV.kids1 (r := ⟨⟨t, id⟩, p⟩) hb3.out.2.1 hok'.out)
        have ho3 := Lib.hid (hst.out.own.below hd3.out)
        have i4 : w1.cell? ⟨w.heap.size + 4, 2, none⟩ = some (.slice q n c) := (hst.out.row.below hb1.out.1).cell 2
        have i5 : w3.cell? ⟨w.heap.size + 4, 2, none⟩ = some (.slice q n c) := (hst.out.row.below hd3.out).cell 2
        go_wp2_with (first
          | (with_reducible refine wpList_load_at rfl 64 (.tmp 38) rfl Try.underlying64 rfl hsk rfl hcA.out ?_)
          | (with_reducible refine wpList_load_at rfl 64 (.tmp 9) rfl Try.underlying64 rfl hsk rfl bxx.out.all ?_)
          | (at_builtin
             refine wpList_append_k Try.underlying23 infoKid rfl rfl (.tmp 45) (.tmp 47) rfl rfl rfl ho3.out hone.out (by omega) (by omega) (by have := hd3.out.size; have := hwrz.out; omega) ?_
             intro q4 c4 w4 g1 g2 g3
             obtain ⟨w5', hw5⟩ : ∃ x, w4.setCell ⟨w.heap.size + 4, 2, none⟩ (.slice q4 (n + 1) c4) = x := ⟨_, rfl⟩
             have hnew := Lib.hid (hst.out.step (j' := j + 1) hd3.out g1 (by rw [leastAt_take _ _ _ hx'.out]; rw [if_neg h0.out]) rfl g2 g3)
             rw [hw5] at hnew
             have hfq : ∀ a, q = some a → w.heap.size + 5 ≤ a.block := fun a ha => (hst.out.own.far a ha).1
             have hbk := g2.block (w.heap.size + 4) (by have := hd3.out.size; have := hwrz.out; omega) (fun e => by
               cases q with
               | none => cases e
               | some a => simp only [Option.map_some, Option.some.injEq] at e; have := hfq a rfl; omega)
             have i6 : w4.cell? ⟨w.heap.size + 4, 2, none⟩ = some (.slice q n c) := by rw [World.cell?_of_block (w := w3) hbk]; exact i5
             have f6 : w4.frozen? ⟨w.heap.size + 4, 2, none⟩ = false := ((hst.out.row.below hd3.out).block hbk).free 2
             clear g1 g2 g3 hbk hfq))
        go_roundw
        case rel => exact ⟨j + 1, q4, n + 1, c4, by omega, by go_num, hnew⟩
        case measure => simp [RowKit.intOf]; omega
    · obtain rfl : kn2 = j := by omega
      have rr := Lib.hid (r3.out.block (hst.out.bl.block _ (show w.heap.size + 3 < w.heap.size + 4 by omega)))
      have hb4 := Lib.hid hst.out.row.boxed
      have hs := sizeCont (.int .i64 k) (.slice q2 nr c2) (.slice q n c)
      go_wp2_with (first
        | (with_reducible refine wpList_load_at rfl 25 (.tmp 7) rfl Try.underlying25 rfl hs rfl hb4.out.all ?_)
        | ((with_reducible refine wpList_store_at rfl 25 (.tmp 6) (.tmp 50) rfl (o := 0) (vs := [.int .i64 k, .slice q2 nr c2, .slice q n c]) rfl rfl rr.out hs (Nat.le_refl _) (cont_one _ _ _ _ _ _ _) ?_)
           intro w9 h9 hg9
           have q9 := Lib.hid h9
           have hg9' := Lib.hid hg9
           clear h9 hg9))
      have s9 : RowV 25 w9 (w.heap.size + 3) [.int .i64 k, .slice q2 nr c2, .slice q n c] := q9.out
      have m90 := s9.cell 0
      have m91 := s9.cell 1
      have m92 := s9.cell 2
      simp only [List.getElem?_cons_zero, List.getElem?_cons_succ] at m90 m91 m92
      refine bodyPost_ret (v := .agg #[.int .i64 k, .slice q2 nr c2, .slice q n c]) (by simp [results, Try.results30, go_sem, m90, m91, m92]) rfl ?_
      have hfr := hst.out.rf
      have hfk := hst.out.own.far
      have hown := hst.out.own
      rw [List.take_of_length_le (by rw [hD.out]; exact Nat.le_refl _)] at hown
      have hkids := hown.reads (fun x hx => (List.mem_append.1 hx).elim (fun h => hka.out.ok x h) (fun h => by
        match hbk : b.kids, h with
        | y :: r, h =>
          have hbo := hkb.out.ok
          rw [hbk] at hbo
          rcases List.mem_cons.1 h with rfl | h
          · exact ⟨hko'.out, (hbo y (List.mem_cons_self ..)).page⟩
          · exact hbo x (List.mem_cons_of_mem _ h)))
      refine ⟨⟨k, q2, nr, c2, q, n, c⟩, rfl, ⟨hkd.out, hst.out.rs.gr hg9'.out (fun a e => by have := (hfr a e).1; omega), hkids.gr hg9'.out (fun a e => by have := (hfk a e).1; omega)⟩, ⟨fun a e => ⟨by have := (hfr a e).1; show w.heap.size ≤ _; omega, Nat.lt_of_lt_of_le (hfr a e).2 hg9'.out.size⟩, fun a e => ⟨by have := (hfk a e).1; show w.heap.size ≤ _; omega, Nat.lt_of_lt_of_le (hfk a e).2 hg9'.out.size⟩⟩, Gr.below hg9'.out hdw.out (by omega)⟩
end Go.Proofs.Ytaiepdhmlmnggaa
