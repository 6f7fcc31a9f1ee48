/- Four operations of a region, two calls in their order and two that give values at any time; three, two in their order and one at any time: all orders end alike. Nothing of a program is claimed here. -/
import Derived.Test.YtcniolmihpkmmaaPair
namespace Go.Proofs.Ytcniolmihpkmmaa
open Go.RowKit

section
variable {P : Program} {ops : Array Oper} {Q : Exit → Act → World → Prop} {md : Region.Mode} {S : World → Prop}

def lacks (x : Option Value) : Nat := match x with | none => 1 | some _ => 0
theorem held_four {L : Bool → Bool → Bool → Bool → Array Bool} {A : Option Value → Option Value → Option Value → Option Value → Act} {K : Option Value → Option Value → Option Value → Option Value → World → Prop} {fuel : Nat}
    {i j p q : Nat} {oi oj op oq : Oper} (hi : ops[i]? = some oi) (hj : ops[j]? = some oj) (hp : ops[p]? = some op) (hq : ops[q]? = some oq)
    (li : ∀ b c d, (L false b c d).setIfInBounds i true = L true b c d) (lj : ∀ b c d, (L b false c d).setIfInBounds j true = L b true c d) (lp : ∀ b c d, (L b c false d).setIfInBounds p true = L b c true d) (lq : ∀ b c d, (L b c d false).setIfInBounds q true = L b c d true)
    (ai : ∀ x y z v, (A none x y z).put oi.dst v = A (some v) x y z) (aj : ∀ x y z v, (A x none y z).put oj.dst v = A x (some v) y z) (ap : ∀ x y z v, (A x y none z).put op.dst v = A x y (some v) z) (aq : ∀ x y z v, (A x y z none).put oq.dst v = A x y z (some v))
    (wi : ∀ x y z u, Region.wanted oi (yielded ops (A x y z u).tmps) = true) (wj : ∀ x y z u, Region.wanted oj (yielded ops (A x y z u).tmps) = true) (wp : ∀ x y z u, Region.wanted op (yielded ops (A x y z u).tmps) = true) (wq : ∀ x y z u, Region.wanted oq (yielded ops (A x y z u).tmps) = true)
    (hr : ∀ bi bj bp bq : Bool, (bj = true → bi = true) → (bi && bj && bp && bq) = false → Region.ready md ops (L bi bj bp bq) = (if bi then (if bj then [] else [j]) else [i]) ++ ((if bp then [] else [p]) ++ (if bq then [] else [q])))
    (si : ∀ z u w, K none none z u w → ∃ f args R, (execOp (A none none z u).eval oi).run P w = .ok (.enter f args) w ∧ Calls P f args w R ∧ ∀ e w', R e w' → ∃ v, e = .returned v ∧ S w' ∧ K (some v) none z u w')
    (sj : ∀ x z u w, K (some x) none z u w → ∃ f args R, (execOp (A (some x) none z u).eval oj).run P w = .ok (.enter f args) w ∧ Calls P f args w R ∧ ∀ e w', R e w' → ∃ v, e = .returned v ∧ S w' ∧ K (some x) (some v) z u w')
    (sp : ∀ x y u w, K x y none u w → ∃ v w', (execOp (A x y none u).eval op).run P w = .ok (.value v) w' ∧ S w' ∧ K x y (some v) u w')
    (sq : ∀ x y z w, K x y z none w → ∃ v w', (execOp (A x y z none).eval oq).run P w = .ok (.value v) w' ∧ S w' ∧ K x y z (some v) w')
    (h : ∀ x y z u w, K (some x) (some y) (some z) (some u) w → wpAnyH P md ops Q S fuel (L true true true true) (A (some x) (some y) (some z) (some u)) w) :
    ∀ (n : Nat) (x y z u : Option Value) (w : World), (y.isSome = true → x.isSome = true) → lacks x + lacks y + lacks z + lacks u = n → K x y z u w → wpAnyH P md ops Q S (fuel + n) (L x.isSome y.isSome z.isSome u.isSome) (A x y z u) w := by
  intro n
  induction n with
  | zero =>
    intro x y z u w _ hn hk
    match x, y, z, u with
    | some x, some y, some z, some u => exact h x y z u w hk
    | none, _, _, _ => simp only [lacks] at hn; omega
    | some _, none, _, _ => simp only [lacks] at hn; omega
    | some _, some _, none, _ => simp only [lacks] at hn; omega
    | some _, some _, some _, none => simp only [lacks] at hn; omega
  | succ n ih =>
    intro x y z u w hxy hn hk
    have goI : x = none → y = none → wpOp P ops Q i (fun a' w' => S w' ∧ wpAnyH P md ops Q S (fuel + n) ((L x.isSome y.isSome z.isSome u.isSome).setIfInBounds i true) a' w') (A x y z u) w := by
      rintro rfl rfl
      unfold wpOp
      simp only [hi, wi, if_true]
      refine .inl ?_
      obtain ⟨f, args, R, hrun, hc, hz⟩ := si z u w hk
      unfold Oper.wp
      rw [hrun, Oper.upon_enter]
      refine hc.mono fun e w' he => ?_
      obtain ⟨v, rfl, hS, hK⟩ := hz e w' he
      refine ⟨hS, ?_⟩
      rw [ai]
      have := ih (some v) none z u w' (fun e => rfl) (by simp only [lacks] at hn ⊢; omega) hK
      rw [show (none : Option Value).isSome = false from rfl, li]
      exact this
    have goJ : x.isSome = true → y = none → wpOp P ops Q j (fun a' w' => S w' ∧ wpAnyH P md ops Q S (fuel + n) ((L x.isSome y.isSome z.isSome u.isSome).setIfInBounds j true) a' w') (A x y z u) w := by
      intro hx
      rintro rfl
      obtain ⟨x, rfl⟩ := Option.isSome_iff_exists.1 hx
      unfold wpOp
      simp only [hj, wj, if_true]
      refine .inl ?_
      obtain ⟨f, args, R, hrun, hc, hz⟩ := sj x z u w hk
      unfold Oper.wp
      rw [hrun, Oper.upon_enter]
      refine hc.mono fun e w' he => ?_
      obtain ⟨v, rfl, hS, hK⟩ := hz e w' he
      refine ⟨hS, ?_⟩
      rw [aj]
      have := ih (some x) (some v) z u w' (fun e => rfl) (by simp only [lacks] at hn ⊢; omega) hK
      rw [show (none : Option Value).isSome = false from rfl, lj]
      exact this
    have goP : z = none → wpOp P ops Q p (fun a' w' => S w' ∧ wpAnyH P md ops Q S (fuel + n) ((L x.isSome y.isSome z.isSome u.isSome).setIfInBounds p true) a' w') (A x y z u) w := by
      rintro rfl
      unfold wpOp
      simp only [hp, wp, if_true]
      refine .inl ?_
      obtain ⟨v, w', hrun, hS, hK⟩ := sp x y u w hk
      unfold Oper.wp
      rw [hrun, Oper.upon_value]
      refine ⟨hS, ?_⟩
      rw [ap]
      have := ih x y (some v) u w' hxy (by simp only [lacks] at hn ⊢; omega) hK
      rw [show (none : Option Value).isSome = false from rfl, lp]
      exact this
    have goQ : u = none → wpOp P ops Q q (fun a' w' => S w' ∧ wpAnyH P md ops Q S (fuel + n) ((L x.isSome y.isSome z.isSome u.isSome).setIfInBounds q true) a' w') (A x y z u) w := by
      rintro rfl
      unfold wpOp
      simp only [hq, wq, if_true]
      refine .inl ?_
      obtain ⟨v, w', hrun, hS, hK⟩ := sq x y z w hk
      unfold Oper.wp
      rw [hrun, Oper.upon_value]
      refine ⟨hS, ?_⟩
      rw [aq]
      have := ih x y z (some v) w' hxy (by simp only [lacks] at hn ⊢; omega) hK
      rw [show (none : Option Value).isSome = false from rfl, lq]
      exact this
    have hnot : (x.isSome && y.isSome && z.isSome && u.isSome) = false := by
      cases x <;> cases y <;> cases z <;> cases u <;> first | rfl | (simp only [lacks] at hn; omega)
    refine wpAnyH_all (hr _ _ _ _ hxy hnot) ?_ (fun k hk => ?_)
    · cases x <;> cases y <;> cases z <;> cases u <;> simp at hnot ⊢
    · rcases List.mem_append.1 hk with hk | hk
      · cases x with
        | none =>
          have hy : y = none := by
            cases y with
            | none => rfl
            | some y => exact absurd (hxy rfl) (by simp)
          rw [show k = i by simpa using hk]
          exact goI rfl hy
        | some x =>
          cases y with
          | none =>
            rw [show k = j by simpa using hk]
            exact goJ rfl rfl
          | some y => simp at hk
      · rcases List.mem_append.1 hk with hk | hk
        · cases z with
          | none =>
            rw [show k = p by simpa using hk]
            exact goP rfl
          | some z => simp at hk
        · cases u with
          | none =>
            rw [show k = q by simpa using hk]
            exact goQ rfl
          | some u => simp at hk
end

/-! three operations, two in their order and one at any time -/
section
variable {P : Program} {ops : Array Oper} {Q : Exit → Act → World → Prop} {md : Region.Mode} {S : World → Prop}

/-- the operation o, a call or not, ends in a value that meets R -/
def Ends (P : Program) (o : Oper) (a : Act) (w : World) (R : Value → World → Prop) : Prop :=
  (∃ f args C, (execOp a.eval o).run P w = .ok (.enter f args) w ∧ Calls P f args w C ∧ ∀ e w', C e w' → ∃ v, e = .returned v ∧ R v w') ∨
  (∃ v w', (execOp a.eval o).run P w = .ok (.value v) w' ∧ R v w')

theorem Ends.op {i : Nat} {o : Oper} {a : Act} {w : World} {K : Act → World → Prop} {R : Value → World → Prop} (hi : ops[i]? = some o) (hw : Region.wanted o (yielded ops a.tmps) = true) (h : Ends P o a w R) (hR : ∀ v w', R v w' → K (a.put o.dst v) w') : wpOp P ops Q i K a w := by
  unfold wpOp
  simp only [hi, hw, if_true]
  refine .inl ?_
  unfold Oper.wp
  rcases h with ⟨f, args, C, hrun, hc, hz⟩ | ⟨v, w', hrun, hz⟩
  · rw [hrun, Oper.upon_enter]
    refine hc.mono fun e w' he => ?_
    obtain ⟨v, rfl, h2⟩ := hz e w' he
    exact hR v w' h2
  · rw [hrun, Oper.upon_value]
    exact hR v w' hz

def lack (x : Option Value) : Nat := match x with | none => 1 | some _ => 0
theorem held_three {L : Bool → Bool → Bool → Array Bool} {A : Option Value → Option Value → Option Value → Act} {K : Option Value → Option Value → Option Value → World → Prop} {fuel : Nat}
    {i j p : Nat} {oi oj op : Oper} (hi : ops[i]? = some oi) (hj : ops[j]? = some oj) (hp : ops[p]? = some op)
    (li : ∀ b c, (L false b c).setIfInBounds i true = L true b c) (lj : ∀ b c, (L b false c).setIfInBounds j true = L b true c) (lp : ∀ b c, (L b c false).setIfInBounds p true = L b c true)
    (ai : ∀ x y v, (A none x y).put oi.dst v = A (some v) x y) (aj : ∀ x y v, (A x none y).put oj.dst v = A x (some v) y) (ap : ∀ x y v, (A x y none).put op.dst v = A x y (some v))
    (wi : ∀ x y z, Region.wanted oi (yielded ops (A x y z).tmps) = true) (wj : ∀ x y z, Region.wanted oj (yielded ops (A x y z).tmps) = true) (wp : ∀ x y z, Region.wanted op (yielded ops (A x y z).tmps) = true)
    (hr : ∀ bi bj bp : Bool, (bj = true → bi = true) → (bi && bj && bp) = false → Region.ready md ops (L bi bj bp) = (if bi then (if bj then [] else [j]) else [i]) ++ (if bp then [] else [p]))
    (si : ∀ z w, K none none z w → Ends P oi (A none none z) w (fun v w' => S w' ∧ K (some v) none z w'))
    (sj : ∀ x z w, K (some x) none z w → Ends P oj (A (some x) none z) w (fun v w' => S w' ∧ K (some x) (some v) z w'))
    (sp : ∀ x y w, K x y none w → Ends P op (A x y none) w (fun v w' => S w' ∧ K x y (some v) w'))
    (h : ∀ x y z w, K (some x) (some y) (some z) w → wpAnyH P md ops Q S fuel (L true true true) (A (some x) (some y) (some z)) w) :
    ∀ (n : Nat) (x y z : Option Value) (w : World), (y.isSome = true → x.isSome = true) → lack x + lack y + lack z = n → K x y z w → wpAnyH P md ops Q S (fuel + n) (L x.isSome y.isSome z.isSome) (A x y z) w := by
  intro n
  induction n with
  | zero =>
    intro x y z w _ hn hk
    match x, y, z with
    | some x, some y, some z => exact h x y z w hk
    | none, _, _ => simp only [lack] at hn; omega
    | some _, none, _ => simp only [lack] at hn; omega
    | some _, some _, none => simp only [lack] at hn; omega
  | succ n ih =>
    intro x y z w hxy hn hk
    have hnot : (x.isSome && y.isSome && z.isSome) = false := by
      cases x <;> cases y <;> cases z <;> first | rfl | (simp only [lack] at hn; omega)
    have goP : z = none → wpOp P ops Q p (fun a' w' => S w' ∧ wpAnyH P md ops Q S (fuel + n) ((L x.isSome y.isSome z.isSome).setIfInBounds p true) a' w') (A x y z) w := by
      rintro rfl
      refine (sp x y w hk).op hp (wp _ _ _) (fun v w' hv => ⟨hv.1, ?_⟩)
      rw [ap]
      have := ih x y (some v) w' hxy (by simp only [lack] at hn ⊢; omega) hv.2
      rw [show (none : Option Value).isSome = false from rfl, lp]
      exact this
    refine wpAnyH_all (hr _ _ _ hxy hnot) ?_ (fun k hk2 => ?_)
    · cases x <;> cases y <;> cases z <;> simp at hnot ⊢
    · rcases List.mem_append.1 hk2 with hk2 | hk2
      · cases x with
        | none =>
          have hy : y = none := by
            cases y with
            | none => rfl
            | some y => exact absurd (hxy rfl) (by simp)
          subst hy
          rw [show k = i by simpa using hk2]
          refine (si z w hk).op hi (wi _ _ _) (fun v w' hv => ⟨hv.1, ?_⟩)
          rw [ai]
          have := ih (some v) none z w' (fun e => rfl) (by simp only [lack] at hn ⊢; omega) hv.2
          rw [show (none : Option Value).isSome = false from rfl, li]
          exact this
        | some x =>
          cases y with
          | none =>
            rw [show k = j by simpa using hk2]
            refine (sj x z w hk).op hj (wj _ _ _) (fun v w' hv => ⟨hv.1, ?_⟩)
            rw [aj]
            have := ih (some x) (some v) z w' (fun e => rfl) (by simp only [lack] at hn ⊢; omega) hv.2
            rw [show (none : Option Value).isSome = false from rfl, lj]
            exact this
          | some y => simp at hk2
      · cases z with
        | none =>
          rw [show k = p by simpa using hk2]
          exact goP rfl
        | some z => simp at hk2
end
def putW (d : Option Tmp) (x : Option Value) (a : Act) : Act := match x with | none => a | some v => a.put d v
theorem putW_put {d d' : Nat} (h : d ≠ d') (x : Option Value) (a : Act) (v : Value) : (putW (some d) x a).put (some d') v = putW (some d) x (a.put (some d') v) := by
  cases x with
  | none => rfl
  | some u =>
    show (a.put (some d) u).put (some d') v = (a.put (some d') v).put (some d) u
    unfold Act.put
    simp only
    congr 1
    exact Array.setIfInBounds_comm _ _ h
end Go.Proofs.Ytcniolmihpkmmaa
