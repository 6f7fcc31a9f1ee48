/- Four operations of a region, two calls in their order and two that give values at any time: all twelve orders end alike. Nothing of a program is claimed here. -/
import Derived.Test.YtekdkeoeijfhdaaPair
namespace Go.Proofs.Ytekdkeoeijfhdaa
open Go.RowKit

section
variable {P : Program} {ops : Array Oper} {Q : Exit → Act → World → Prop} {md : Region.Mode} {S : World → Prop}

def lacks (x : Option Value) : Nat := match x with | none => 1 | some _ => 0
theorem held_four {L : Bool → Bool → Bool → Bool → Array Bool} {A : Option Value → Option Value → Option Value → Option Value → Act} {K : Option Value → Option Value → Option Value → Option Value → World → Prop} {fuel : Nat}
    {i j p q : Nat} {oi oj op oq : Oper} (hi : ops[i]? = some oi) (hj : ops[j]? = some oj) (hp : ops[p]? = some op) (hq : ops[q]? = some oq)
    (li : ∀ b c d, (L false b c d).setIfInBounds i true = L true b c d) (lj : ∀ b c d, (L b false c d).setIfInBounds j true = L b true c d) (lp : ∀ b c d, (L b c false d).setIfInBounds p true = L b c true d) (lq : ∀ b c d, (L b c d false).setIfInBounds q true = L b c d true)
    (ai : ∀ x y z v, (A none x y z).put oi.dst v = A (some v) x y z) (aj : ∀ x y z v, (A x none y z).put oj.dst v = A x (some v) y z) (ap : ∀ x y z v, (A x y none z).put op.dst v = A x y (some v) z) (aq : ∀ x y z v, (A x y z none).put oq.dst v = A x y z (some v))
    (wi : ∀ x y z u, Region.wanted oi (yielded ops (A x y z u).tmps) = true) (wj : ∀ x y z u, Region.wanted oj (yielded ops (A x y z u).tmps) = true) (wp : ∀ x y z u, Region.wanted op (yielded ops (A x y z u).tmps) = true) (wq : ∀ x y z u, Region.wanted oq (yielded ops (A x y z u).tmps) = true)
    (hr : ∀ bi bj bp bq : Bool, (bj = true → bi = true) → (bi && bj && bp && bq) = false → Region.ready md ops (L bi bj bp bq) = (if bi then (if bj then [] else [j]) else [i]) ++ ((if bp then [] else [p]) ++ (if bq then [] else [q])))
    (si : ∀ z u w, K none none z u w → ∃ f args R, (execOp (A none none z u).eval oi).run P w = .ok (.enter f args) w ∧ Calls P f args w R ∧ ∀ e w', R e w' → ∃ v, e = .returned v ∧ S w' ∧ K (some v) none z u w')
    (sj : ∀ x z u w, K (some x) none z u w → ∃ f args R, (execOp (A (some x) none z u).eval oj).run P w = .ok (.enter f args) w ∧ Calls P f args w R ∧ ∀ e w', R e w' → ∃ v, e = .returned v ∧ S w' ∧ K (some x) (some v) z u w')
    (sp : ∀ x y u w, K x y none u w → ∃ v w', (execOp (A x y none u).eval op).run P w = .ok (.value v) w' ∧ S w' ∧ K x y (some v) u w')
    (sq : ∀ x y z w, K x y z none w → ∃ v w', (execOp (A x y z none).eval oq).run P w = .ok (.value v) w' ∧ S w' ∧ K x y z (some v) w')
    (h : ∀ x y z u w, K (some x) (some y) (some z) (some u) w → wpAnyH P md ops Q S fuel (L true true true true) (A (some x) (some y) (some z) (some u)) w) :
    ∀ (n : Nat) (x y z u : Option Value) (w : World), (y.isSome = true → x.isSome = true) → lacks x + lacks y + lacks z + lacks u = n → K x y z u w → wpAnyH P md ops Q S (fuel + n) (L x.isSome y.isSome z.isSome u.isSome) (A x y z u) w := by
  intro n
  induction n with
  | zero =>
    intro x y z u w _ hn hk
    match x, y, z, u with
    | some x, some y, some z, some u => exact h x y z u w hk
    | none, _, _, _ => simp only [lacks] at hn; omega
    | some _, none, _, _ => simp only [lacks] at hn; omega
    | some _, some _, none, _ => simp only [lacks] at hn; omega
    | some _, some _, some _, none => simp only [lacks] at hn; omega
  | succ n ih =>
    intro x y z u w hxy hn hk
    have goI : x = none → y = none → wpOp P ops Q i (fun a' w' => S w' ∧ wpAnyH P md ops Q S (fuel + n) ((L x.isSome y.isSome z.isSome u.isSome).setIfInBounds i true) a' w') (A x y z u) w := by
      rintro rfl rfl
      unfold wpOp
      simp only [hi, wi, if_true]
      refine .inl ?_
      obtain ⟨f, args, R, hrun, hc, hz⟩ := si z u w hk
      unfold Oper.wp
      rw [hrun, Oper.upon_enter]
      refine hc.mono fun e w' he => ?_
      obtain ⟨v, rfl, hS, hK⟩ := hz e w' he
      refine ⟨hS, ?_⟩
      rw [ai]
      have := ih (some v) none z u w' (fun e => rfl) (by simp only [lacks] at hn ⊢; omega) hK
      rw [show (none : Option Value).isSome = false from rfl, li]
      exact this
    have goJ : x.isSome = true → y = none → wpOp P ops Q j (fun a' w' => S w' ∧ wpAnyH P md ops Q S (fuel + n) ((L x.isSome y.isSome z.isSome u.isSome).setIfInBounds j true) a' w') (A x y z u) w := by
      intro hx
      rintro rfl
      obtain ⟨x, rfl⟩ := Option.isSome_iff_exists.1 hx
      unfold wpOp
      simp only [hj, wj, if_true]
      refine .inl ?_
      obtain ⟨f, args, R, hrun, hc, hz⟩ := sj x z u w hk
      unfold Oper.wp
      rw [hrun, Oper.upon_enter]
      refine hc.mono fun e w' he => ?_
      obtain ⟨v, rfl, hS, hK⟩ := hz e w' he
      refine ⟨hS, ?_⟩
      rw [aj]
      have := ih (some x) (some v) z u w' (fun e => rfl) (by simp only [lacks] at hn ⊢; omega) hK
      rw [show (none : Option Value).isSome = false from rfl, lj]
      exact this
    have goP : z = none → wpOp P ops Q p (fun a' w' => S w' ∧ wpAnyH P md ops Q S (fuel + n) ((L x.isSome y.isSome z.isSome u.isSome).setIfInBounds p true) a' w') (A x y z u) w := by
      rintro rfl
      unfold wpOp
      simp only [hp, wp, if_true]
      refine .inl ?_
      obtain ⟨v, w', hrun, hS, hK⟩ := sp x y u w hk
      unfold Oper.wp
      rw [hrun, Oper.upon_value]
      refine ⟨hS, ?_⟩
      rw [ap]
      have := ih x y (some v) u w' hxy (by simp only [lacks] at hn ⊢; omega) hK
      rw [show (none : Option Value).isSome = false from rfl, lp]
      exact this
    have goQ : u = none → wpOp P ops Q q (fun a' w' => S w' ∧ wpAnyH P md ops Q S (fuel + n) ((L x.isSome y.isSome z.isSome u.isSome).setIfInBounds q true) a' w') (A x y z u) w := by
      rintro rfl
      unfold wpOp
      simp only [hq, wq, if_true]
      refine .inl ?_
      obtain ⟨v, w', hrun, hS, hK⟩ := sq x y z w hk
      unfold Oper.wp
      rw [hrun, Oper.upon_value]
      refine ⟨hS, ?_⟩
      rw [aq]
      have := ih x y z (some v) w' hxy (by simp only [lacks] at hn ⊢; omega) hK
      rw [show (none : Option Value).isSome = false from rfl, lq]
      exact this
    have hnot : (x.isSome && y.isSome && z.isSome && u.isSome) = false := by
      cases x <;> cases y <;> cases z <;> cases u <;> first | rfl | (simp only [lacks] at hn; omega)
    refine wpAnyH_all (hr _ _ _ _ hxy hnot) ?_ (fun k hk => ?_)
    · cases x <;> cases y <;> cases z <;> cases u <;> simp at hnot ⊢
    · rcases List.mem_append.1 hk with hk | hk
      · cases x with
        | none =>
          have hy : y = none := by
            cases y with
            | none => rfl
            | some y => exact absurd (hxy rfl) (by simp)
          rw [show k = i by simpa using hk]
          exact goI rfl hy
        | some x =>
          cases y with
          | none =>
            rw [show k = j by simpa using hk]
            exact goJ rfl rfl
          | some y => simp at hk
      · rcases List.mem_append.1 hk with hk | hk
        · cases z with
          | none =>
            rw [show k = p by simpa using hk]
            exact goP rfl
          | some z => simp at hk
        · cases u with
          | none =>
            rw [show k = q by simpa using hk]
            exact goQ rfl
          | some u => simp at hk
end
end Go.Proofs.Ytekdkeoeijfhdaa
