/- A region that draws its order: calls in their order, and three new variables at any time. Nothing of a program is claimed here. -/
import Derived.Test.YtaiepdhmlmnggaaPFx
namespace Go.Proofs.Ytaiepdhmlmnggaa
open Go.RowKit

def putX (a : Act) (x : Option Value) (d : Option Tmp) : Act := match x with | none => a | some v => a.put d v
def lck (x : Option Value) : Nat := match x with | none => 1 | some _ => 0
theorem putX_comm {d e : Option Tmp} (h : ∀ (b : Act) v u, (b.put d u).put e v = (b.put e v).put d u) (a : Act) (x : Option Value) (v : Value) : (putX a x d).put e v = putX (a.put e v) x d := by
  cases x
  · rfl
  · exact h _ _ _
section
variable {P : Program} {ops : Array Oper} {Q : Exit → Act → World → Prop} {md : Region.Mode} {S : World → Prop} {L : Bool → Bool → Bool → Array Bool} {A : Option Value → Option Value → Option Value → Act} {K : Option Value → Option Value → Option Value → World → Prop}
theorem value_op {k : Nat} {o : Oper} {a a' : Act} {w w' : World} {v : Value} {J : Act → World → Prop} (hk : ops[k]? = some o) (hw : Region.wanted o (yielded ops a.tmps) = true) (ha : a.put o.dst v = a') (hrun : (execOp a.eval o).run P w = .ok (.value v) w') (h : J a' w') : wpOp P ops Q k J a w := by
  unfold wpOp
  simp only [hk, hw, if_true]
  refine .inl ?_
  unfold Oper.wp
  rw [hrun, Oper.upon_value, ha]
  exact h
theorem call_op {k : Nat} {o : Oper} {dst : Option Tmp} (hd : o.dst = dst) {a : Act} {w : World} {f : FuncId} {args : Array Value} {R : Ending → World → Prop} {J : Act → World → Prop} (hk : ops[k]? = some o) (hw : Region.wanted o (yielded ops a.tmps) = true) (hrun : (execOp a.eval o).run P w = .ok (.enter f args) w) (hc : Calls P f args w R) (h : ∀ e w', R e w' → ∃ v, e = .returned v ∧ J (a.put dst v) w') : wpOp P ops Q k J a w := by
  subst hd
  unfold wpOp
  simp only [hk, hw, if_true]
  refine .inl ?_
  unfold Oper.wp
  rw [hrun, Oper.upon_enter]
  refine hc.mono fun e y he => ?_
  obtain ⟨v, rfl, h1⟩ := h e y he
  exact h1
theorem held_main {F : Nat} {i p q r : Nat} {op oq os : Oper}
    (hr : ∀ a b c, Region.ready md ops (L a b c) = i :: ((if a then [] else [p]) ++ ((if b then [] else [q]) ++ (if c then [] else [r]))))
    (hp : ops[p]? = some op) (hq : ops[q]? = some oq) (hs : ops[r]? = some os)
    (lp : ∀ b c, (L false b c).setIfInBounds p true = L true b c) (lq : ∀ a c, (L a false c).setIfInBounds q true = L a true c) (lr : ∀ a b, (L a b false).setIfInBounds r true = L a b true)
    (ap : ∀ y z v, (A none y z).put op.dst v = A (some v) y z) (aq : ∀ x z v, (A x none z).put oq.dst v = A x (some v) z) (ar : ∀ x y v, (A x y none).put os.dst v = A x y (some v))
    (wp : ∀ x y z, Region.wanted op (yielded ops (A x y z).tmps) = true) (wq : ∀ x y z, Region.wanted oq (yielded ops (A x y z).tmps) = true) (wr : ∀ x y z, Region.wanted os (yielded ops (A x y z).tmps) = true)
    (sp : ∀ y z w, K none y z w → ∃ v w', (execOp (A none y z).eval op).run P w = .ok (.value v) w' ∧ S w' ∧ K (some v) y z w')
    (sq : ∀ x z w, K x none z w → ∃ v w', (execOp (A x none z).eval oq).run P w = .ok (.value v) w' ∧ S w' ∧ K x (some v) z w')
    (sr : ∀ x y w, K x y none w → ∃ v w', (execOp (A x y none).eval os).run P w = .ok (.value v) w' ∧ S w' ∧ K x y (some v) w')
    (si : ∀ x y z w, K x y z w → wpOp P ops Q i (fun a' w' => S w' ∧ wpAnyH P md ops Q S (lck x + lck y + lck z + F) ((L x.isSome y.isSome z.isSome).setIfInBounds i true) a' w') (A x y z) w) :
    ∀ (n : Nat) (x y z : Option Value) (w : World), lck x + lck y + lck z = n → K x y z w → wpAnyH P md ops Q S (n + F + 1) (L x.isSome y.isSome z.isSome) (A x y z) w := by
  intro n
  induction n with
  | zero =>
    intro x y z w hn hK
    refine wpAnyH_all (hr _ _ _) (by simp) (fun k hk => ?_)
    have h := si x y z w hK
    rw [hn] at h
    rcases List.mem_cons.1 hk with rfl | hk
    · exact h
    · cases x <;> cases y <;> cases z <;> simp [lck] at hn hk
  | succ n ih =>
    intro x y z w hn hK
    have hfe : n + 1 + F = n + F + 1 := by omega
    refine wpAnyH_all (hr _ _ _) (by simp) (fun k hk => ?_)
    have h := si x y z w hK
    rw [hn] at h
    rcases List.mem_cons.1 hk with rfl | hk
    · exact h
    · rcases List.mem_append.1 hk with hk | hk
      · cases x with
        | some v => simp at hk
        | none =>
          obtain rfl : k = p := by simpa using hk
          obtain ⟨v, w', hrun, hS, hK'⟩ := sp y z w hK
          refine value_op hp (wp _ _ _) (ap y z v) hrun ⟨hS, ?_⟩
          rw [hfe]
          have h2 := ih (some v) y z w' (by simp only [lck] at hn ⊢; omega) hK'
          exact (lp y.isSome z.isSome) ▸ h2
      · rcases List.mem_append.1 hk with hk | hk
        · cases y with
          | some v => simp at hk
          | none =>
            obtain rfl : k = q := by simpa using hk
            obtain ⟨v, w', hrun, hS, hK'⟩ := sq x z w hK
            refine value_op hq (wq _ _ _) (aq x z v) hrun ⟨hS, ?_⟩
            rw [hfe]
            have h2 := ih x (some v) z w' (by simp only [lck] at hn ⊢; omega) hK'
            exact (lq x.isSome z.isSome) ▸ h2
        · cases z with
          | some v => simp at hk
          | none =>
            obtain rfl : k = r := by simpa using hk
            obtain ⟨v, w', hrun, hS, hK'⟩ := sr x y w hK
            refine value_op hs (wr _ _ _) (ar x y v) hrun ⟨hS, ?_⟩
            rw [hfe]
            have h2 := ih x y (some v) w' (by simp only [lck] at hn ⊢; omega) hK'
            exact (lr x.isSome y.isSome) ▸ h2
theorem held_end {F : Nat} {p q r : Nat} {op oq os : Oper}
    (hr : ∀ a b c, (a && (b && c)) = false → Region.ready md ops (L a b c) = (if a then [] else [p]) ++ ((if b then [] else [q]) ++ (if c then [] else [r])))
    (hp : ops[p]? = some op) (hq : ops[q]? = some oq) (hs : ops[r]? = some os)
    (lp : ∀ b c, (L false b c).setIfInBounds p true = L true b c) (lq : ∀ a c, (L a false c).setIfInBounds q true = L a true c) (lr : ∀ a b, (L a b false).setIfInBounds r true = L a b true)
    (ap : ∀ y z v, (A none y z).put op.dst v = A (some v) y z) (aq : ∀ x z v, (A x none z).put oq.dst v = A x (some v) z) (ar : ∀ x y v, (A x y none).put os.dst v = A x y (some v))
    (wp : ∀ x y z, Region.wanted op (yielded ops (A x y z).tmps) = true) (wq : ∀ x y z, Region.wanted oq (yielded ops (A x y z).tmps) = true) (wr : ∀ x y z, Region.wanted os (yielded ops (A x y z).tmps) = true)
    (sp : ∀ y z w, K none y z w → ∃ v w', (execOp (A none y z).eval op).run P w = .ok (.value v) w' ∧ S w' ∧ K (some v) y z w')
    (sq : ∀ x z w, K x none z w → ∃ v w', (execOp (A x none z).eval oq).run P w = .ok (.value v) w' ∧ S w' ∧ K x (some v) z w')
    (sr : ∀ x y w, K x y none w → ∃ v w', (execOp (A x y none).eval os).run P w = .ok (.value v) w' ∧ S w' ∧ K x y (some v) w')
    (h : ∀ x y z w, K (some x) (some y) (some z) w → wpAnyH P md ops Q S F (L true true true) (A (some x) (some y) (some z)) w) :
    ∀ (n : Nat) (x y z : Option Value) (w : World), lck x + lck y + lck z = n → K x y z w → wpAnyH P md ops Q S (n + F) (L x.isSome y.isSome z.isSome) (A x y z) w := by
  intro n
  induction n with
  | zero =>
    intro x y z w hn hK
    rw [Nat.zero_add]
    cases x with
    | none => simp [lck] at hn
    | some x => cases y with
      | none => simp [lck] at hn
      | some y => cases z with
        | none => simp [lck] at hn
        | some z => exact h x y z w hK
  | succ n ih =>
    intro x y z w hn hK
    have hfe : n + 1 + F = n + F + 1 := by omega
    rw [hfe]
    have hne : (x.isSome && (y.isSome && z.isSome)) = false := by cases x <;> cases y <;> cases z <;> simp [lck] at hn ⊢
    refine wpAnyH_all (hr _ _ _ hne) (by cases x <;> cases y <;> cases z <;> simp [lck] at hn ⊢) (fun k hk => ?_)
    rcases List.mem_append.1 hk with hk | hk
    · cases x with
      | some v => simp at hk
      | none =>
        obtain rfl : k = p := by simpa using hk
        obtain ⟨v, w', hrun, hS, hK'⟩ := sp y z w hK
        refine value_op hp (wp _ _ _) (ap y z v) hrun ⟨hS, ?_⟩
        have h2 := ih (some v) y z w' (by simp only [lck] at hn ⊢; omega) hK'
        exact (lp y.isSome z.isSome) ▸ h2
    · rcases List.mem_append.1 hk with hk | hk
      · cases y with
        | some v => simp at hk
        | none =>
          obtain rfl : k = q := by simpa using hk
          obtain ⟨v, w', hrun, hS, hK'⟩ := sq x z w hK
          refine value_op hq (wq _ _ _) (aq x z v) hrun ⟨hS, ?_⟩
          have h2 := ih x (some v) z w' (by simp only [lck] at hn ⊢; omega) hK'
          exact (lq x.isSome z.isSome) ▸ h2
      · cases z with
        | some v => simp at hk
        | none =>
          obtain rfl : k = r := by simpa using hk
          obtain ⟨v, w', hrun, hS, hK'⟩ := sr x y w hK
          refine value_op hs (wr _ _ _) (ar x y v) hrun ⟨hS, ?_⟩
          have h2 := ih x y (some v) w' (by simp only [lck] at hn ⊢; omega) hK'
          exact (lr x.isSome y.isSome) ▸ h2
end
end Go.Proofs.Ytaiepdhmlmnggaa
