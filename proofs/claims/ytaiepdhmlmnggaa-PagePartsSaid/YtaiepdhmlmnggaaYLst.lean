/- CheckList of row. -/
import Derived.Test.YtaiepdhmlmnggaaYCkl
namespace Go.Proofs.Ytaiepdhmlmnggaa
open Go.RowKit

def okAt (bs : List BdD) (l : List RowD) (i : Nat) : Prop := ∀ r, l[i]? = some r → rowE bs r = 0 ∧ ∀ j p, i = j + 1 → l[j]? = some p → cmpK p.key r.key < 0
def stepB (bs : List BdD) : List RowD → Bool
  | [] => true
  | a :: l => (rowE bs a == 0) && ((match l with | [] => true | b :: _ => decide (cmpK a.key b.key < 0)) && stepB bs l)
def okL (bs : List BdD) (l : List RowD) : Bool := decide (l.length ≤ 60) && stepB bs l
theorem stepB_iff (bs : List BdD) : ∀ l : List RowD, stepB bs l = true ↔ ∀ i, okAt bs l i
  | [] => by simp [stepB, okAt]
  | [a] => by
    simp only [stepB, Bool.and_true, beq_iff_eq]
    constructor
    · intro h i r hr
      match i, hr with
      | 0, hr => simp at hr; subst hr; exact ⟨h, fun j p hj => by omega⟩
      | i + 1, hr => simp at hr
    · intro h
      exact (h 0 a rfl).1
  | a :: b :: l => by
    have ih := stepB_iff bs (b :: l)
    simp only [stepB, Bool.and_eq_true, beq_iff_eq, decide_eq_true_eq] at ih ⊢
    constructor
    · rintro ⟨h1, h2, h3⟩ i r hr
      match i, hr with
      | 0, hr => simp at hr; subst hr; exact ⟨h1, fun j p hj => by omega⟩
      | i + 1, hr =>
        have hi := ih.1 h3 i r (by simpa using hr)
        refine ⟨hi.1, fun j p hj hp => ?_⟩
        obtain rfl : i = j := by omega
        match i, hp, hr with
        | 0, hp, hr => simp at hp hr; subst hp hr; exact h2
        | i + 1, hp, hr => exact hi.2 i p rfl (by simpa using hp)
    · intro h
      refine ⟨(h 0 a rfl).1, (h 1 b rfl).2 0 a rfl rfl, ih.2 fun i r hr => ?_⟩
      have hi := h (i + 1) r (by simpa using hr)
      refine ⟨hi.1, fun j p hj hp => hi.2 (j + 1) p (by omega) (by simpa using hp)⟩
theorem okL_iff (bs : List BdD) (l : List RowD) : okL bs l = true ↔ l.length ≤ 60 ∧ ∀ i, okAt bs l i := by
  unfold okL
  rw [Bool.and_eq_true, decide_eq_true_eq, stepB_iff]
def chkList (bs : List BdD) (l : List RowD) : Int := if okS bs = true then (if okL bs l = true then 0 else 151) else 150

theorem add0 (a : Addr) : a.add 0 = a := by unfold Addr.add; simp

def LstRel (W wr : World) (bs : List BdD) (l : List RowD) (k : Nat) : Prop := Below W.heap.size W wr ∧ ∀ i, i < k → okAt bs l i

end Go.Proofs.Ytaiepdhmlmnggaa
