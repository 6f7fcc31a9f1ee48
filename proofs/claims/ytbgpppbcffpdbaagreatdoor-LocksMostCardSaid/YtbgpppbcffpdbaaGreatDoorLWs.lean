/- Waits of locks. -/
import Derived.Test.YtbgpppbcffpdbaaGreatDoorLMc
import Derived.Test.YtbgpppbcffpdbaaGreatDoorLGd
import Derived.Test.YtbgpppbcffpdbaaGreatDoorLGe
namespace Go.Proofs.YtbgpppbcffpdbaaGreatDoor
open Go.RowKit

theorem ChkOk.sorts {L : List QueD} (h : ChkOk L) : ∀ d ∈ L, SortH d.hs := fun d hd => (h.fit d hd).hs.sort

/-- the queue in which a transaction waits -/
def wtOf : List QueD → Int → Option QueD
  | [], _ => none
  | d :: L, x => if 0 ≤ waitI d.ws x then some d else wtOf L x
theorem wtOf_none : ∀ {L : List QueD} {x : Int}, NoW L x L.length → wtOf L x = none
  | [], _, _ => rfl
  | d :: L, x, h => by
    have h0 := h 0 d (by simp) rfl
    have ih : wtOf L x = none := wtOf_none (fun i e hi he => h (i + 1) e (by simp; omega) (by simpa using he))
    unfold wtOf
    rw [if_neg (by omega)]; exact ih
theorem wtOf_some : ∀ {L : List QueD} {x : Int} {i : Nat} {d : QueD}, L[i]? = some d → 0 ≤ waitI d.ws x → NoW L x i → wtOf L x = some d
  | [], _, i, d, h, _, _ => by simp at h
  | e :: L, x, 0, d, h, h0, _ => by
    simp at h; subst h
    unfold wtOf; rw [if_pos h0]
  | e :: L, x, i + 1, d, h, h0, hn => by
    have h1 := hn 0 e (by omega) rfl
    unfold wtOf
    rw [if_neg (by omega)]
    exact wtOf_some (by simpa using h) h0 (fun j a hj ha => hn (j + 1) a (by omega) (by simpa using ha))
/-- the waiter that it is there -/
def wtrOf (d : QueD) (x : Int) : WaitD := (d.ws[(waitI d.ws x).toNat]?).getD ⟨0, 0, 0⟩
theorem wtr_at {d : QueD} {x : Int} (h : 0 ≤ waitI d.ws x) : ∃ (p : Nat) (a : WaitD), waitI d.ws x = p ∧ p < d.ws.length ∧ d.ws[p]? = some a ∧ wtrOf d x = a ∧ a.x = x ∧ ∀ i b, i < p → d.ws[i]? = some b → b.x ≠ x := by
  unfold wtrOf
  unfold waitI at h ⊢
  rcases fIdx_or (fun a : WaitD => a.x == x) d.ws with ⟨h1, _⟩ | ⟨k, a, h1, h2, h3, h4⟩
  · omega
  · refine ⟨k, a, h1, (List.getElem?_eq_some_iff.1 h2).1, h2, ?_, by simpa using h3, fun i b hi hb => ?_⟩
    · rw [h1, Int.toNat_natCast, h2]; rfl
    · simpa using h4 i b hi hb
end Go.Proofs.YtbgpppbcffpdbaaGreatDoor
