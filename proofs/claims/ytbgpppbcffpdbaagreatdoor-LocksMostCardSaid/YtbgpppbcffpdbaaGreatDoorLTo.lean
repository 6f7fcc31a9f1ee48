/- Every call has its answer; how long the rows of a queue may become; run as a law calls it. -/
import Derived.Test.YtbgpppbcffpdbaaGreatDoorLRu
import Derived.Test.YtbgpppbcffpdbaaGreatDoorLFe
import Derived.Test.YtbgpppbcffpdbaaGreatDoorLMu
namespace Go.Proofs.YtbgpppbcffpdbaaGreatDoor
open Go.RowKit

/-- no row of any queue is longer than N -/
def Len (N : Nat) (L : List QueD) : Prop := ∀ d ∈ L, d.hs.length ≤ N ∧ d.ws.length ≤ N
theorem Len.sm {N : Nat} {L : List QueD} (h : Len N L) (hN : N ≤ 100000) : Sm L := fun d hd => ⟨Nat.le_trans (h d hd).1 hN, Nat.le_trans (h d hd).2 hN⟩
theorem Len.qOf {N : Nat} {L : List QueD} (h : Len N L) (r : ResD) : (qOf L r).hs.length ≤ N ∧ (qOf L r).ws.length ≤ N := by
  unfold Go.Proofs.YtbgpppbcffpdbaaGreatDoor.qOf
  cases hx : L[posQ L r]? with
  | none => exact ⟨by simp [zeroQ], by simp [zeroQ]⟩
  | some d =>
    by_cases hr : d.res = r
    · simp only [hr, if_true]; exact h d (List.mem_of_getElem? hx)
    · simp only [hr, if_false]; exact ⟨by simp [zeroQ], by simp [zeroQ]⟩
end Go.Proofs.YtbgpppbcffpdbaaGreatDoor
