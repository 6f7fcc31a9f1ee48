/- Text and Parse. -/
import Derived.Test.YtbgpppbcffpdbaaGreatDoorMSup
namespace Go.Proofs.YtbgpppbcffpdbaaGreatDoor
open Go.RowKit

theorem seven {k : Nat} (h : k < 7) : k = 0 ∨ k = 1 ∨ k = 2 ∨ k = 3 ∨ k = 4 ∨ k = 5 ∨ k = 6 := by omega

end Go.Proofs.YtbgpppbcffpdbaaGreatDoor
