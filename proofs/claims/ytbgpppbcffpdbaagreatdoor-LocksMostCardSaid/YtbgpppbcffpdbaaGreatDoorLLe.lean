/- Leave of locks. -/
import Derived.Test.YtbgpppbcffpdbaaGreatDoorLRe
namespace Go.Proofs.YtbgpppbcffpdbaaGreatDoor
open Go.RowKit

end Go.Proofs.YtbgpppbcffpdbaaGreatDoor
