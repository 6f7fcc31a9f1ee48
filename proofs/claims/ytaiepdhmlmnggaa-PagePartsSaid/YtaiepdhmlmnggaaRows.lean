/-
  No cell of these rows narrows 'for every input' (looked for: loops, veiled, ifaces, maps, wideKeys, modest, calm, conditions, laid).
  DERIVED. THE GIVEN ROWS OF THIS SEAT. 5 by the template 'for every input the law returns true; each argument reads behind the call as it read before'; 0 by the template 'total and deterministic' (their statements: YtaiepdhmlmnggaaTotals.lean).
  GIVEN WITH THE SEED: the statements are not yours to turn. If you find one false, say at which input.
  Laid BY PROGRAM, IN A SANDBOX (cutbox-rows.mjs): the forced cells as the released guide's own fill.sh prints them over the translation 11b01305e8eb04c8… (all of the seat's roots in one cut). By AI agents, Wed Nov 11 2026. No macro, syntax, notation, axiom, sorry.
-/
import Derived.Test.YtaiepdhmlmnggaaChecked
import GoSem.Claim
import GoSem.ClaimJoined
import GoSem.ClaimMapViews
import Derived.JoinedTies
import Derived.KernelRfl
namespace Go.Proofs.Ytaiepdhmlmnggaa
/- THE CELL 'sum', in the pinned program and in every row, IS THE sha256 OF THE DUMP (.gsa) THAT YtaiepdhmlmnggaaProg.lean LOADS. Nothing in Lean hashes anything: it is a label: what it is worth is what the hold of that sum in a sandbox is worth. -/
noncomputable def Try.pinned : Pinned := { name := "ytaiepdhmlmnggaa", sum := "11b01305e8eb04c8a28e5f56007283db77001f4bbe18ba113018b6b3a1edebdf", checked := Try.checked }
namespace Rows
def none {H : Type} : Left H := { results := [], args := [] }

/-- 'bursarylaw11.PageLeaves': WHATEVER THE INPUT: true; the input reads as it did. -/
def pageLeavesSpec : ChangeSpec := { name := "pageLeaves", fn := fun _ => fun
  | [d1, d2] => { results := [.lit (.bool true)], args := [d1, d2] }
  | _ => none }
def pageLeavesRow : OpenClaim := { program := "ytaiepdhmlmnggaa", sum := "11b01305e8eb04c8a28e5f56007283db77001f4bbe18ba113018b6b3a1edebdf", func := "bursary/bursarylaw11.PageLeaves", spec := "pageLeaves", inPlace := ["slices.overlaps[bursary/api.Row]"], unfollowed := true, recurses := true, apart := false }
def PageLeavesSaid : Prop := pageLeavesRow.holds Try.pinned (OpenSpec.ofChange pageLeavesSpec)

/-- ITS FALSE NEIGHBOUR: 'it returns false'. Refute it at one input. -/
def pageLeavesWrong : ChangeSpec := { name := "pageLeaves", fn := fun _ => fun
  | [d1, d2] => { results := [.lit (.bool false)], args := [d1, d2] }
  | _ => none }
def PageLeavesWrongFalsely : Prop := pageLeavesRow.holds Try.pinned (OpenSpec.ofChange pageLeavesWrong)

/-- 'bursarylaw11.PageParts': WHATEVER THE INPUT: true; the input reads as it did. -/
def pagePartsSpec : ChangeSpec := { name := "pageParts", fn := fun _ => fun
  | [d1, d2, d3] => { results := [.lit (.bool true)], args := [d1, d2, d3] }
  | _ => none }
def pagePartsRow : OpenClaim := { program := "ytaiepdhmlmnggaa", sum := "11b01305e8eb04c8a28e5f56007283db77001f4bbe18ba113018b6b3a1edebdf", func := "bursary/bursarylaw11.PageParts", spec := "pageParts", unfollowed := true, recurses := true, apart := false }
def PagePartsSaid : Prop := pagePartsRow.holds Try.pinned (OpenSpec.ofChange pagePartsSpec)

/-- ITS FALSE NEIGHBOUR: 'it returns false'. Refute it at one input. -/
def pagePartsWrong : ChangeSpec := { name := "pageParts", fn := fun _ => fun
  | [d1, d2, d3] => { results := [.lit (.bool false)], args := [d1, d2, d3] }
  | _ => none }
def PagePartsWrongFalsely : Prop := pagePartsRow.holds Try.pinned (OpenSpec.ofChange pagePartsWrong)

/-- 'bursarylaw11.PageBack': WHATEVER THE INPUT: true; the input reads as it did. -/
def pageBackSpec : ChangeSpec := { name := "pageBack", fn := fun _ => fun
  | [d] => { results := [.lit (.bool true)], args := [d] }
  | _ => none }
def pageBackRow : OpenClaim := { program := "ytaiepdhmlmnggaa", sum := "11b01305e8eb04c8a28e5f56007283db77001f4bbe18ba113018b6b3a1edebdf", func := "bursary/bursarylaw11.PageBack", spec := "pageBack", unfollowed := true, recurses := true, apart := false }
def PageBackSaid : Prop := pageBackRow.holds Try.pinned (OpenSpec.ofChange pageBackSpec)

/-- ITS FALSE NEIGHBOUR: 'it returns false'. Refute it at one input. -/
def pageBackWrong : ChangeSpec := { name := "pageBack", fn := fun _ => fun
  | [d] => { results := [.lit (.bool false)], args := [d] }
  | _ => none }
def PageBackWrongFalsely : Prop := pageBackRow.holds Try.pinned (OpenSpec.ofChange pageBackWrong)

/-- 'bursarylaw11.PageLevels': WHATEVER THE INPUT: true; the input reads as it did. -/
def pageLevelsSpec : ChangeSpec := { name := "pageLevels", fn := fun _ => fun
  | [d1, d2, d3] => { results := [.lit (.bool true)], args := [d1, d2, d3] }
  | _ => none }
def pageLevelsRow : OpenClaim := { program := "ytaiepdhmlmnggaa", sum := "11b01305e8eb04c8a28e5f56007283db77001f4bbe18ba113018b6b3a1edebdf", func := "bursary/bursarylaw11.PageLevels", spec := "pageLevels", unfollowed := true, recurses := true, apart := false }
def PageLevelsSaid : Prop := pageLevelsRow.holds Try.pinned (OpenSpec.ofChange pageLevelsSpec)

/-- ITS FALSE NEIGHBOUR: 'it returns false'. Refute it at one input. -/
def pageLevelsWrong : ChangeSpec := { name := "pageLevels", fn := fun _ => fun
  | [d1, d2, d3] => { results := [.lit (.bool false)], args := [d1, d2, d3] }
  | _ => none }
def PageLevelsWrongFalsely : Prop := pageLevelsRow.holds Try.pinned (OpenSpec.ofChange pageLevelsWrong)

/-- 'bursarylaw11.PageHolds': WHATEVER THE INPUT: true; the input reads as it did. -/
def pageHoldsSpec : ChangeSpec := { name := "pageHolds", fn := fun _ => fun
  | [d1, d2, d3] => { results := [.lit (.bool true)], args := [d1, d2, d3] }
  | _ => none }
def pageHoldsRow : OpenClaim := { program := "ytaiepdhmlmnggaa", sum := "11b01305e8eb04c8a28e5f56007283db77001f4bbe18ba113018b6b3a1edebdf", func := "bursary/bursarylaw11.PageHolds", spec := "pageHolds", inPlace := ["slices.overlaps[bursary/api.Row]"], unfollowed := true, recurses := true, apart := false }
def PageHoldsSaid : Prop := pageHoldsRow.holds Try.pinned (OpenSpec.ofChange pageHoldsSpec)

/-- ITS FALSE NEIGHBOUR: 'it returns false'. Refute it at one input. -/
def pageHoldsWrong : ChangeSpec := { name := "pageHolds", fn := fun _ => fun
  | [d1, d2, d3] => { results := [.lit (.bool false)], args := [d1, d2, d3] }
  | _ => none }
def PageHoldsWrongFalsely : Prop := pageHoldsRow.holds Try.pinned (OpenSpec.ofChange pageHoldsWrong)

/- THE SECOND FORM. 'bulk': how many values and letters a reading holds, each counted each time it is reached (what is shared counts as often as it is met; a slice's spare places count too). A statement '..UptoSaid' is the law's where the arguments, and the package variables that the reading takes, are together of bulk at most 1048576: NARROWER than '..Said'. Prove '..Said' where nothing that the law and all that it calls make is longer than what came in: it says more and counts as full. Else prove '..UptoSaid'. A law counts once. -/
mutual
def uptoBulk {H : Type} : DataW H → Nat
  | .lit (.string bytes) => bytes.length + 1
  | .lit _ => 1
  | .nil => 1
  | .ptr d => uptoBulk d + 1
  | .slice elems spare => uptoBulkAll elems + uptoBulkAll spare + 1
  | .agg parts => uptoBulkAll parts + 1
  | .iface _ d => uptoBulk d + 1
  | .map entries => uptoBulkEntries entries + 1
  | .held _ => 1
def uptoBulkAll {H : Type} : List (DataW H) → Nat
  | [] => 0
  | d :: r => uptoBulk d + uptoBulkAll r
def uptoBulkEntries {H : Type} : List (Lit × DataW H) → Nat
  | [] => 0
  | x :: r => uptoBulkEntry x + uptoBulkEntries r
def uptoBulkEntry {H : Type} : Lit × DataW H → Nat
  | (.string bytes, d) => bytes.length + uptoBulk d + 1
  | (_, d) => uptoBulk d + 1
 end
def uptoSmall : (H : Type) → List (DataW H) → Bool := fun _ ds => decide (uptoBulkAll ds ≤ 1048576)
def OpenSpec.upto (s : _root_.Go.ChangeSpec) : _root_.Go.OpenSpec := { _root_.Go.OpenSpec.ofChange s with cond := some uptoSmall }

/-- 'bursarylaw11.PageLeaves', WHERE WHAT IT READS IS OF BULK AT MOST 1048576: true; the input reads as it did. -/
def pageLeavesUptoRow : OpenClaim := { program := "ytaiepdhmlmnggaa", sum := "11b01305e8eb04c8a28e5f56007283db77001f4bbe18ba113018b6b3a1edebdf", func := "bursary/bursarylaw11.PageLeaves", spec := "pageLeaves", inPlace := ["slices.overlaps[bursary/api.Row]"], unfollowed := true, recurses := true, apart := false, narrowed := true }
def PageLeavesUptoSaid : Prop := pageLeavesUptoRow.holds Try.pinned (OpenSpec.upto pageLeavesSpec)

/-- 'bursarylaw11.PageParts', WHERE WHAT IT READS IS OF BULK AT MOST 1048576: true; the input reads as it did. -/
def pagePartsUptoRow : OpenClaim := { program := "ytaiepdhmlmnggaa", sum := "11b01305e8eb04c8a28e5f56007283db77001f4bbe18ba113018b6b3a1edebdf", func := "bursary/bursarylaw11.PageParts", spec := "pageParts", unfollowed := true, recurses := true, apart := false, narrowed := true }
def PagePartsUptoSaid : Prop := pagePartsUptoRow.holds Try.pinned (OpenSpec.upto pagePartsSpec)

/-- 'bursarylaw11.PageBack', WHERE WHAT IT READS IS OF BULK AT MOST 1048576: true; the input reads as it did. -/
def pageBackUptoRow : OpenClaim := { program := "ytaiepdhmlmnggaa", sum := "11b01305e8eb04c8a28e5f56007283db77001f4bbe18ba113018b6b3a1edebdf", func := "bursary/bursarylaw11.PageBack", spec := "pageBack", unfollowed := true, recurses := true, apart := false, narrowed := true }
def PageBackUptoSaid : Prop := pageBackUptoRow.holds Try.pinned (OpenSpec.upto pageBackSpec)

/-- 'bursarylaw11.PageLevels', WHERE WHAT IT READS IS OF BULK AT MOST 1048576: true; the input reads as it did. -/
def pageLevelsUptoRow : OpenClaim := { program := "ytaiepdhmlmnggaa", sum := "11b01305e8eb04c8a28e5f56007283db77001f4bbe18ba113018b6b3a1edebdf", func := "bursary/bursarylaw11.PageLevels", spec := "pageLevels", unfollowed := true, recurses := true, apart := false, narrowed := true }
def PageLevelsUptoSaid : Prop := pageLevelsUptoRow.holds Try.pinned (OpenSpec.upto pageLevelsSpec)

/-- 'bursarylaw11.PageHolds', WHERE WHAT IT READS IS OF BULK AT MOST 1048576: true; the input reads as it did. -/
def pageHoldsUptoRow : OpenClaim := { program := "ytaiepdhmlmnggaa", sum := "11b01305e8eb04c8a28e5f56007283db77001f4bbe18ba113018b6b3a1edebdf", func := "bursary/bursarylaw11.PageHolds", spec := "pageHolds", inPlace := ["slices.overlaps[bursary/api.Row]"], unfollowed := true, recurses := true, apart := false, narrowed := true }
def PageHoldsUptoSaid : Prop := pageHoldsUptoRow.holds Try.pinned (OpenSpec.upto pageHoldsSpec)

end Rows
end Go.Proofs.Ytaiepdhmlmnggaa
