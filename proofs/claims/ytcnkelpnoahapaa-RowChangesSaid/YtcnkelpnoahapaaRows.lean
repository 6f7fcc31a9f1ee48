/-
  No cell of these rows narrows 'for every input' (looked for: loops, veiled, ifaces, maps, wideKeys, modest, calm, conditions, laid).
  DERIVED. THE GIVEN ROWS OF THIS SEAT. 6 by the template 'for every input the law returns true; each argument reads behind the call as it read before'; 0 by the template 'total and deterministic' (their statements: YtcnkelpnoahapaaTotals.lean).
  GIVEN WITH THE SEED: the statements are not yours to turn. If you find one false, say at which input.
  Laid BY PROGRAM, IN A SANDBOX (cutbox-rows.mjs): the forced cells as the released guide's own fill.sh prints them over the translation 06ba688b56264717… (all of the seat's roots in one cut). By AI agents, Wed Nov 11 2026. No macro, syntax, notation, axiom, sorry.
-/
import Derived.Test.YtcnkelpnoahapaaChecked
import GoSem.Claim
import GoSem.ClaimJoined
import GoSem.ClaimMapViews
import Derived.JoinedTies
import Derived.KernelRfl
namespace Go.Proofs.Ytcnkelpnoahapaa
/- THE CELL 'sum', in the pinned program and in every row, IS THE sha256 OF THE DUMP (.gsa) THAT YtcnkelpnoahapaaProg.lean LOADS. Nothing in Lean hashes anything: it is a label: what it is worth is what the hold of that sum in a sandbox is worth. -/
noncomputable def Try.pinned : Pinned := { name := "ytcnkelpnoahapaa", sum := "06ba688b562647179568a8c8ecb661510a31af58ad11f945af9d3e828f86c785", checked := Try.checked }
namespace Rows
def none {H : Type} : Left H := { results := [], args := [] }

/-- 'bursarylaw05.RowTells': WHATEVER THE INPUT: true; the input reads as it did. -/
def rowTellsSpec : ChangeSpec := { name := "rowTells", fn := fun _ => fun
  | [d1, d2, d3] => { results := [.lit (.bool true)], args := [d1, d2, d3] }
  | _ => none }
def rowTellsRow : OpenClaim := { program := "ytcnkelpnoahapaa", sum := "06ba688b562647179568a8c8ecb661510a31af58ad11f945af9d3e828f86c785", func := "bursary/bursarylaw05.RowTells", spec := "rowTells", inPlace := ["slices.overlaps[bursary/api.Row]"], unfollowed := true, recurses := true, apart := false }
def RowTellsSaid : Prop := rowTellsRow.holds Try.pinned (OpenSpec.ofChange rowTellsSpec)

/-- ITS FALSE NEIGHBOUR: 'it returns false'. Refute it at one input. -/
def rowTellsWrong : ChangeSpec := { name := "rowTells", fn := fun _ => fun
  | [d1, d2, d3] => { results := [.lit (.bool false)], args := [d1, d2, d3] }
  | _ => none }
def RowTellsWrongFalsely : Prop := rowTellsRow.holds Try.pinned (OpenSpec.ofChange rowTellsWrong)

/-- 'bursarylaw05.RowFinds': WHATEVER THE INPUT: true; the input reads as it did. -/
def rowFindsSpec : ChangeSpec := { name := "rowFinds", fn := fun _ => fun
  | [d1, d2, d3] => { results := [.lit (.bool true)], args := [d1, d2, d3] }
  | _ => none }
def rowFindsRow : OpenClaim := { program := "ytcnkelpnoahapaa", sum := "06ba688b562647179568a8c8ecb661510a31af58ad11f945af9d3e828f86c785", func := "bursary/bursarylaw05.RowFinds", spec := "rowFinds", inPlace := ["slices.overlaps[bursary/api.Row]"], unfollowed := true, recurses := true, apart := false }
def RowFindsSaid : Prop := rowFindsRow.holds Try.pinned (OpenSpec.ofChange rowFindsSpec)

/-- ITS FALSE NEIGHBOUR: 'it returns false'. Refute it at one input. -/
def rowFindsWrong : ChangeSpec := { name := "rowFinds", fn := fun _ => fun
  | [d1, d2, d3] => { results := [.lit (.bool false)], args := [d1, d2, d3] }
  | _ => none }
def RowFindsWrongFalsely : Prop := rowFindsRow.holds Try.pinned (OpenSpec.ofChange rowFindsWrong)

/-- 'bursarylaw05.RowChanges': WHATEVER THE INPUT: true; the input reads as it did. -/
def rowChangesSpec : ChangeSpec := { name := "rowChanges", fn := fun _ => fun
  | [d1, d2, d3] => { results := [.lit (.bool true)], args := [d1, d2, d3] }
  | _ => none }
def rowChangesRow : OpenClaim := { program := "ytcnkelpnoahapaa", sum := "06ba688b562647179568a8c8ecb661510a31af58ad11f945af9d3e828f86c785", func := "bursary/bursarylaw05.RowChanges", spec := "rowChanges", inPlace := ["slices.overlaps[bursary/api.Row]"], unfollowed := true, recurses := true, apart := false }
def RowChangesSaid : Prop := rowChangesRow.holds Try.pinned (OpenSpec.ofChange rowChangesSpec)

/-- ITS FALSE NEIGHBOUR: 'it returns false'. Refute it at one input. -/
def rowChangesWrong : ChangeSpec := { name := "rowChanges", fn := fun _ => fun
  | [d1, d2, d3] => { results := [.lit (.bool false)], args := [d1, d2, d3] }
  | _ => none }
def RowChangesWrongFalsely : Prop := rowChangesRow.holds Try.pinned (OpenSpec.ofChange rowChangesWrong)

/-- 'bursarylaw05.RowBack': WHATEVER THE INPUT: true; the input reads as it did. -/
def rowBackSpec : ChangeSpec := { name := "rowBack", fn := fun _ => fun
  | [d1, d2, d3] => { results := [.lit (.bool true)], args := [d1, d2, d3] }
  | _ => none }
def rowBackRow : OpenClaim := { program := "ytcnkelpnoahapaa", sum := "06ba688b562647179568a8c8ecb661510a31af58ad11f945af9d3e828f86c785", func := "bursary/bursarylaw05.RowBack", spec := "rowBack", inPlace := ["slices.overlaps[bursary/api.Row]"], unfollowed := true, recurses := true, apart := false }
def RowBackSaid : Prop := rowBackRow.holds Try.pinned (OpenSpec.ofChange rowBackSpec)

/-- ITS FALSE NEIGHBOUR: 'it returns false'. Refute it at one input. -/
def rowBackWrong : ChangeSpec := { name := "rowBack", fn := fun _ => fun
  | [d1, d2, d3] => { results := [.lit (.bool false)], args := [d1, d2, d3] }
  | _ => none }
def RowBackWrongFalsely : Prop := rowBackRow.holds Try.pinned (OpenSpec.ofChange rowBackWrong)

/-- 'bursarylaw05.RowOrder': WHATEVER THE INPUT: true; the input reads as it did. -/
def rowOrderSpec : ChangeSpec := { name := "rowOrder", fn := fun _ => fun
  | [d] => { results := [.lit (.bool true)], args := [d] }
  | _ => none }
def rowOrderRow : OpenClaim := { program := "ytcnkelpnoahapaa", sum := "06ba688b562647179568a8c8ecb661510a31af58ad11f945af9d3e828f86c785", func := "bursary/bursarylaw05.RowOrder", spec := "rowOrder", inPlace := ["slices.overlaps[bursary/api.Row]"], unfollowed := true, recurses := true, apart := false }
def RowOrderSaid : Prop := rowOrderRow.holds Try.pinned (OpenSpec.ofChange rowOrderSpec)

/-- ITS FALSE NEIGHBOUR: 'it returns false'. Refute it at one input. -/
def rowOrderWrong : ChangeSpec := { name := "rowOrder", fn := fun _ => fun
  | [d] => { results := [.lit (.bool false)], args := [d] }
  | _ => none }
def RowOrderWrongFalsely : Prop := rowOrderRow.holds Try.pinned (OpenSpec.ofChange rowOrderWrong)

/-- 'bursarylaw05.RowTables': WHATEVER THE INPUT: true; the input reads as it did. -/
def rowTablesSpec : ChangeSpec := { name := "rowTables", fn := fun _ => fun
  | [d1, d2] => { results := [.lit (.bool true)], args := [d1, d2] }
  | _ => none }
def rowTablesRow : OpenClaim := { program := "ytcnkelpnoahapaa", sum := "06ba688b562647179568a8c8ecb661510a31af58ad11f945af9d3e828f86c785", func := "bursary/bursarylaw05.RowTables", spec := "rowTables", inPlace := ["slices.overlaps[bursary/api.Row]"], unfollowed := true, recurses := true, apart := false }
def RowTablesSaid : Prop := rowTablesRow.holds Try.pinned (OpenSpec.ofChange rowTablesSpec)

/-- ITS FALSE NEIGHBOUR: 'it returns false'. Refute it at one input. -/
def rowTablesWrong : ChangeSpec := { name := "rowTables", fn := fun _ => fun
  | [d1, d2] => { results := [.lit (.bool false)], args := [d1, d2] }
  | _ => none }
def RowTablesWrongFalsely : Prop := rowTablesRow.holds Try.pinned (OpenSpec.ofChange rowTablesWrong)

/- THE SECOND FORM. 'bulk': how many values and letters a reading holds, each counted each time it is reached (what is shared counts as often as it is met; a slice's spare places count too). A statement '..UptoSaid' is the law's where the arguments, and the package variables that the reading takes, are together of bulk at most 1048576: NARROWER than '..Said'. Prove '..Said' where nothing that the law and all that it calls make is longer than what came in: it says more and counts as full. Else prove '..UptoSaid'. A law counts once. -/
mutual
def uptoBulk {H : Type} : DataW H → Nat
  | .lit (.string bytes) => bytes.length + 1
  | .lit _ => 1
  | .nil => 1
  | .ptr d => uptoBulk d + 1
  | .slice elems spare => uptoBulkAll elems + uptoBulkAll spare + 1
  | .agg parts => uptoBulkAll parts + 1
  | .iface _ d => uptoBulk d + 1
  | .map entries => uptoBulkEntries entries + 1
  | .held _ => 1
def uptoBulkAll {H : Type} : List (DataW H) → Nat
  | [] => 0
  | d :: r => uptoBulk d + uptoBulkAll r
def uptoBulkEntries {H : Type} : List (Lit × DataW H) → Nat
  | [] => 0
  | x :: r => uptoBulkEntry x + uptoBulkEntries r
def uptoBulkEntry {H : Type} : Lit × DataW H → Nat
  | (.string bytes, d) => bytes.length + uptoBulk d + 1
  | (_, d) => uptoBulk d + 1
 end
def uptoSmall : (H : Type) → List (DataW H) → Bool := fun _ ds => decide (uptoBulkAll ds ≤ 1048576)
def OpenSpec.upto (s : _root_.Go.ChangeSpec) : _root_.Go.OpenSpec := { _root_.Go.OpenSpec.ofChange s with cond := some uptoSmall }

/-- 'bursarylaw05.RowTells', WHERE WHAT IT READS IS OF BULK AT MOST 1048576: true; the input reads as it did. -/
def rowTellsUptoRow : OpenClaim := { program := "ytcnkelpnoahapaa", sum := "06ba688b562647179568a8c8ecb661510a31af58ad11f945af9d3e828f86c785", func := "bursary/bursarylaw05.RowTells", spec := "rowTells", inPlace := ["slices.overlaps[bursary/api.Row]"], unfollowed := true, recurses := true, apart := false, narrowed := true }
def RowTellsUptoSaid : Prop := rowTellsUptoRow.holds Try.pinned (OpenSpec.upto rowTellsSpec)

/-- 'bursarylaw05.RowFinds', WHERE WHAT IT READS IS OF BULK AT MOST 1048576: true; the input reads as it did. -/
def rowFindsUptoRow : OpenClaim := { program := "ytcnkelpnoahapaa", sum := "06ba688b562647179568a8c8ecb661510a31af58ad11f945af9d3e828f86c785", func := "bursary/bursarylaw05.RowFinds", spec := "rowFinds", inPlace := ["slices.overlaps[bursary/api.Row]"], unfollowed := true, recurses := true, apart := false, narrowed := true }
def RowFindsUptoSaid : Prop := rowFindsUptoRow.holds Try.pinned (OpenSpec.upto rowFindsSpec)

/-- 'bursarylaw05.RowChanges', WHERE WHAT IT READS IS OF BULK AT MOST 1048576: true; the input reads as it did. -/
def rowChangesUptoRow : OpenClaim := { program := "ytcnkelpnoahapaa", sum := "06ba688b562647179568a8c8ecb661510a31af58ad11f945af9d3e828f86c785", func := "bursary/bursarylaw05.RowChanges", spec := "rowChanges", inPlace := ["slices.overlaps[bursary/api.Row]"], unfollowed := true, recurses := true, apart := false, narrowed := true }
def RowChangesUptoSaid : Prop := rowChangesUptoRow.holds Try.pinned (OpenSpec.upto rowChangesSpec)

/-- 'bursarylaw05.RowBack', WHERE WHAT IT READS IS OF BULK AT MOST 1048576: true; the input reads as it did. -/
def rowBackUptoRow : OpenClaim := { program := "ytcnkelpnoahapaa", sum := "06ba688b562647179568a8c8ecb661510a31af58ad11f945af9d3e828f86c785", func := "bursary/bursarylaw05.RowBack", spec := "rowBack", inPlace := ["slices.overlaps[bursary/api.Row]"], unfollowed := true, recurses := true, apart := false, narrowed := true }
def RowBackUptoSaid : Prop := rowBackUptoRow.holds Try.pinned (OpenSpec.upto rowBackSpec)

/-- 'bursarylaw05.RowOrder', WHERE WHAT IT READS IS OF BULK AT MOST 1048576: true; the input reads as it did. -/
def rowOrderUptoRow : OpenClaim := { program := "ytcnkelpnoahapaa", sum := "06ba688b562647179568a8c8ecb661510a31af58ad11f945af9d3e828f86c785", func := "bursary/bursarylaw05.RowOrder", spec := "rowOrder", inPlace := ["slices.overlaps[bursary/api.Row]"], unfollowed := true, recurses := true, apart := false, narrowed := true }
def RowOrderUptoSaid : Prop := rowOrderUptoRow.holds Try.pinned (OpenSpec.upto rowOrderSpec)

/-- 'bursarylaw05.RowTables', WHERE WHAT IT READS IS OF BULK AT MOST 1048576: true; the input reads as it did. -/
def rowTablesUptoRow : OpenClaim := { program := "ytcnkelpnoahapaa", sum := "06ba688b562647179568a8c8ecb661510a31af58ad11f945af9d3e828f86c785", func := "bursary/bursarylaw05.RowTables", spec := "rowTables", inPlace := ["slices.overlaps[bursary/api.Row]"], unfollowed := true, recurses := true, apart := false, narrowed := true }
def RowTablesUptoSaid : Prop := rowTablesUptoRow.holds Try.pinned (OpenSpec.upto rowTablesSpec)

end Rows
end Go.Proofs.Ytcnkelpnoahapaa
