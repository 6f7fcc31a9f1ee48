/-
  No cell of these rows narrows 'for every input' (looked for: loops, veiled, ifaces, maps, wideKeys, modest, calm, conditions, laid).
  DERIVED. THE GIVEN ROWS OF THIS SEAT. 7 by the template 'for every input the law returns true; each argument reads behind the call as it read before'; 0 by the template 'total and deterministic' (their statements: YtocekhckmpkbmaaGreatTotals.lean).
  GIVEN WITH THE SEED: the statements are not yours to turn. If you find one false, say at which input.
  Laid BY PROGRAM, IN A SANDBOX (cutbox-rows.mjs): the forced cells as the released guide's own fill.sh prints them over the translation f7c39ddcaa5528b9… (all of the seat's roots in one cut). By AI agents, Wed Nov 11 2026. No macro, syntax, notation, axiom, sorry.
-/
import Derived.Test.YtocekhckmpkbmaaGreatChecked
import GoSem.Claim
import GoSem.ClaimJoined
import GoSem.ClaimMapViews
import Derived.JoinedTies
import Derived.KernelRfl
namespace Go.Proofs.YtocekhckmpkbmaaGreat
/- THE CELL 'sum', in the pinned program and in every row, IS THE sha256 OF THE DUMP (.gsa) THAT YtocekhckmpkbmaaGreatProg.lean LOADS. Nothing in Lean hashes anything: it is a label: what it is worth is what the hold of that sum in a sandbox is worth. -/
noncomputable def Tryz.pinned : Pinned := { name := "ytocekhckmpkbmaagreat", sum := "f7c39ddcaa5528b9f43f828a9690fc16765a071a17541bc4f007765a2f69de27", checked := Tryz.checked }
namespace Rows
def none {H : Type} : Left H := { results := [], args := [] }

/-- 'bursarylaw12.RecordLays': WHATEVER THE INPUT: true; the input reads as it did. -/
def recordLaysSpec : ChangeSpec := { name := "recordLays", fn := fun _ => fun
  | [d] => { results := [.lit (.bool true)], args := [d] }
  | _ => none }
def recordLaysRow : OpenClaim := { program := "ytocekhckmpkbmaagreat", sum := "f7c39ddcaa5528b9f43f828a9690fc16765a071a17541bc4f007765a2f69de27", func := "bursary/bursarylaw12.RecordLays", spec := "recordLays", unfollowed := true, recurses := true, apart := false }
def RecordLaysSaid : Prop := recordLaysRow.holds Tryz.pinned (OpenSpec.ofChange recordLaysSpec)

/-- ITS FALSE NEIGHBOUR: 'it returns false'. Refute it at one input. -/
def recordLaysWrong : ChangeSpec := { name := "recordLays", fn := fun _ => fun
  | [d] => { results := [.lit (.bool false)], args := [d] }
  | _ => none }
def RecordLaysWrongFalsely : Prop := recordLaysRow.holds Tryz.pinned (OpenSpec.ofChange recordLaysWrong)

/-- 'bursarylaw12.RecordReads': WHATEVER THE INPUT: true; the input reads as it did. -/
def recordReadsSpec : ChangeSpec := { name := "recordReads", fn := fun _ => fun
  | [d] => { results := [.lit (.bool true)], args := [d] }
  | _ => none }
def recordReadsRow : OpenClaim := { program := "ytocekhckmpkbmaagreat", sum := "f7c39ddcaa5528b9f43f828a9690fc16765a071a17541bc4f007765a2f69de27", func := "bursary/bursarylaw12.RecordReads", spec := "recordReads", unfollowed := true, recurses := true, apart := false }
def RecordReadsSaid : Prop := recordReadsRow.holds Tryz.pinned (OpenSpec.ofChange recordReadsSpec)

/-- ITS FALSE NEIGHBOUR: 'it returns false'. Refute it at one input. -/
def recordReadsWrong : ChangeSpec := { name := "recordReads", fn := fun _ => fun
  | [d] => { results := [.lit (.bool false)], args := [d] }
  | _ => none }
def RecordReadsWrongFalsely : Prop := recordReadsRow.holds Tryz.pinned (OpenSpec.ofChange recordReadsWrong)

/-- 'bursarylaw12.RecordCosts': WHATEVER THE INPUT: true; the input reads as it did. -/
def recordCostsSpec : ChangeSpec := { name := "recordCosts", fn := fun _ => fun
  | [d] => { results := [.lit (.bool true)], args := [d] }
  | _ => none }
def recordCostsRow : OpenClaim := { program := "ytocekhckmpkbmaagreat", sum := "f7c39ddcaa5528b9f43f828a9690fc16765a071a17541bc4f007765a2f69de27", func := "bursary/bursarylaw12.RecordCosts", spec := "recordCosts", unfollowed := true, recurses := true, apart := false }
def RecordCostsSaid : Prop := recordCostsRow.holds Tryz.pinned (OpenSpec.ofChange recordCostsSpec)

/-- ITS FALSE NEIGHBOUR: 'it returns false'. Refute it at one input. -/
def recordCostsWrong : ChangeSpec := { name := "recordCosts", fn := fun _ => fun
  | [d] => { results := [.lit (.bool false)], args := [d] }
  | _ => none }
def RecordCostsWrongFalsely : Prop := recordCostsRow.holds Tryz.pinned (OpenSpec.ofChange recordCostsWrong)

/-- 'bursarylaw12.RecordRedoes': WHATEVER THE INPUT: true; the input reads as it did. -/
def recordRedoesSpec : ChangeSpec := { name := "recordRedoes", fn := fun _ => fun
  | [d1, d2] => { results := [.lit (.bool true)], args := [d1, d2] }
  | _ => none }
def recordRedoesRow : OpenClaim := { program := "ytocekhckmpkbmaagreat", sum := "f7c39ddcaa5528b9f43f828a9690fc16765a071a17541bc4f007765a2f69de27", func := "bursary/bursarylaw12.RecordRedoes", spec := "recordRedoes", unfollowed := true, recurses := true, apart := false }
def RecordRedoesSaid : Prop := recordRedoesRow.holds Tryz.pinned (OpenSpec.ofChange recordRedoesSpec)

/-- ITS FALSE NEIGHBOUR: 'it returns false'. Refute it at one input. -/
def recordRedoesWrong : ChangeSpec := { name := "recordRedoes", fn := fun _ => fun
  | [d1, d2] => { results := [.lit (.bool false)], args := [d1, d2] }
  | _ => none }
def RecordRedoesWrongFalsely : Prop := recordRedoesRow.holds Tryz.pinned (OpenSpec.ofChange recordRedoesWrong)

/-- 'bursarylaw12.RecordBack': WHATEVER THE INPUT: true; the input reads as it did. -/
def recordBackSpec : ChangeSpec := { name := "recordBack", fn := fun _ => fun
  | [d1, d2, d3] => { results := [.lit (.bool true)], args := [d1, d2, d3] }
  | _ => none }
def recordBackRow : OpenClaim := { program := "ytocekhckmpkbmaagreat", sum := "f7c39ddcaa5528b9f43f828a9690fc16765a071a17541bc4f007765a2f69de27", func := "bursary/bursarylaw12.RecordBack", spec := "recordBack", unfollowed := true, recurses := true, apart := false }
def RecordBackSaid : Prop := recordBackRow.holds Tryz.pinned (OpenSpec.ofChange recordBackSpec)

/-- ITS FALSE NEIGHBOUR: 'it returns false'. Refute it at one input. -/
def recordBackWrong : ChangeSpec := { name := "recordBack", fn := fun _ => fun
  | [d1, d2, d3] => { results := [.lit (.bool false)], args := [d1, d2, d3] }
  | _ => none }
def RecordBackWrongFalsely : Prop := recordBackRow.holds Tryz.pinned (OpenSpec.ofChange recordBackWrong)

/-- 'bursarylaw12.RecordUndone': WHATEVER THE INPUT: true; the input reads as it did. -/
def recordUndoneSpec : ChangeSpec := { name := "recordUndone", fn := fun _ => fun
  | [d1, d2] => { results := [.lit (.bool true)], args := [d1, d2] }
  | _ => none }
def recordUndoneRow : OpenClaim := { program := "ytocekhckmpkbmaagreat", sum := "f7c39ddcaa5528b9f43f828a9690fc16765a071a17541bc4f007765a2f69de27", func := "bursary/bursarylaw12.RecordUndone", spec := "recordUndone", unfollowed := true, recurses := true, apart := false }
def RecordUndoneSaid : Prop := recordUndoneRow.holds Tryz.pinned (OpenSpec.ofChange recordUndoneSpec)

/-- ITS FALSE NEIGHBOUR: 'it returns false'. Refute it at one input. -/
def recordUndoneWrong : ChangeSpec := { name := "recordUndone", fn := fun _ => fun
  | [d1, d2] => { results := [.lit (.bool false)], args := [d1, d2] }
  | _ => none }
def RecordUndoneWrongFalsely : Prop := recordUndoneRow.holds Tryz.pinned (OpenSpec.ofChange recordUndoneWrong)

/-- 'bursarylaw12.RecordWide': WHATEVER THE INPUT: true; the input reads as it did. -/
def recordWideSpec : ChangeSpec := { name := "recordWide", fn := fun _ => fun
  | [d1, d2] => { results := [.lit (.bool true)], args := [d1, d2] }
  | _ => none }
def recordWideRow : OpenClaim := { program := "ytocekhckmpkbmaagreat", sum := "f7c39ddcaa5528b9f43f828a9690fc16765a071a17541bc4f007765a2f69de27", func := "bursary/bursarylaw12.RecordWide", spec := "recordWide", unfollowed := true, recurses := true, apart := false }
def RecordWideSaid : Prop := recordWideRow.holds Tryz.pinned (OpenSpec.ofChange recordWideSpec)

/-- ITS FALSE NEIGHBOUR: 'it returns false'. Refute it at one input. -/
def recordWideWrong : ChangeSpec := { name := "recordWide", fn := fun _ => fun
  | [d1, d2] => { results := [.lit (.bool false)], args := [d1, d2] }
  | _ => none }
def RecordWideWrongFalsely : Prop := recordWideRow.holds Tryz.pinned (OpenSpec.ofChange recordWideWrong)

/- THE SECOND FORM. 'bulk': how many values and letters a reading holds, each counted each time it is reached (what is shared counts as often as it is met; a slice's spare places count too). A statement '..UptoSaid' is the law's where the arguments, and the package variables that the reading takes, are together of bulk at most 1048576: NARROWER than '..Said'. Prove '..Said' where nothing that the law and all that it calls make is longer than what came in: it says more and counts as full. Else prove '..UptoSaid'. A law counts once. -/
mutual
def uptoBulk {H : Type} : DataW H → Nat
  | .lit (.string bytes) => bytes.length + 1
  | .lit _ => 1
  | .nil => 1
  | .ptr d => uptoBulk d + 1
  | .slice elems spare => uptoBulkAll elems + uptoBulkAll spare + 1
  | .agg parts => uptoBulkAll parts + 1
  | .iface _ d => uptoBulk d + 1
  | .map entries => uptoBulkEntries entries + 1
  | .held _ => 1
def uptoBulkAll {H : Type} : List (DataW H) → Nat
  | [] => 0
  | d :: r => uptoBulk d + uptoBulkAll r
def uptoBulkEntries {H : Type} : List (Lit × DataW H) → Nat
  | [] => 0
  | x :: r => uptoBulkEntry x + uptoBulkEntries r
def uptoBulkEntry {H : Type} : Lit × DataW H → Nat
  | (.string bytes, d) => bytes.length + uptoBulk d + 1
  | (_, d) => uptoBulk d + 1
 end
def uptoSmall : (H : Type) → List (DataW H) → Bool := fun _ ds => decide (uptoBulkAll ds ≤ 1048576)
def OpenSpec.upto (s : _root_.Go.ChangeSpec) : _root_.Go.OpenSpec := { _root_.Go.OpenSpec.ofChange s with cond := some uptoSmall }

/-- 'bursarylaw12.RecordLays', WHERE WHAT IT READS IS OF BULK AT MOST 1048576: true; the input reads as it did. -/
def recordLaysUptoRow : OpenClaim := { program := "ytocekhckmpkbmaagreat", sum := "f7c39ddcaa5528b9f43f828a9690fc16765a071a17541bc4f007765a2f69de27", func := "bursary/bursarylaw12.RecordLays", spec := "recordLays", unfollowed := true, recurses := true, apart := false, narrowed := true }
def RecordLaysUptoSaid : Prop := recordLaysUptoRow.holds Tryz.pinned (OpenSpec.upto recordLaysSpec)

/-- 'bursarylaw12.RecordReads', WHERE WHAT IT READS IS OF BULK AT MOST 1048576: true; the input reads as it did. -/
def recordReadsUptoRow : OpenClaim := { program := "ytocekhckmpkbmaagreat", sum := "f7c39ddcaa5528b9f43f828a9690fc16765a071a17541bc4f007765a2f69de27", func := "bursary/bursarylaw12.RecordReads", spec := "recordReads", unfollowed := true, recurses := true, apart := false, narrowed := true }
def RecordReadsUptoSaid : Prop := recordReadsUptoRow.holds Tryz.pinned (OpenSpec.upto recordReadsSpec)

/-- 'bursarylaw12.RecordCosts', WHERE WHAT IT READS IS OF BULK AT MOST 1048576: true; the input reads as it did. -/
def recordCostsUptoRow : OpenClaim := { program := "ytocekhckmpkbmaagreat", sum := "f7c39ddcaa5528b9f43f828a9690fc16765a071a17541bc4f007765a2f69de27", func := "bursary/bursarylaw12.RecordCosts", spec := "recordCosts", unfollowed := true, recurses := true, apart := false, narrowed := true }
def RecordCostsUptoSaid : Prop := recordCostsUptoRow.holds Tryz.pinned (OpenSpec.upto recordCostsSpec)

/-- 'bursarylaw12.RecordRedoes', WHERE WHAT IT READS IS OF BULK AT MOST 1048576: true; the input reads as it did. -/
def recordRedoesUptoRow : OpenClaim := { program := "ytocekhckmpkbmaagreat", sum := "f7c39ddcaa5528b9f43f828a9690fc16765a071a17541bc4f007765a2f69de27", func := "bursary/bursarylaw12.RecordRedoes", spec := "recordRedoes", unfollowed := true, recurses := true, apart := false, narrowed := true }
def RecordRedoesUptoSaid : Prop := recordRedoesUptoRow.holds Tryz.pinned (OpenSpec.upto recordRedoesSpec)

/-- 'bursarylaw12.RecordBack', WHERE WHAT IT READS IS OF BULK AT MOST 1048576: true; the input reads as it did. -/
def recordBackUptoRow : OpenClaim := { program := "ytocekhckmpkbmaagreat", sum := "f7c39ddcaa5528b9f43f828a9690fc16765a071a17541bc4f007765a2f69de27", func := "bursary/bursarylaw12.RecordBack", spec := "recordBack", unfollowed := true, recurses := true, apart := false, narrowed := true }
def RecordBackUptoSaid : Prop := recordBackUptoRow.holds Tryz.pinned (OpenSpec.upto recordBackSpec)

/-- 'bursarylaw12.RecordUndone', WHERE WHAT IT READS IS OF BULK AT MOST 1048576: true; the input reads as it did. -/
def recordUndoneUptoRow : OpenClaim := { program := "ytocekhckmpkbmaagreat", sum := "f7c39ddcaa5528b9f43f828a9690fc16765a071a17541bc4f007765a2f69de27", func := "bursary/bursarylaw12.RecordUndone", spec := "recordUndone", unfollowed := true, recurses := true, apart := false, narrowed := true }
def RecordUndoneUptoSaid : Prop := recordUndoneUptoRow.holds Tryz.pinned (OpenSpec.upto recordUndoneSpec)

/-- 'bursarylaw12.RecordWide', WHERE WHAT IT READS IS OF BULK AT MOST 1048576: true; the input reads as it did. -/
def recordWideUptoRow : OpenClaim := { program := "ytocekhckmpkbmaagreat", sum := "f7c39ddcaa5528b9f43f828a9690fc16765a071a17541bc4f007765a2f69de27", func := "bursary/bursarylaw12.RecordWide", spec := "recordWide", unfollowed := true, recurses := true, apart := false, narrowed := true }
def RecordWideUptoSaid : Prop := recordWideUptoRow.holds Tryz.pinned (OpenSpec.upto recordWideSpec)

end Rows
end Go.Proofs.YtocekhckmpkbmaaGreat
