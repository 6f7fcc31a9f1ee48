/-
  No cell of these rows narrows 'for every input' (looked for: loops, veiled, ifaces, maps, wideKeys, modest, calm, conditions, laid).
  DERIVED. THE GIVEN ROWS OF THIS SEAT. 6 by the template 'for every input the law returns true; each argument reads behind the call as it read before'; 0 by the template 'total and deterministic' (their statements: YtnjandmlhncapaaTotals.lean).
  GIVEN WITH THE SEED: the statements are not yours to turn. If you find one false, say at which input.
  Laid BY PROGRAM, IN A SANDBOX (cutbox-rows.mjs): the forced cells as the released guide's own fill.sh prints them over the translation 1d447ba04b2ccc82… (all of the seat's roots in one cut). By AI agents, Wed Nov 11 2026. No macro, syntax, notation, axiom, sorry.
-/
import Derived.Test.YtnjandmlhncapaaChecked
import GoSem.Claim
import GoSem.ClaimJoined
import GoSem.ClaimMapViews
import Derived.JoinedTies
import Derived.KernelRfl
namespace Go.Proofs.Ytnjandmlhncapaa
/- THE CELL 'sum', in the pinned program and in every row, IS THE sha256 OF THE DUMP (.gsa) THAT YtnjandmlhncapaaProg.lean LOADS. Nothing in Lean hashes anything: it is a label: what it is worth is what the hold of that sum in a sandbox is worth. -/
noncomputable def Try.pinned : Pinned := { name := "ytnjandmlhncapaa", sum := "1d447ba04b2ccc82d4a1ab37ba548943c251bae9212dc4ae6dbf1334b2620f02", checked := Try.checked }
namespace Rows
def none {H : Type} : Left H := { results := [], args := [] }

/-- 'bursarylaw02.DiskForks': WHATEVER THE INPUT: true; the input reads as it did. -/
def diskForksSpec : ChangeSpec := { name := "diskForks", fn := fun _ => fun
  | [d1, d2, d3] => { results := [.lit (.bool true)], args := [d1, d2, d3] }
  | _ => none }
def diskForksRow : OpenClaim := { program := "ytnjandmlhncapaa", sum := "1d447ba04b2ccc82d4a1ab37ba548943c251bae9212dc4ae6dbf1334b2620f02", func := "bursary/bursarylaw02.DiskForks", spec := "diskForks", inPlace := ["maps.clone"], unfollowed := true, recurses := true, apart := false }
def DiskForksSaid : Prop := diskForksRow.holds Try.pinned (OpenSpec.ofChange diskForksSpec)

/-- ITS FALSE NEIGHBOUR: 'it returns false'. Refute it at one input. -/
def diskForksWrong : ChangeSpec := { name := "diskForks", fn := fun _ => fun
  | [d1, d2, d3] => { results := [.lit (.bool false)], args := [d1, d2, d3] }
  | _ => none }
def DiskForksWrongFalsely : Prop := diskForksRow.holds Try.pinned (OpenSpec.ofChange diskForksWrong)

/-- 'bursarylaw02.DiskNils': WHATEVER THE INPUT: true; the input reads as it did. -/
def diskNilsSpec : ChangeSpec := { name := "diskNils", fn := fun _ => fun
  | [d1, d2] => { results := [.lit (.bool true)], args := [d1, d2] }
  | _ => none }
def diskNilsRow : OpenClaim := { program := "ytnjandmlhncapaa", sum := "1d447ba04b2ccc82d4a1ab37ba548943c251bae9212dc4ae6dbf1334b2620f02", func := "bursary/bursarylaw02.DiskNils", spec := "diskNils", inPlace := ["maps.clone"], unfollowed := true, recurses := true, apart := false }
def DiskNilsSaid : Prop := diskNilsRow.holds Try.pinned (OpenSpec.ofChange diskNilsSpec)

/-- ITS FALSE NEIGHBOUR: 'it returns false'. Refute it at one input. -/
def diskNilsWrong : ChangeSpec := { name := "diskNils", fn := fun _ => fun
  | [d1, d2] => { results := [.lit (.bool false)], args := [d1, d2] }
  | _ => none }
def DiskNilsWrongFalsely : Prop := diskNilsRow.holds Try.pinned (OpenSpec.ofChange diskNilsWrong)

/-- 'bursarylaw02.DiskChoice': WHATEVER THE INPUT: true; the input reads as it did. -/
def diskChoiceSpec : ChangeSpec := { name := "diskChoice", fn := fun _ => fun
  | [d1, d2, d3] => { results := [.lit (.bool true)], args := [d1, d2, d3] }
  | _ => none }
def diskChoiceRow : OpenClaim := { program := "ytnjandmlhncapaa", sum := "1d447ba04b2ccc82d4a1ab37ba548943c251bae9212dc4ae6dbf1334b2620f02", func := "bursary/bursarylaw02.DiskChoice", spec := "diskChoice", inPlace := ["maps.clone"], unfollowed := true, recurses := true, apart := false }
def DiskChoiceSaid : Prop := diskChoiceRow.holds Try.pinned (OpenSpec.ofChange diskChoiceSpec)

/-- ITS FALSE NEIGHBOUR: 'it returns false'. Refute it at one input. -/
def diskChoiceWrong : ChangeSpec := { name := "diskChoice", fn := fun _ => fun
  | [d1, d2, d3] => { results := [.lit (.bool false)], args := [d1, d2, d3] }
  | _ => none }
def DiskChoiceWrongFalsely : Prop := diskChoiceRow.holds Try.pinned (OpenSpec.ofChange diskChoiceWrong)

/-- 'bursarylaw02.DiskSettles': WHATEVER THE INPUT: true; the input reads as it did. -/
def diskSettlesSpec : ChangeSpec := { name := "diskSettles", fn := fun _ => fun
  | [d1, d2, d3] => { results := [.lit (.bool true)], args := [d1, d2, d3] }
  | _ => none }
def diskSettlesRow : OpenClaim := { program := "ytnjandmlhncapaa", sum := "1d447ba04b2ccc82d4a1ab37ba548943c251bae9212dc4ae6dbf1334b2620f02", func := "bursary/bursarylaw02.DiskSettles", spec := "diskSettles", inPlace := ["maps.clone"], unfollowed := true, recurses := true, apart := false }
def DiskSettlesSaid : Prop := diskSettlesRow.holds Try.pinned (OpenSpec.ofChange diskSettlesSpec)

/-- ITS FALSE NEIGHBOUR: 'it returns false'. Refute it at one input. -/
def diskSettlesWrong : ChangeSpec := { name := "diskSettles", fn := fun _ => fun
  | [d1, d2, d3] => { results := [.lit (.bool false)], args := [d1, d2, d3] }
  | _ => none }
def DiskSettlesWrongFalsely : Prop := diskSettlesRow.holds Try.pinned (OpenSpec.ofChange diskSettlesWrong)

/-- 'bursarylaw02.DiskHides': WHATEVER THE INPUT: true; the input reads as it did. -/
def diskHidesSpec : ChangeSpec := { name := "diskHides", fn := fun _ => fun
  | [d1, d2, d3] => { results := [.lit (.bool true)], args := [d1, d2, d3] }
  | _ => none }
def diskHidesRow : OpenClaim := { program := "ytnjandmlhncapaa", sum := "1d447ba04b2ccc82d4a1ab37ba548943c251bae9212dc4ae6dbf1334b2620f02", func := "bursary/bursarylaw02.DiskHides", spec := "diskHides", unfollowed := true, recurses := true, apart := false }
def DiskHidesSaid : Prop := diskHidesRow.holds Try.pinned (OpenSpec.ofChange diskHidesSpec)

/-- ITS FALSE NEIGHBOUR: 'it returns false'. Refute it at one input. -/
def diskHidesWrong : ChangeSpec := { name := "diskHides", fn := fun _ => fun
  | [d1, d2, d3] => { results := [.lit (.bool false)], args := [d1, d2, d3] }
  | _ => none }
def DiskHidesWrongFalsely : Prop := diskHidesRow.holds Try.pinned (OpenSpec.ofChange diskHidesWrong)

/-- 'bursarylaw02.DiskStops': WHATEVER THE INPUT: true; the input reads as it did. -/
def diskStopsSpec : ChangeSpec := { name := "diskStops", fn := fun _ => fun
  | [d1, d2, d3] => { results := [.lit (.bool true)], args := [d1, d2, d3] }
  | _ => none }
def diskStopsRow : OpenClaim := { program := "ytnjandmlhncapaa", sum := "1d447ba04b2ccc82d4a1ab37ba548943c251bae9212dc4ae6dbf1334b2620f02", func := "bursary/bursarylaw02.DiskStops", spec := "diskStops", unfollowed := true, recurses := true, apart := false }
def DiskStopsSaid : Prop := diskStopsRow.holds Try.pinned (OpenSpec.ofChange diskStopsSpec)

/-- ITS FALSE NEIGHBOUR: 'it returns false'. Refute it at one input. -/
def diskStopsWrong : ChangeSpec := { name := "diskStops", fn := fun _ => fun
  | [d1, d2, d3] => { results := [.lit (.bool false)], args := [d1, d2, d3] }
  | _ => none }
def DiskStopsWrongFalsely : Prop := diskStopsRow.holds Try.pinned (OpenSpec.ofChange diskStopsWrong)

/- THE SECOND FORM. 'bulk': how many values and letters a reading holds, each counted each time it is reached (what is shared counts as often as it is met; a slice's spare places count too). A statement '..UptoSaid' is the law's where the arguments, and the package variables that the reading takes, are together of bulk at most 1048576: NARROWER than '..Said'. Prove '..Said' where nothing that the law and all that it calls make is longer than what came in: it says more and counts as full. Else prove '..UptoSaid'. A law counts once. -/
mutual
def uptoBulk {H : Type} : DataW H → Nat
  | .lit (.string bytes) => bytes.length + 1
  | .lit _ => 1
  | .nil => 1
  | .ptr d => uptoBulk d + 1
  | .slice elems spare => uptoBulkAll elems + uptoBulkAll spare + 1
  | .agg parts => uptoBulkAll parts + 1
  | .iface _ d => uptoBulk d + 1
  | .map entries => uptoBulkEntries entries + 1
  | .held _ => 1
def uptoBulkAll {H : Type} : List (DataW H) → Nat
  | [] => 0
  | d :: r => uptoBulk d + uptoBulkAll r
def uptoBulkEntries {H : Type} : List (Lit × DataW H) → Nat
  | [] => 0
  | x :: r => uptoBulkEntry x + uptoBulkEntries r
def uptoBulkEntry {H : Type} : Lit × DataW H → Nat
  | (.string bytes, d) => bytes.length + uptoBulk d + 1
  | (_, d) => uptoBulk d + 1
 end
def uptoSmall : (H : Type) → List (DataW H) → Bool := fun _ ds => decide (uptoBulkAll ds ≤ 1048576)
def OpenSpec.upto (s : _root_.Go.ChangeSpec) : _root_.Go.OpenSpec := { _root_.Go.OpenSpec.ofChange s with cond := some uptoSmall }

/-- 'bursarylaw02.DiskForks', WHERE WHAT IT READS IS OF BULK AT MOST 1048576: true; the input reads as it did. -/
def diskForksUptoRow : OpenClaim := { program := "ytnjandmlhncapaa", sum := "1d447ba04b2ccc82d4a1ab37ba548943c251bae9212dc4ae6dbf1334b2620f02", func := "bursary/bursarylaw02.DiskForks", spec := "diskForks", inPlace := ["maps.clone"], unfollowed := true, recurses := true, apart := false, narrowed := true }
def DiskForksUptoSaid : Prop := diskForksUptoRow.holds Try.pinned (OpenSpec.upto diskForksSpec)

/-- 'bursarylaw02.DiskNils', WHERE WHAT IT READS IS OF BULK AT MOST 1048576: true; the input reads as it did. -/
def diskNilsUptoRow : OpenClaim := { program := "ytnjandmlhncapaa", sum := "1d447ba04b2ccc82d4a1ab37ba548943c251bae9212dc4ae6dbf1334b2620f02", func := "bursary/bursarylaw02.DiskNils", spec := "diskNils", inPlace := ["maps.clone"], unfollowed := true, recurses := true, apart := false, narrowed := true }
def DiskNilsUptoSaid : Prop := diskNilsUptoRow.holds Try.pinned (OpenSpec.upto diskNilsSpec)

/-- 'bursarylaw02.DiskChoice', WHERE WHAT IT READS IS OF BULK AT MOST 1048576: true; the input reads as it did. -/
def diskChoiceUptoRow : OpenClaim := { program := "ytnjandmlhncapaa", sum := "1d447ba04b2ccc82d4a1ab37ba548943c251bae9212dc4ae6dbf1334b2620f02", func := "bursary/bursarylaw02.DiskChoice", spec := "diskChoice", inPlace := ["maps.clone"], unfollowed := true, recurses := true, apart := false, narrowed := true }
def DiskChoiceUptoSaid : Prop := diskChoiceUptoRow.holds Try.pinned (OpenSpec.upto diskChoiceSpec)

/-- 'bursarylaw02.DiskSettles', WHERE WHAT IT READS IS OF BULK AT MOST 1048576: true; the input reads as it did. -/
def diskSettlesUptoRow : OpenClaim := { program := "ytnjandmlhncapaa", sum := "1d447ba04b2ccc82d4a1ab37ba548943c251bae9212dc4ae6dbf1334b2620f02", func := "bursary/bursarylaw02.DiskSettles", spec := "diskSettles", inPlace := ["maps.clone"], unfollowed := true, recurses := true, apart := false, narrowed := true }
def DiskSettlesUptoSaid : Prop := diskSettlesUptoRow.holds Try.pinned (OpenSpec.upto diskSettlesSpec)

/-- 'bursarylaw02.DiskHides', WHERE WHAT IT READS IS OF BULK AT MOST 1048576: true; the input reads as it did. -/
def diskHidesUptoRow : OpenClaim := { program := "ytnjandmlhncapaa", sum := "1d447ba04b2ccc82d4a1ab37ba548943c251bae9212dc4ae6dbf1334b2620f02", func := "bursary/bursarylaw02.DiskHides", spec := "diskHides", unfollowed := true, recurses := true, apart := false, narrowed := true }
def DiskHidesUptoSaid : Prop := diskHidesUptoRow.holds Try.pinned (OpenSpec.upto diskHidesSpec)

/-- 'bursarylaw02.DiskStops', WHERE WHAT IT READS IS OF BULK AT MOST 1048576: true; the input reads as it did. -/
def diskStopsUptoRow : OpenClaim := { program := "ytnjandmlhncapaa", sum := "1d447ba04b2ccc82d4a1ab37ba548943c251bae9212dc4ae6dbf1334b2620f02", func := "bursary/bursarylaw02.DiskStops", spec := "diskStops", unfollowed := true, recurses := true, apart := false, narrowed := true }
def DiskStopsUptoSaid : Prop := diskStopsUptoRow.holds Try.pinned (OpenSpec.upto diskStopsSpec)

end Rows
end Go.Proofs.Ytnjandmlhncapaa
