/-
  NARROWER THAN 'FOR EVERY INPUT', by the rows' own cells (each row's printed sentence says how): LocksDoes: laid · LocksTells: laid · LocksMost: laid · LocksSafe: laid · LocksServes: laid · LocksAlone: laid.
  DERIVED. THE GIVEN ROWS OF THIS SEAT. 6 by the template 'for every input the law returns true; each argument reads behind the call as it read before'; 0 by the template 'total and deterministic' (their statements: YtbgpppbcffpdbaaGreatDoorTotals.lean).
  GIVEN WITH THE SEED: the statements are not yours to turn. If you find one false, say at which input.
  Laid BY PROGRAM, IN A SANDBOX (cutbox-rows.mjs): the forced cells as the released guide's own fill.sh prints them over the translation 9e2415f2fc013f2f… (all of the seat's roots in one cut). By AI agents, Wed Nov 11 2026. No macro, syntax, notation, axiom, sorry.
-/
import Derived.Test.YtbgpppbcffpdbaaGreatDoorChecked
import GoSem.Claim
import GoSem.ClaimJoined
import GoSem.ClaimMapViews
import Derived.JoinedTies
import Derived.KernelRfl
namespace Go.Proofs.YtbgpppbcffpdbaaGreatDoor
/- THE CELL 'sum', in the pinned program and in every row, IS THE sha256 OF THE DUMP (.gsa) THAT YtbgpppbcffpdbaaGreatDoorProg.lean LOADS. Nothing in Lean hashes anything: it is a label: what it is worth is what the hold of that sum in a sandbox is worth. -/
noncomputable def Tryz.pinned : Pinned := { name := "ytbgpppbcffpdbaagreatdoor", sum := "9e2415f2fc013f2f9f8865806ceba0dea5f281a2a10a016040ded09b306e6e82", checked := Tryz.checked }
namespace Rows
def none {H : Type} : Left H := { results := [], args := [] }

/- WHAT THE LISTED PACKAGE-LEVEL VARIABLES READ AS WHEN THE CALL BEGINS. Each datum BY PROGRAM (the guide's laid-datum.mjs) off the statement by which the dump's own 'gosem.cut.vars' lays the variable. In a bare row this is a premise. The card (YtbgpppbcffpdbaaGreatDoorCards.lean) ties it to the program's text. -/
def laid_bursary_mode_goes {H : Type} : DataW H := .agg [.lit (.int .u8 127), .lit (.int .u8 31), .lit (.int .u8 7), .lit (.int .u8 11), .lit (.int .u8 3), .lit (.int .u8 1), .lit (.int .u8 65)]
def laid_bursary_mode_covers {H : Type} : DataW H := .agg [.lit (.int .u8 1), .lit (.int .u8 3), .lit (.int .u8 7), .lit (.int .u8 11), .lit (.int .u8 31), .lit (.int .u8 127), .lit (.int .u8 65)]

/-- 'bursarylaw08.LocksDoes': WHATEVER THE INPUT: true; the input reads as it did. -/
def locksDoesSpec : ChangeSpec := { name := "locksDoes", fn := fun _ => fun
  | [d1, d2] => { results := [.lit (.bool true)], args := [d1, d2] }
  | _ => none }
def locksDoesRow : OpenClaim := { program := "ytbgpppbcffpdbaagreatdoor", sum := "9e2415f2fc013f2f9f8865806ceba0dea5f281a2a10a016040ded09b306e6e82", func := "bursary/bursarylaw08.LocksDoes", spec := "locksDoes", inPlace := ["slices.overlaps[bursary/api.Hold]", "slices.overlaps[bursary/api.Queue]", "slices.overlaps[bursary/api.Wait]"], unfollowed := true, recurses := true, named := ["bursary/mode.goes", "bursary/mode.covers"], apart := false, laid := [("bursary/mode.goes", laid_bursary_mode_goes), ("bursary/mode.covers", laid_bursary_mode_covers)] }
def LocksDoesSaid : Prop := locksDoesRow.holds Tryz.pinned (OpenSpec.ofChange locksDoesSpec)

/-- ITS FALSE NEIGHBOUR: 'it returns false'. Refute it at one input. -/
def locksDoesWrong : ChangeSpec := { name := "locksDoes", fn := fun _ => fun
  | [d1, d2] => { results := [.lit (.bool false)], args := [d1, d2] }
  | _ => none }
def LocksDoesWrongFalsely : Prop := locksDoesRow.holds Tryz.pinned (OpenSpec.ofChange locksDoesWrong)

/-- 'bursarylaw08.LocksTells': WHATEVER THE INPUT: true; the input reads as it did. -/
def locksTellsSpec : ChangeSpec := { name := "locksTells", fn := fun _ => fun
  | [d1, d2, d3] => { results := [.lit (.bool true)], args := [d1, d2, d3] }
  | _ => none }
def locksTellsRow : OpenClaim := { program := "ytbgpppbcffpdbaagreatdoor", sum := "9e2415f2fc013f2f9f8865806ceba0dea5f281a2a10a016040ded09b306e6e82", func := "bursary/bursarylaw08.LocksTells", spec := "locksTells", inPlace := ["slices.overlaps[bursary/api.Hold]", "slices.overlaps[bursary/api.Queue]", "slices.overlaps[bursary/api.Wait]"], unfollowed := true, recurses := true, named := ["bursary/mode.goes", "bursary/mode.covers"], apart := false, laid := [("bursary/mode.goes", laid_bursary_mode_goes), ("bursary/mode.covers", laid_bursary_mode_covers)] }
def LocksTellsSaid : Prop := locksTellsRow.holds Tryz.pinned (OpenSpec.ofChange locksTellsSpec)

/-- ITS FALSE NEIGHBOUR: 'it returns false'. Refute it at one input. -/
def locksTellsWrong : ChangeSpec := { name := "locksTells", fn := fun _ => fun
  | [d1, d2, d3] => { results := [.lit (.bool false)], args := [d1, d2, d3] }
  | _ => none }
def LocksTellsWrongFalsely : Prop := locksTellsRow.holds Tryz.pinned (OpenSpec.ofChange locksTellsWrong)

/-- 'bursarylaw08.LocksMost': WHATEVER THE INPUT: true; the input reads as it did. -/
def locksMostSpec : ChangeSpec := { name := "locksMost", fn := fun _ => fun
  | [d1, d2] => { results := [.lit (.bool true)], args := [d1, d2] }
  | _ => none }
def locksMostRow : OpenClaim := { program := "ytbgpppbcffpdbaagreatdoor", sum := "9e2415f2fc013f2f9f8865806ceba0dea5f281a2a10a016040ded09b306e6e82", func := "bursary/bursarylaw08.LocksMost", spec := "locksMost", inPlace := ["slices.overlaps[bursary/api.Hold]", "slices.overlaps[bursary/api.Queue]", "slices.overlaps[bursary/api.Wait]"], unfollowed := true, recurses := true, named := ["bursary/mode.goes", "bursary/mode.covers"], apart := false, laid := [("bursary/mode.goes", laid_bursary_mode_goes), ("bursary/mode.covers", laid_bursary_mode_covers)] }
def LocksMostSaid : Prop := locksMostRow.holds Tryz.pinned (OpenSpec.ofChange locksMostSpec)

/-- ITS FALSE NEIGHBOUR: 'it returns false'. Refute it at one input. -/
def locksMostWrong : ChangeSpec := { name := "locksMost", fn := fun _ => fun
  | [d1, d2] => { results := [.lit (.bool false)], args := [d1, d2] }
  | _ => none }
def LocksMostWrongFalsely : Prop := locksMostRow.holds Tryz.pinned (OpenSpec.ofChange locksMostWrong)

/-- 'bursarylaw08.LocksSafe': WHATEVER THE INPUT: true; the input reads as it did. -/
def locksSafeSpec : ChangeSpec := { name := "locksSafe", fn := fun _ => fun
  | [d] => { results := [.lit (.bool true)], args := [d] }
  | _ => none }
def locksSafeRow : OpenClaim := { program := "ytbgpppbcffpdbaagreatdoor", sum := "9e2415f2fc013f2f9f8865806ceba0dea5f281a2a10a016040ded09b306e6e82", func := "bursary/bursarylaw08.LocksSafe", spec := "locksSafe", inPlace := ["slices.overlaps[bursary/api.Hold]", "slices.overlaps[bursary/api.Queue]", "slices.overlaps[bursary/api.Wait]"], unfollowed := true, recurses := true, named := ["bursary/mode.goes", "bursary/mode.covers"], apart := false, laid := [("bursary/mode.goes", laid_bursary_mode_goes), ("bursary/mode.covers", laid_bursary_mode_covers)] }
def LocksSafeSaid : Prop := locksSafeRow.holds Tryz.pinned (OpenSpec.ofChange locksSafeSpec)

/-- ITS FALSE NEIGHBOUR: 'it returns false'. Refute it at one input. -/
def locksSafeWrong : ChangeSpec := { name := "locksSafe", fn := fun _ => fun
  | [d] => { results := [.lit (.bool false)], args := [d] }
  | _ => none }
def LocksSafeWrongFalsely : Prop := locksSafeRow.holds Tryz.pinned (OpenSpec.ofChange locksSafeWrong)

/-- 'bursarylaw08.LocksServes': WHATEVER THE INPUT: true; the input reads as it did. -/
def locksServesSpec : ChangeSpec := { name := "locksServes", fn := fun _ => fun
  | [d1, d2] => { results := [.lit (.bool true)], args := [d1, d2] }
  | _ => none }
def locksServesRow : OpenClaim := { program := "ytbgpppbcffpdbaagreatdoor", sum := "9e2415f2fc013f2f9f8865806ceba0dea5f281a2a10a016040ded09b306e6e82", func := "bursary/bursarylaw08.LocksServes", spec := "locksServes", inPlace := ["slices.overlaps[bursary/api.Hold]", "slices.overlaps[bursary/api.Queue]", "slices.overlaps[bursary/api.Wait]"], unfollowed := true, recurses := true, named := ["bursary/mode.goes", "bursary/mode.covers"], apart := false, laid := [("bursary/mode.goes", laid_bursary_mode_goes), ("bursary/mode.covers", laid_bursary_mode_covers)] }
def LocksServesSaid : Prop := locksServesRow.holds Tryz.pinned (OpenSpec.ofChange locksServesSpec)

/-- ITS FALSE NEIGHBOUR: 'it returns false'. Refute it at one input. -/
def locksServesWrong : ChangeSpec := { name := "locksServes", fn := fun _ => fun
  | [d1, d2] => { results := [.lit (.bool false)], args := [d1, d2] }
  | _ => none }
def LocksServesWrongFalsely : Prop := locksServesRow.holds Tryz.pinned (OpenSpec.ofChange locksServesWrong)

/-- 'bursarylaw08.LocksAlone': WHATEVER THE INPUT: true; the input reads as it did. -/
def locksAloneSpec : ChangeSpec := { name := "locksAlone", fn := fun _ => fun
  | [d1, d2] => { results := [.lit (.bool true)], args := [d1, d2] }
  | _ => none }
def locksAloneRow : OpenClaim := { program := "ytbgpppbcffpdbaagreatdoor", sum := "9e2415f2fc013f2f9f8865806ceba0dea5f281a2a10a016040ded09b306e6e82", func := "bursary/bursarylaw08.LocksAlone", spec := "locksAlone", inPlace := ["slices.overlaps[bursary/api.Hold]", "slices.overlaps[bursary/api.Queue]", "slices.overlaps[bursary/api.Wait]"], unfollowed := true, recurses := true, named := ["bursary/mode.goes", "bursary/mode.covers"], apart := false, laid := [("bursary/mode.goes", laid_bursary_mode_goes), ("bursary/mode.covers", laid_bursary_mode_covers)] }
def LocksAloneSaid : Prop := locksAloneRow.holds Tryz.pinned (OpenSpec.ofChange locksAloneSpec)

/-- ITS FALSE NEIGHBOUR: 'it returns false'. Refute it at one input. -/
def locksAloneWrong : ChangeSpec := { name := "locksAlone", fn := fun _ => fun
  | [d1, d2] => { results := [.lit (.bool false)], args := [d1, d2] }
  | _ => none }
def LocksAloneWrongFalsely : Prop := locksAloneRow.holds Tryz.pinned (OpenSpec.ofChange locksAloneWrong)

/- THE SECOND FORM. 'bulk': how many values and letters a reading holds, each counted each time it is reached (what is shared counts as often as it is met; a slice's spare places count too). A statement '..UptoSaid' is the law's where the arguments, and the package variables that the reading takes, are together of bulk at most 1048576: NARROWER than '..Said'. Prove '..Said' where nothing that the law and all that it calls make is longer than what came in: it says more and counts as full. Else prove '..UptoSaid'. A law counts once. -/
mutual
def uptoBulk {H : Type} : DataW H → Nat
  | .lit (.string bytes) => bytes.length + 1
  | .lit _ => 1
  | .nil => 1
  | .ptr d => uptoBulk d + 1
  | .slice elems spare => uptoBulkAll elems + uptoBulkAll spare + 1
  | .agg parts => uptoBulkAll parts + 1
  | .iface _ d => uptoBulk d + 1
  | .map entries => uptoBulkEntries entries + 1
  | .held _ => 1
def uptoBulkAll {H : Type} : List (DataW H) → Nat
  | [] => 0
  | d :: r => uptoBulk d + uptoBulkAll r
def uptoBulkEntries {H : Type} : List (Lit × DataW H) → Nat
  | [] => 0
  | x :: r => uptoBulkEntry x + uptoBulkEntries r
def uptoBulkEntry {H : Type} : Lit × DataW H → Nat
  | (.string bytes, d) => bytes.length + uptoBulk d + 1
  | (_, d) => uptoBulk d + 1
 end
def uptoSmall : (H : Type) → List (DataW H) → Bool := fun _ ds => decide (uptoBulkAll ds ≤ 1048576)
def OpenSpec.upto (s : _root_.Go.ChangeSpec) : _root_.Go.OpenSpec := { _root_.Go.OpenSpec.ofChange s with cond := some uptoSmall }

/-- 'bursarylaw08.LocksDoes', WHERE WHAT IT READS IS OF BULK AT MOST 1048576: true; the input reads as it did. -/
def locksDoesUptoRow : OpenClaim := { program := "ytbgpppbcffpdbaagreatdoor", sum := "9e2415f2fc013f2f9f8865806ceba0dea5f281a2a10a016040ded09b306e6e82", func := "bursary/bursarylaw08.LocksDoes", spec := "locksDoes", inPlace := ["slices.overlaps[bursary/api.Hold]", "slices.overlaps[bursary/api.Queue]", "slices.overlaps[bursary/api.Wait]"], unfollowed := true, recurses := true, named := ["bursary/mode.goes", "bursary/mode.covers"], apart := false, laid := [("bursary/mode.goes", laid_bursary_mode_goes), ("bursary/mode.covers", laid_bursary_mode_covers)], narrowed := true }
def LocksDoesUptoSaid : Prop := locksDoesUptoRow.holds Tryz.pinned (OpenSpec.upto locksDoesSpec)

/-- 'bursarylaw08.LocksTells', WHERE WHAT IT READS IS OF BULK AT MOST 1048576: true; the input reads as it did. -/
def locksTellsUptoRow : OpenClaim := { program := "ytbgpppbcffpdbaagreatdoor", sum := "9e2415f2fc013f2f9f8865806ceba0dea5f281a2a10a016040ded09b306e6e82", func := "bursary/bursarylaw08.LocksTells", spec := "locksTells", inPlace := ["slices.overlaps[bursary/api.Hold]", "slices.overlaps[bursary/api.Queue]", "slices.overlaps[bursary/api.Wait]"], unfollowed := true, recurses := true, named := ["bursary/mode.goes", "bursary/mode.covers"], apart := false, laid := [("bursary/mode.goes", laid_bursary_mode_goes), ("bursary/mode.covers", laid_bursary_mode_covers)], narrowed := true }
def LocksTellsUptoSaid : Prop := locksTellsUptoRow.holds Tryz.pinned (OpenSpec.upto locksTellsSpec)

/-- 'bursarylaw08.LocksMost', WHERE WHAT IT READS IS OF BULK AT MOST 1048576: true; the input reads as it did. -/
def locksMostUptoRow : OpenClaim := { program := "ytbgpppbcffpdbaagreatdoor", sum := "9e2415f2fc013f2f9f8865806ceba0dea5f281a2a10a016040ded09b306e6e82", func := "bursary/bursarylaw08.LocksMost", spec := "locksMost", inPlace := ["slices.overlaps[bursary/api.Hold]", "slices.overlaps[bursary/api.Queue]", "slices.overlaps[bursary/api.Wait]"], unfollowed := true, recurses := true, named := ["bursary/mode.goes", "bursary/mode.covers"], apart := false, laid := [("bursary/mode.goes", laid_bursary_mode_goes), ("bursary/mode.covers", laid_bursary_mode_covers)], narrowed := true }
def LocksMostUptoSaid : Prop := locksMostUptoRow.holds Tryz.pinned (OpenSpec.upto locksMostSpec)

/-- 'bursarylaw08.LocksSafe', WHERE WHAT IT READS IS OF BULK AT MOST 1048576: true; the input reads as it did. -/
def locksSafeUptoRow : OpenClaim := { program := "ytbgpppbcffpdbaagreatdoor", sum := "9e2415f2fc013f2f9f8865806ceba0dea5f281a2a10a016040ded09b306e6e82", func := "bursary/bursarylaw08.LocksSafe", spec := "locksSafe", inPlace := ["slices.overlaps[bursary/api.Hold]", "slices.overlaps[bursary/api.Queue]", "slices.overlaps[bursary/api.Wait]"], unfollowed := true, recurses := true, named := ["bursary/mode.goes", "bursary/mode.covers"], apart := false, laid := [("bursary/mode.goes", laid_bursary_mode_goes), ("bursary/mode.covers", laid_bursary_mode_covers)], narrowed := true }
def LocksSafeUptoSaid : Prop := locksSafeUptoRow.holds Tryz.pinned (OpenSpec.upto locksSafeSpec)

/-- 'bursarylaw08.LocksServes', WHERE WHAT IT READS IS OF BULK AT MOST 1048576: true; the input reads as it did. -/
def locksServesUptoRow : OpenClaim := { program := "ytbgpppbcffpdbaagreatdoor", sum := "9e2415f2fc013f2f9f8865806ceba0dea5f281a2a10a016040ded09b306e6e82", func := "bursary/bursarylaw08.LocksServes", spec := "locksServes", inPlace := ["slices.overlaps[bursary/api.Hold]", "slices.overlaps[bursary/api.Queue]", "slices.overlaps[bursary/api.Wait]"], unfollowed := true, recurses := true, named := ["bursary/mode.goes", "bursary/mode.covers"], apart := false, laid := [("bursary/mode.goes", laid_bursary_mode_goes), ("bursary/mode.covers", laid_bursary_mode_covers)], narrowed := true }
def LocksServesUptoSaid : Prop := locksServesUptoRow.holds Tryz.pinned (OpenSpec.upto locksServesSpec)

/-- 'bursarylaw08.LocksAlone', WHERE WHAT IT READS IS OF BULK AT MOST 1048576: true; the input reads as it did. -/
def locksAloneUptoRow : OpenClaim := { program := "ytbgpppbcffpdbaagreatdoor", sum := "9e2415f2fc013f2f9f8865806ceba0dea5f281a2a10a016040ded09b306e6e82", func := "bursary/bursarylaw08.LocksAlone", spec := "locksAlone", inPlace := ["slices.overlaps[bursary/api.Hold]", "slices.overlaps[bursary/api.Queue]", "slices.overlaps[bursary/api.Wait]"], unfollowed := true, recurses := true, named := ["bursary/mode.goes", "bursary/mode.covers"], apart := false, laid := [("bursary/mode.goes", laid_bursary_mode_goes), ("bursary/mode.covers", laid_bursary_mode_covers)], narrowed := true }
def LocksAloneUptoSaid : Prop := locksAloneUptoRow.holds Tryz.pinned (OpenSpec.upto locksAloneSpec)

end Rows
end Go.Proofs.YtbgpppbcffpdbaaGreatDoor
