/-
  NARROWER THAN 'FOR EVERY INPUT', by the rows' own cells (each row's printed sentence says how): ModeTells: laid · ModePairs: laid · ModeSups: laid · ModeOrder: laid · ModeBack: laid.
  DERIVED. THE GIVEN ROWS OF THIS SEAT. 5 by the template 'for every input the law returns true; each argument reads behind the call as it read before'; 0 by the template 'total and deterministic' (their statements: YtfplmflbkhanoaaDoorTotals.lean).
  GIVEN WITH THE SEED: the statements are not yours to turn. If you find one false, say at which input.
  Laid BY PROGRAM, IN A SANDBOX (cutbox-rows.mjs): the forced cells as the released guide's own fill.sh prints them over the translation f08932c8240dfd7f… (all of the seat's roots in one cut). By AI agents, Wed Nov 11 2026. No macro, syntax, notation, axiom, sorry.
-/
import Derived.Test.YtfplmflbkhanoaaDoorChecked
import GoSem.Claim
import GoSem.ClaimJoined
import GoSem.ClaimMapViews
import Derived.JoinedTies
import Derived.KernelRfl
namespace Go.Proofs.YtfplmflbkhanoaaDoor
/- THE CELL 'sum', in the pinned program and in every row, IS THE sha256 OF THE DUMP (.gsa) THAT YtfplmflbkhanoaaDoorProg.lean LOADS. Nothing in Lean hashes anything: it is a label: what it is worth is what the hold of that sum in a sandbox is worth. -/
noncomputable def Tryd.pinned : Pinned := { name := "ytfplmflbkhanoaadoor", sum := "f08932c8240dfd7f6adb0412d0a22fe24b1e2c7e2f816616f76af517b1bd19d4", checked := Tryd.checked }
namespace Rows
def none {H : Type} : Left H := { results := [], args := [] }

/- WHAT THE LISTED PACKAGE-LEVEL VARIABLES READ AS WHEN THE CALL BEGINS. Each datum BY PROGRAM (the guide's laid-datum.mjs) off the statement by which the dump's own 'gosem.cut.vars' lays the variable. In a bare row this is a premise. The card (YtfplmflbkhanoaaDoorCards.lean) ties it to the program's text. -/
def laid_bursary_mode_goes {H : Type} : DataW H := .agg [.lit (.int .u8 127), .lit (.int .u8 31), .lit (.int .u8 7), .lit (.int .u8 11), .lit (.int .u8 3), .lit (.int .u8 1), .lit (.int .u8 65)]
def laid_bursary_mode_covers {H : Type} : DataW H := .agg [.lit (.int .u8 1), .lit (.int .u8 3), .lit (.int .u8 7), .lit (.int .u8 11), .lit (.int .u8 31), .lit (.int .u8 127), .lit (.int .u8 65)]
def laid_bursary_mode_texts {H : Type} : DataW H := .agg [.lit (.string [45]), .lit (.string [73, 83]), .lit (.string [73, 88]), .lit (.string [83]), .lit (.string [83, 73, 88]), .lit (.string [88]), .lit (.string [69])]

/-- 'bursarylaw07.ModeTells': WHATEVER THE INPUT: true; the input reads as it did. -/
def modeTellsSpec : ChangeSpec := { name := "modeTells", fn := fun _ => fun
  | [d1, d2] => { results := [.lit (.bool true)], args := [d1, d2] }
  | _ => none }
def modeTellsRow : OpenClaim := { program := "ytfplmflbkhanoaadoor", sum := "f08932c8240dfd7f6adb0412d0a22fe24b1e2c7e2f816616f76af517b1bd19d4", func := "bursary/bursarylaw07.ModeTells", spec := "modeTells", named := ["bursary/mode.covers", "bursary/mode.goes", "bursary/mode.texts"], apart := false, laid := [("bursary/mode.goes", laid_bursary_mode_goes), ("bursary/mode.covers", laid_bursary_mode_covers), ("bursary/mode.texts", laid_bursary_mode_texts)] }
def ModeTellsSaid : Prop := modeTellsRow.holds Tryd.pinned (OpenSpec.ofChange modeTellsSpec)

/-- ITS FALSE NEIGHBOUR: 'it returns false'. Refute it at one input. -/
def modeTellsWrong : ChangeSpec := { name := "modeTells", fn := fun _ => fun
  | [d1, d2] => { results := [.lit (.bool false)], args := [d1, d2] }
  | _ => none }
def ModeTellsWrongFalsely : Prop := modeTellsRow.holds Tryd.pinned (OpenSpec.ofChange modeTellsWrong)

/-- 'bursarylaw07.ModePairs': WHATEVER THE INPUT: true; the input reads as it did. -/
def modePairsSpec : ChangeSpec := { name := "modePairs", fn := fun _ => fun
  | [d1, d2] => { results := [.lit (.bool true)], args := [d1, d2] }
  | _ => none }
def modePairsRow : OpenClaim := { program := "ytfplmflbkhanoaadoor", sum := "f08932c8240dfd7f6adb0412d0a22fe24b1e2c7e2f816616f76af517b1bd19d4", func := "bursary/bursarylaw07.ModePairs", spec := "modePairs", named := ["bursary/mode.covers", "bursary/mode.goes"], apart := false, laid := [("bursary/mode.goes", laid_bursary_mode_goes), ("bursary/mode.covers", laid_bursary_mode_covers)] }
def ModePairsSaid : Prop := modePairsRow.holds Tryd.pinned (OpenSpec.ofChange modePairsSpec)

/-- ITS FALSE NEIGHBOUR: 'it returns false'. Refute it at one input. -/
def modePairsWrong : ChangeSpec := { name := "modePairs", fn := fun _ => fun
  | [d1, d2] => { results := [.lit (.bool false)], args := [d1, d2] }
  | _ => none }
def ModePairsWrongFalsely : Prop := modePairsRow.holds Tryd.pinned (OpenSpec.ofChange modePairsWrong)

/-- 'bursarylaw07.ModeSups': WHATEVER THE INPUT: true; the input reads as it did. -/
def modeSupsSpec : ChangeSpec := { name := "modeSups", fn := fun _ => fun
  | [d1, d2, d3] => { results := [.lit (.bool true)], args := [d1, d2, d3] }
  | _ => none }
def modeSupsRow : OpenClaim := { program := "ytfplmflbkhanoaadoor", sum := "f08932c8240dfd7f6adb0412d0a22fe24b1e2c7e2f816616f76af517b1bd19d4", func := "bursary/bursarylaw07.ModeSups", spec := "modeSups", named := ["bursary/mode.covers", "bursary/mode.goes"], apart := false, laid := [("bursary/mode.goes", laid_bursary_mode_goes), ("bursary/mode.covers", laid_bursary_mode_covers)] }
def ModeSupsSaid : Prop := modeSupsRow.holds Tryd.pinned (OpenSpec.ofChange modeSupsSpec)

/-- ITS FALSE NEIGHBOUR: 'it returns false'. Refute it at one input. -/
def modeSupsWrong : ChangeSpec := { name := "modeSups", fn := fun _ => fun
  | [d1, d2, d3] => { results := [.lit (.bool false)], args := [d1, d2, d3] }
  | _ => none }
def ModeSupsWrongFalsely : Prop := modeSupsRow.holds Tryd.pinned (OpenSpec.ofChange modeSupsWrong)

/-- 'bursarylaw07.ModeOrder': WHATEVER THE INPUT: true; the input reads as it did. -/
def modeOrderSpec : ChangeSpec := { name := "modeOrder", fn := fun _ => fun
  | [d1, d2, d3] => { results := [.lit (.bool true)], args := [d1, d2, d3] }
  | _ => none }
def modeOrderRow : OpenClaim := { program := "ytfplmflbkhanoaadoor", sum := "f08932c8240dfd7f6adb0412d0a22fe24b1e2c7e2f816616f76af517b1bd19d4", func := "bursary/bursarylaw07.ModeOrder", spec := "modeOrder", named := ["bursary/mode.covers", "bursary/mode.goes"], apart := false, laid := [("bursary/mode.goes", laid_bursary_mode_goes), ("bursary/mode.covers", laid_bursary_mode_covers)] }
def ModeOrderSaid : Prop := modeOrderRow.holds Tryd.pinned (OpenSpec.ofChange modeOrderSpec)

/-- ITS FALSE NEIGHBOUR: 'it returns false'. Refute it at one input. -/
def modeOrderWrong : ChangeSpec := { name := "modeOrder", fn := fun _ => fun
  | [d1, d2, d3] => { results := [.lit (.bool false)], args := [d1, d2, d3] }
  | _ => none }
def ModeOrderWrongFalsely : Prop := modeOrderRow.holds Tryd.pinned (OpenSpec.ofChange modeOrderWrong)

/-- 'bursarylaw07.ModeBack': WHATEVER THE INPUT: true; the input reads as it did. -/
def modeBackSpec : ChangeSpec := { name := "modeBack", fn := fun _ => fun
  | [d1, d2] => { results := [.lit (.bool true)], args := [d1, d2] }
  | _ => none }
def modeBackRow : OpenClaim := { program := "ytfplmflbkhanoaadoor", sum := "f08932c8240dfd7f6adb0412d0a22fe24b1e2c7e2f816616f76af517b1bd19d4", func := "bursary/bursarylaw07.ModeBack", spec := "modeBack", named := ["bursary/mode.covers", "bursary/mode.goes", "bursary/mode.texts"], apart := false, laid := [("bursary/mode.goes", laid_bursary_mode_goes), ("bursary/mode.covers", laid_bursary_mode_covers), ("bursary/mode.texts", laid_bursary_mode_texts)] }
def ModeBackSaid : Prop := modeBackRow.holds Tryd.pinned (OpenSpec.ofChange modeBackSpec)

/-- ITS FALSE NEIGHBOUR: 'it returns false'. Refute it at one input. -/
def modeBackWrong : ChangeSpec := { name := "modeBack", fn := fun _ => fun
  | [d1, d2] => { results := [.lit (.bool false)], args := [d1, d2] }
  | _ => none }
def ModeBackWrongFalsely : Prop := modeBackRow.holds Tryd.pinned (OpenSpec.ofChange modeBackWrong)

/- THE SECOND FORM. 'bulk': how many values and letters a reading holds, each counted each time it is reached (what is shared counts as often as it is met; a slice's spare places count too). A statement '..UptoSaid' is the law's where the arguments, and the package variables that the reading takes, are together of bulk at most 1048576: NARROWER than '..Said'. Prove '..Said' where nothing that the law and all that it calls make is longer than what came in: it says more and counts as full. Else prove '..UptoSaid'. A law counts once. -/
mutual
def uptoBulk {H : Type} : DataW H → Nat
  | .lit (.string bytes) => bytes.length + 1
  | .lit _ => 1
  | .nil => 1
  | .ptr d => uptoBulk d + 1
  | .slice elems spare => uptoBulkAll elems + uptoBulkAll spare + 1
  | .agg parts => uptoBulkAll parts + 1
  | .iface _ d => uptoBulk d + 1
  | .map entries => uptoBulkEntries entries + 1
  | .held _ => 1
def uptoBulkAll {H : Type} : List (DataW H) → Nat
  | [] => 0
  | d :: r => uptoBulk d + uptoBulkAll r
def uptoBulkEntries {H : Type} : List (Lit × DataW H) → Nat
  | [] => 0
  | x :: r => uptoBulkEntry x + uptoBulkEntries r
def uptoBulkEntry {H : Type} : Lit × DataW H → Nat
  | (.string bytes, d) => bytes.length + uptoBulk d + 1
  | (_, d) => uptoBulk d + 1
 end
def uptoSmall : (H : Type) → List (DataW H) → Bool := fun _ ds => decide (uptoBulkAll ds ≤ 1048576)
def OpenSpec.upto (s : _root_.Go.ChangeSpec) : _root_.Go.OpenSpec := { _root_.Go.OpenSpec.ofChange s with cond := some uptoSmall }

/-- 'bursarylaw07.ModeTells', WHERE WHAT IT READS IS OF BULK AT MOST 1048576: true; the input reads as it did. -/
def modeTellsUptoRow : OpenClaim := { program := "ytfplmflbkhanoaadoor", sum := "f08932c8240dfd7f6adb0412d0a22fe24b1e2c7e2f816616f76af517b1bd19d4", func := "bursary/bursarylaw07.ModeTells", spec := "modeTells", named := ["bursary/mode.covers", "bursary/mode.goes", "bursary/mode.texts"], apart := false, laid := [("bursary/mode.goes", laid_bursary_mode_goes), ("bursary/mode.covers", laid_bursary_mode_covers), ("bursary/mode.texts", laid_bursary_mode_texts)], narrowed := true }
def ModeTellsUptoSaid : Prop := modeTellsUptoRow.holds Tryd.pinned (OpenSpec.upto modeTellsSpec)

/-- 'bursarylaw07.ModePairs', WHERE WHAT IT READS IS OF BULK AT MOST 1048576: true; the input reads as it did. -/
def modePairsUptoRow : OpenClaim := { program := "ytfplmflbkhanoaadoor", sum := "f08932c8240dfd7f6adb0412d0a22fe24b1e2c7e2f816616f76af517b1bd19d4", func := "bursary/bursarylaw07.ModePairs", spec := "modePairs", named := ["bursary/mode.covers", "bursary/mode.goes"], apart := false, laid := [("bursary/mode.goes", laid_bursary_mode_goes), ("bursary/mode.covers", laid_bursary_mode_covers)], narrowed := true }
def ModePairsUptoSaid : Prop := modePairsUptoRow.holds Tryd.pinned (OpenSpec.upto modePairsSpec)

/-- 'bursarylaw07.ModeSups', WHERE WHAT IT READS IS OF BULK AT MOST 1048576: true; the input reads as it did. -/
def modeSupsUptoRow : OpenClaim := { program := "ytfplmflbkhanoaadoor", sum := "f08932c8240dfd7f6adb0412d0a22fe24b1e2c7e2f816616f76af517b1bd19d4", func := "bursary/bursarylaw07.ModeSups", spec := "modeSups", named := ["bursary/mode.covers", "bursary/mode.goes"], apart := false, laid := [("bursary/mode.goes", laid_bursary_mode_goes), ("bursary/mode.covers", laid_bursary_mode_covers)], narrowed := true }
def ModeSupsUptoSaid : Prop := modeSupsUptoRow.holds Tryd.pinned (OpenSpec.upto modeSupsSpec)

/-- 'bursarylaw07.ModeOrder', WHERE WHAT IT READS IS OF BULK AT MOST 1048576: true; the input reads as it did. -/
def modeOrderUptoRow : OpenClaim := { program := "ytfplmflbkhanoaadoor", sum := "f08932c8240dfd7f6adb0412d0a22fe24b1e2c7e2f816616f76af517b1bd19d4", func := "bursary/bursarylaw07.ModeOrder", spec := "modeOrder", named := ["bursary/mode.covers", "bursary/mode.goes"], apart := false, laid := [("bursary/mode.goes", laid_bursary_mode_goes), ("bursary/mode.covers", laid_bursary_mode_covers)], narrowed := true }
def ModeOrderUptoSaid : Prop := modeOrderUptoRow.holds Tryd.pinned (OpenSpec.upto modeOrderSpec)

/-- 'bursarylaw07.ModeBack', WHERE WHAT IT READS IS OF BULK AT MOST 1048576: true; the input reads as it did. -/
def modeBackUptoRow : OpenClaim := { program := "ytfplmflbkhanoaadoor", sum := "f08932c8240dfd7f6adb0412d0a22fe24b1e2c7e2f816616f76af517b1bd19d4", func := "bursary/bursarylaw07.ModeBack", spec := "modeBack", named := ["bursary/mode.covers", "bursary/mode.goes", "bursary/mode.texts"], apart := false, laid := [("bursary/mode.goes", laid_bursary_mode_goes), ("bursary/mode.covers", laid_bursary_mode_covers), ("bursary/mode.texts", laid_bursary_mode_texts)], narrowed := true }
def ModeBackUptoSaid : Prop := modeBackUptoRow.holds Tryd.pinned (OpenSpec.upto modeBackSpec)

end Rows
end Go.Proofs.YtfplmflbkhanoaaDoor
