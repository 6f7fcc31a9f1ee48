/-
  DERIVED. GIVEN WITH THE SEED: THE CARDS: each row of YtbgpppbcffpdbaaGreatDoorRows.lean that lists a variable, with what it lists TIED to the program's text (the seventh form; the later family's looks); each row that meets fmt, with fmt's text TOLD by the authors' own Lean function (tested against real Go, not proved from fmt's source: count such statements apart). THE CARD IS WHAT COUNTS. Prove the row's statement (the work); the ties are given (YtbgpppbcffpdbaaGreatDoorTie.lean); close each card by the builder's one call (the guide's Derived/Test/ToyasCard.lean, 'card_holds'). Laid BY PROGRAM, IN A SANDBOX (cutbox-door.mjs). By AI agents, Wed Nov 11 2026. No macro, syntax, notation, axiom, sorry.
-/
import Derived.Test.YtbgpppbcffpdbaaGreatDoorRows
import GoSem.ClaimSeven
namespace Go.Proofs.YtbgpppbcffpdbaaGreatDoor
namespace Rows

/-- THE TIED CARD OF 'bursarylaw08.LocksDoes'. -/
def locksDoesCard : Claim7 := { stood := { row := locksDoesRow, standIns := [], harness := (true, "9e3e0a3cd68ab5da0b87ffc6675e4242a827a05f282b4b6a4a8edea34464e6ab"), looks := false }, kinds := [], alts := [], laidByText := true, laidKinds := [.wider, .wider], laidTests := true, laidLooks := .later }
def LocksDoesCardSaid : Prop := Claim7.holds Tryz.pinned (.plain (OpenSpec.ofChange locksDoesSpec)) locksDoesCard

/-- THE TIED CARD OF 'bursarylaw08.LocksTells'. -/
def locksTellsCard : Claim7 := { stood := { row := locksTellsRow, standIns := [], harness := (true, "9e3e0a3cd68ab5da0b87ffc6675e4242a827a05f282b4b6a4a8edea34464e6ab"), looks := false }, kinds := [], alts := [], laidByText := true, laidKinds := [.wider, .wider], laidTests := true, laidLooks := .later }
def LocksTellsCardSaid : Prop := Claim7.holds Tryz.pinned (.plain (OpenSpec.ofChange locksTellsSpec)) locksTellsCard

/-- THE TIED CARD OF 'bursarylaw08.LocksMost'. -/
def locksMostCard : Claim7 := { stood := { row := locksMostRow, standIns := [], harness := (true, "9e3e0a3cd68ab5da0b87ffc6675e4242a827a05f282b4b6a4a8edea34464e6ab"), looks := false }, kinds := [], alts := [], laidByText := true, laidKinds := [.wider, .wider], laidTests := true, laidLooks := .later }
def LocksMostCardSaid : Prop := Claim7.holds Tryz.pinned (.plain (OpenSpec.ofChange locksMostSpec)) locksMostCard

/-- THE TIED CARD OF 'bursarylaw08.LocksSafe'. -/
def locksSafeCard : Claim7 := { stood := { row := locksSafeRow, standIns := [], harness := (true, "9e3e0a3cd68ab5da0b87ffc6675e4242a827a05f282b4b6a4a8edea34464e6ab"), looks := false }, kinds := [], alts := [], laidByText := true, laidKinds := [.wider, .wider], laidTests := true, laidLooks := .later }
def LocksSafeCardSaid : Prop := Claim7.holds Tryz.pinned (.plain (OpenSpec.ofChange locksSafeSpec)) locksSafeCard

/-- THE TIED CARD OF 'bursarylaw08.LocksServes'. -/
def locksServesCard : Claim7 := { stood := { row := locksServesRow, standIns := [], harness := (true, "9e3e0a3cd68ab5da0b87ffc6675e4242a827a05f282b4b6a4a8edea34464e6ab"), looks := false }, kinds := [], alts := [], laidByText := true, laidKinds := [.wider, .wider], laidTests := true, laidLooks := .later }
def LocksServesCardSaid : Prop := Claim7.holds Tryz.pinned (.plain (OpenSpec.ofChange locksServesSpec)) locksServesCard

/-- THE TIED CARD OF 'bursarylaw08.LocksAlone'. -/
def locksAloneCard : Claim7 := { stood := { row := locksAloneRow, standIns := [], harness := (true, "9e3e0a3cd68ab5da0b87ffc6675e4242a827a05f282b4b6a4a8edea34464e6ab"), looks := false }, kinds := [], alts := [], laidByText := true, laidKinds := [.wider, .wider], laidTests := true, laidLooks := .later }
def LocksAloneCardSaid : Prop := Claim7.holds Tryz.pinned (.plain (OpenSpec.ofChange locksAloneSpec)) locksAloneCard

/-- THE SECOND FORM's CARD OF 'bursarylaw08.LocksDoes'. -/
def locksDoesUptoCard : Claim7 := { stood := { row := locksDoesUptoRow, standIns := [], harness := (true, "9e3e0a3cd68ab5da0b87ffc6675e4242a827a05f282b4b6a4a8edea34464e6ab"), looks := false }, kinds := [], alts := [], laidByText := true, laidKinds := [.wider, .wider], laidTests := true, laidLooks := .later }
def LocksDoesUptoCardSaid : Prop := Claim7.holds Tryz.pinned (.plain (OpenSpec.upto locksDoesSpec)) locksDoesUptoCard

/-- THE SECOND FORM's CARD OF 'bursarylaw08.LocksTells'. -/
def locksTellsUptoCard : Claim7 := { stood := { row := locksTellsUptoRow, standIns := [], harness := (true, "9e3e0a3cd68ab5da0b87ffc6675e4242a827a05f282b4b6a4a8edea34464e6ab"), looks := false }, kinds := [], alts := [], laidByText := true, laidKinds := [.wider, .wider], laidTests := true, laidLooks := .later }
def LocksTellsUptoCardSaid : Prop := Claim7.holds Tryz.pinned (.plain (OpenSpec.upto locksTellsSpec)) locksTellsUptoCard

/-- THE SECOND FORM's CARD OF 'bursarylaw08.LocksMost'. -/
def locksMostUptoCard : Claim7 := { stood := { row := locksMostUptoRow, standIns := [], harness := (true, "9e3e0a3cd68ab5da0b87ffc6675e4242a827a05f282b4b6a4a8edea34464e6ab"), looks := false }, kinds := [], alts := [], laidByText := true, laidKinds := [.wider, .wider], laidTests := true, laidLooks := .later }
def LocksMostUptoCardSaid : Prop := Claim7.holds Tryz.pinned (.plain (OpenSpec.upto locksMostSpec)) locksMostUptoCard

/-- THE SECOND FORM's CARD OF 'bursarylaw08.LocksSafe'. -/
def locksSafeUptoCard : Claim7 := { stood := { row := locksSafeUptoRow, standIns := [], harness := (true, "9e3e0a3cd68ab5da0b87ffc6675e4242a827a05f282b4b6a4a8edea34464e6ab"), looks := false }, kinds := [], alts := [], laidByText := true, laidKinds := [.wider, .wider], laidTests := true, laidLooks := .later }
def LocksSafeUptoCardSaid : Prop := Claim7.holds Tryz.pinned (.plain (OpenSpec.upto locksSafeSpec)) locksSafeUptoCard

/-- THE SECOND FORM's CARD OF 'bursarylaw08.LocksServes'. -/
def locksServesUptoCard : Claim7 := { stood := { row := locksServesUptoRow, standIns := [], harness := (true, "9e3e0a3cd68ab5da0b87ffc6675e4242a827a05f282b4b6a4a8edea34464e6ab"), looks := false }, kinds := [], alts := [], laidByText := true, laidKinds := [.wider, .wider], laidTests := true, laidLooks := .later }
def LocksServesUptoCardSaid : Prop := Claim7.holds Tryz.pinned (.plain (OpenSpec.upto locksServesSpec)) locksServesUptoCard

/-- THE SECOND FORM's CARD OF 'bursarylaw08.LocksAlone'. -/
def locksAloneUptoCard : Claim7 := { stood := { row := locksAloneUptoRow, standIns := [], harness := (true, "9e3e0a3cd68ab5da0b87ffc6675e4242a827a05f282b4b6a4a8edea34464e6ab"), looks := false }, kinds := [], alts := [], laidByText := true, laidKinds := [.wider, .wider], laidTests := true, laidLooks := .later }
def LocksAloneUptoCardSaid : Prop := Claim7.holds Tryz.pinned (.plain (OpenSpec.upto locksAloneSpec)) locksAloneUptoCard
end Rows
end Go.Proofs.YtbgpppbcffpdbaaGreatDoor
