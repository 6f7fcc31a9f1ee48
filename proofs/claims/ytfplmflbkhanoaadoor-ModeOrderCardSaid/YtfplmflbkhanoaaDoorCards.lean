/-
  DERIVED. GIVEN WITH THE SEED: THE CARDS: each row of YtfplmflbkhanoaaDoorRows.lean that lists a variable, with what it lists TIED to the program's text (the seventh form; the later family's looks); each row that meets fmt, with fmt's text TOLD by the authors' own Lean function (tested against real Go, not proved from fmt's source: count such statements apart). THE CARD IS WHAT COUNTS. Prove the row's statement (the work); the ties are given (YtfplmflbkhanoaaDoorTie.lean); close each card by the builder's one call (the guide's Derived/Test/ToyasCard.lean, 'card_holds'). Laid BY PROGRAM, IN A SANDBOX (cutbox-door.mjs). By AI agents, Wed Nov 11 2026. No macro, syntax, notation, axiom, sorry.
-/
import Derived.Test.YtfplmflbkhanoaaDoorRows
import GoSem.ClaimSeven
namespace Go.Proofs.YtfplmflbkhanoaaDoor
namespace Rows

/-- THE TIED CARD OF 'bursarylaw07.ModeTells'. -/
def modeTellsCard : Claim7 := { stood := { row := modeTellsRow, standIns := [], harness := (true, "e62ca6dbc9f7783cdf0098fa32eac7ddf769a1d79c0a616c143ad6375d663b7e"), looks := false }, kinds := [], alts := [], laidByText := true, laidKinds := [.wider, .wider, .data], laidTests := true, laidLooks := .later }
def ModeTellsCardSaid : Prop := Claim7.holds Tryd.pinned (.plain (OpenSpec.ofChange modeTellsSpec)) modeTellsCard

/-- THE TIED CARD OF 'bursarylaw07.ModePairs'. -/
def modePairsCard : Claim7 := { stood := { row := modePairsRow, standIns := [], harness := (true, "e62ca6dbc9f7783cdf0098fa32eac7ddf769a1d79c0a616c143ad6375d663b7e"), looks := false }, kinds := [], alts := [], laidByText := true, laidKinds := [.wider, .wider], laidTests := true, laidLooks := .later }
def ModePairsCardSaid : Prop := Claim7.holds Tryd.pinned (.plain (OpenSpec.ofChange modePairsSpec)) modePairsCard

/-- THE TIED CARD OF 'bursarylaw07.ModeSups'. -/
def modeSupsCard : Claim7 := { stood := { row := modeSupsRow, standIns := [], harness := (true, "e62ca6dbc9f7783cdf0098fa32eac7ddf769a1d79c0a616c143ad6375d663b7e"), looks := false }, kinds := [], alts := [], laidByText := true, laidKinds := [.wider, .wider], laidTests := true, laidLooks := .later }
def ModeSupsCardSaid : Prop := Claim7.holds Tryd.pinned (.plain (OpenSpec.ofChange modeSupsSpec)) modeSupsCard

/-- THE TIED CARD OF 'bursarylaw07.ModeOrder'. -/
def modeOrderCard : Claim7 := { stood := { row := modeOrderRow, standIns := [], harness := (true, "e62ca6dbc9f7783cdf0098fa32eac7ddf769a1d79c0a616c143ad6375d663b7e"), looks := false }, kinds := [], alts := [], laidByText := true, laidKinds := [.wider, .wider], laidTests := true, laidLooks := .later }
def ModeOrderCardSaid : Prop := Claim7.holds Tryd.pinned (.plain (OpenSpec.ofChange modeOrderSpec)) modeOrderCard

/-- THE TIED CARD OF 'bursarylaw07.ModeBack'. -/
def modeBackCard : Claim7 := { stood := { row := modeBackRow, standIns := [], harness := (true, "e62ca6dbc9f7783cdf0098fa32eac7ddf769a1d79c0a616c143ad6375d663b7e"), looks := false }, kinds := [], alts := [], laidByText := true, laidKinds := [.wider, .wider, .data], laidTests := true, laidLooks := .later }
def ModeBackCardSaid : Prop := Claim7.holds Tryd.pinned (.plain (OpenSpec.ofChange modeBackSpec)) modeBackCard

/-- THE SECOND FORM's CARD OF 'bursarylaw07.ModeTells'. -/
def modeTellsUptoCard : Claim7 := { stood := { row := modeTellsUptoRow, standIns := [], harness := (true, "e62ca6dbc9f7783cdf0098fa32eac7ddf769a1d79c0a616c143ad6375d663b7e"), looks := false }, kinds := [], alts := [], laidByText := true, laidKinds := [.wider, .wider, .data], laidTests := true, laidLooks := .later }
def ModeTellsUptoCardSaid : Prop := Claim7.holds Tryd.pinned (.plain (OpenSpec.upto modeTellsSpec)) modeTellsUptoCard

/-- THE SECOND FORM's CARD OF 'bursarylaw07.ModePairs'. -/
def modePairsUptoCard : Claim7 := { stood := { row := modePairsUptoRow, standIns := [], harness := (true, "e62ca6dbc9f7783cdf0098fa32eac7ddf769a1d79c0a616c143ad6375d663b7e"), looks := false }, kinds := [], alts := [], laidByText := true, laidKinds := [.wider, .wider], laidTests := true, laidLooks := .later }
def ModePairsUptoCardSaid : Prop := Claim7.holds Tryd.pinned (.plain (OpenSpec.upto modePairsSpec)) modePairsUptoCard

/-- THE SECOND FORM's CARD OF 'bursarylaw07.ModeSups'. -/
def modeSupsUptoCard : Claim7 := { stood := { row := modeSupsUptoRow, standIns := [], harness := (true, "e62ca6dbc9f7783cdf0098fa32eac7ddf769a1d79c0a616c143ad6375d663b7e"), looks := false }, kinds := [], alts := [], laidByText := true, laidKinds := [.wider, .wider], laidTests := true, laidLooks := .later }
def ModeSupsUptoCardSaid : Prop := Claim7.holds Tryd.pinned (.plain (OpenSpec.upto modeSupsSpec)) modeSupsUptoCard

/-- THE SECOND FORM's CARD OF 'bursarylaw07.ModeOrder'. -/
def modeOrderUptoCard : Claim7 := { stood := { row := modeOrderUptoRow, standIns := [], harness := (true, "e62ca6dbc9f7783cdf0098fa32eac7ddf769a1d79c0a616c143ad6375d663b7e"), looks := false }, kinds := [], alts := [], laidByText := true, laidKinds := [.wider, .wider], laidTests := true, laidLooks := .later }
def ModeOrderUptoCardSaid : Prop := Claim7.holds Tryd.pinned (.plain (OpenSpec.upto modeOrderSpec)) modeOrderUptoCard

/-- THE SECOND FORM's CARD OF 'bursarylaw07.ModeBack'. -/
def modeBackUptoCard : Claim7 := { stood := { row := modeBackUptoRow, standIns := [], harness := (true, "e62ca6dbc9f7783cdf0098fa32eac7ddf769a1d79c0a616c143ad6375d663b7e"), looks := false }, kinds := [], alts := [], laidByText := true, laidKinds := [.wider, .wider, .data], laidTests := true, laidLooks := .later }
def ModeBackUptoCardSaid : Prop := Claim7.holds Tryd.pinned (.plain (OpenSpec.upto modeBackSpec)) modeBackUptoCard
end Rows
end Go.Proofs.YtfplmflbkhanoaaDoor
