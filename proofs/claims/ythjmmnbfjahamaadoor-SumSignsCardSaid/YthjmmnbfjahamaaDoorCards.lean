/-
  DERIVED. GIVEN WITH THE SEED: THE CARDS: each row of YthjmmnbfjahamaaDoorRows.lean that lists a variable, with what it lists TIED to the program's text (the seventh form; the later family's looks); each row that meets fmt, with fmt's text TOLD by the authors' own Lean function (tested against real Go, not proved from fmt's source: count such statements apart). THE CARD IS WHAT COUNTS. Prove the row's statement (the work); the ties are given (YthjmmnbfjahamaaDoorTie.lean); close each card by the builder's one call (the guide's Derived/Test/ToyasCard.lean, 'card_holds'). Laid BY PROGRAM, IN A SANDBOX (cutbox-door.mjs). By AI agents, Wed Nov 11 2026. No macro, syntax, notation, axiom, sorry.
-/
import Derived.Test.YthjmmnbfjahamaaDoorRows
import GoSem.ClaimSeven
namespace Go.Proofs.YthjmmnbfjahamaaDoor
namespace Rows

/-- THE TIED CARD OF 'bursarylaw03.SumDivides'. -/
def sumDividesCard : Claim7 := { stood := { row := sumDividesRow, standIns := [], harness := (true, "62a9ecd8ccfb7a9c853698d9fe50f259b703032a49d30b230fea3508115babf2"), looks := false }, kinds := [], alts := [], laidByText := true, laidKinds := [.data], laidTests := true, laidLooks := .later }
def SumDividesCardSaid : Prop := Claim7.holds Tryd.pinned (.plain (OpenSpec.ofChange sumDividesSpec)) sumDividesCard

/-- THE TIED CARD OF 'bursarylaw03.SumSigns'. -/
def sumSignsCard : Claim7 := { stood := { row := sumSignsRow, standIns := [], harness := (true, "62a9ecd8ccfb7a9c853698d9fe50f259b703032a49d30b230fea3508115babf2"), looks := false }, kinds := [], alts := [], laidByText := true, laidKinds := [.data], laidTests := true, laidLooks := .later }
def SumSignsCardSaid : Prop := Claim7.holds Tryd.pinned (.plain (OpenSpec.ofChange sumSignsSpec)) sumSignsCard

/-- THE TIED CARD OF 'bursarylaw03.SumAdds'. -/
def sumAddsCard : Claim7 := { stood := { row := sumAddsRow, standIns := [], harness := (true, "62a9ecd8ccfb7a9c853698d9fe50f259b703032a49d30b230fea3508115babf2"), looks := false }, kinds := [], alts := [], laidByText := true, laidKinds := [.data], laidTests := true, laidLooks := .later }
def SumAddsCardSaid : Prop := Claim7.holds Tryd.pinned (.plain (OpenSpec.ofChange sumAddsSpec)) sumAddsCard

/-- THE TIED CARD OF 'bursarylaw03.SumOne'. -/
def sumOneCard : Claim7 := { stood := { row := sumOneRow, standIns := [], harness := (true, "62a9ecd8ccfb7a9c853698d9fe50f259b703032a49d30b230fea3508115babf2"), looks := false }, kinds := [], alts := [], laidByText := true, laidKinds := [.data], laidTests := true, laidLooks := .later }
def SumOneCardSaid : Prop := Claim7.holds Tryd.pinned (.plain (OpenSpec.ofChange sumOneSpec)) sumOneCard

/-- THE TIED CARD OF 'bursarylaw03.SumNear'. -/
def sumNearCard : Claim7 := { stood := { row := sumNearRow, standIns := [], harness := (true, "62a9ecd8ccfb7a9c853698d9fe50f259b703032a49d30b230fea3508115babf2"), looks := false }, kinds := [], alts := [], laidByText := true, laidKinds := [.data], laidTests := true, laidLooks := .later }
def SumNearCardSaid : Prop := Claim7.holds Tryd.pinned (.plain (OpenSpec.ofChange sumNearSpec)) sumNearCard

/-- THE TIED CARD OF 'bursarylaw03.SumParts'. -/
def sumPartsCard : Claim7 := { stood := { row := sumPartsRow, standIns := [], harness := (true, "62a9ecd8ccfb7a9c853698d9fe50f259b703032a49d30b230fea3508115babf2"), looks := false }, kinds := [], alts := [], laidByText := true, laidKinds := [.data], laidTests := true, laidLooks := .later }
def SumPartsCardSaid : Prop := Claim7.holds Tryd.pinned (.plain (OpenSpec.ofChange sumPartsSpec)) sumPartsCard

/-- THE SECOND FORM's CARD OF 'bursarylaw03.SumDivides'. -/
def sumDividesUptoCard : Claim7 := { stood := { row := sumDividesUptoRow, standIns := [], harness := (true, "62a9ecd8ccfb7a9c853698d9fe50f259b703032a49d30b230fea3508115babf2"), looks := false }, kinds := [], alts := [], laidByText := true, laidKinds := [.data], laidTests := true, laidLooks := .later }
def SumDividesUptoCardSaid : Prop := Claim7.holds Tryd.pinned (.plain (OpenSpec.upto sumDividesSpec)) sumDividesUptoCard

/-- THE SECOND FORM's CARD OF 'bursarylaw03.SumSigns'. -/
def sumSignsUptoCard : Claim7 := { stood := { row := sumSignsUptoRow, standIns := [], harness := (true, "62a9ecd8ccfb7a9c853698d9fe50f259b703032a49d30b230fea3508115babf2"), looks := false }, kinds := [], alts := [], laidByText := true, laidKinds := [.data], laidTests := true, laidLooks := .later }
def SumSignsUptoCardSaid : Prop := Claim7.holds Tryd.pinned (.plain (OpenSpec.upto sumSignsSpec)) sumSignsUptoCard

/-- THE SECOND FORM's CARD OF 'bursarylaw03.SumAdds'. -/
def sumAddsUptoCard : Claim7 := { stood := { row := sumAddsUptoRow, standIns := [], harness := (true, "62a9ecd8ccfb7a9c853698d9fe50f259b703032a49d30b230fea3508115babf2"), looks := false }, kinds := [], alts := [], laidByText := true, laidKinds := [.data], laidTests := true, laidLooks := .later }
def SumAddsUptoCardSaid : Prop := Claim7.holds Tryd.pinned (.plain (OpenSpec.upto sumAddsSpec)) sumAddsUptoCard

/-- THE SECOND FORM's CARD OF 'bursarylaw03.SumOne'. -/
def sumOneUptoCard : Claim7 := { stood := { row := sumOneUptoRow, standIns := [], harness := (true, "62a9ecd8ccfb7a9c853698d9fe50f259b703032a49d30b230fea3508115babf2"), looks := false }, kinds := [], alts := [], laidByText := true, laidKinds := [.data], laidTests := true, laidLooks := .later }
def SumOneUptoCardSaid : Prop := Claim7.holds Tryd.pinned (.plain (OpenSpec.upto sumOneSpec)) sumOneUptoCard

/-- THE SECOND FORM's CARD OF 'bursarylaw03.SumNear'. -/
def sumNearUptoCard : Claim7 := { stood := { row := sumNearUptoRow, standIns := [], harness := (true, "62a9ecd8ccfb7a9c853698d9fe50f259b703032a49d30b230fea3508115babf2"), looks := false }, kinds := [], alts := [], laidByText := true, laidKinds := [.data], laidTests := true, laidLooks := .later }
def SumNearUptoCardSaid : Prop := Claim7.holds Tryd.pinned (.plain (OpenSpec.upto sumNearSpec)) sumNearUptoCard

/-- THE SECOND FORM's CARD OF 'bursarylaw03.SumParts'. -/
def sumPartsUptoCard : Claim7 := { stood := { row := sumPartsUptoRow, standIns := [], harness := (true, "62a9ecd8ccfb7a9c853698d9fe50f259b703032a49d30b230fea3508115babf2"), looks := false }, kinds := [], alts := [], laidByText := true, laidKinds := [.data], laidTests := true, laidLooks := .later }
def SumPartsUptoCardSaid : Prop := Claim7.holds Tryd.pinned (.plain (OpenSpec.upto sumPartsSpec)) sumPartsUptoCard
end Rows
end Go.Proofs.YthjmmnbfjahamaaDoor
