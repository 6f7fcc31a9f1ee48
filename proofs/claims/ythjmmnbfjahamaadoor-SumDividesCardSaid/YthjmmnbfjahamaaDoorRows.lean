/-
  NARROWER THAN 'FOR EVERY INPUT', by the rows' own cells (each row's printed sentence says how): SumDivides: laid · SumSigns: laid · SumAdds: laid · SumOne: laid · SumNear: laid · SumParts: laid.
  DERIVED. THE GIVEN ROWS OF THIS SEAT. 6 by the template 'for every input the law returns true; each argument reads behind the call as it read before'; 0 by the template 'total and deterministic' (their statements: YthjmmnbfjahamaaDoorTotals.lean).
  GIVEN WITH THE SEED: the statements are not yours to turn. If you find one false, say at which input.
  Laid BY PROGRAM, IN A SANDBOX (cutbox-rows.mjs): the forced cells as the released guide's own fill.sh prints them over the translation 60ee95782038d707… (all of the seat's roots in one cut). By AI agents, Wed Nov 11 2026. No macro, syntax, notation, axiom, sorry.
-/
import Derived.Test.YthjmmnbfjahamaaDoorChecked
import GoSem.Claim
import GoSem.ClaimJoined
import GoSem.ClaimMapViews
import Derived.JoinedTies
import Derived.KernelRfl
namespace Go.Proofs.YthjmmnbfjahamaaDoor
/- THE CELL 'sum', in the pinned program and in every row, IS THE sha256 OF THE DUMP (.gsa) THAT YthjmmnbfjahamaaDoorProg.lean LOADS. Nothing in Lean hashes anything: it is a label: what it is worth is what the hold of that sum in a sandbox is worth. -/
noncomputable def Tryd.pinned : Pinned := { name := "ythjmmnbfjahamaadoor", sum := "60ee95782038d70729e25335a27aad05b1e0f717a7867469583135eeea914ebb", checked := Tryd.checked }
namespace Rows
def none {H : Type} : Left H := { results := [], args := [] }

/- WHAT THE LISTED PACKAGE-LEVEL VARIABLES READ AS WHEN THE CALL BEGINS. Each datum BY PROGRAM (the guide's laid-datum.mjs) off the statement by which the dump's own 'gosem.cut.vars' lays the variable. In a bare row this is a premise. The card (YthjmmnbfjahamaaDoorCards.lean) ties it to the program's text. -/
def laid_bursary_sum_steps {H : Type} : DataW H := .agg [.lit (.int .u32 0), .lit (.int .u32 274646895), .lit (.int .u32 549293790), .lit (.int .u32 820201905), .lit (.int .u32 1098587580), .lit (.int .u32 1361435347), .lit (.int .u32 1640403810), .lit (.int .u32 1905808397), .lit (.int .u32 2197175160), .lit (.int .u32 2460548119), .lit (.int .u32 2722870694), .lit (.int .u32 2987750089), .lit (.int .u32 3280807620), .lit (.int .u32 3553878443), .lit (.int .u32 3811616794), .lit (.int .u32 4084100981)]

/-- 'bursarylaw03.SumDivides': WHATEVER THE INPUT: true; the input reads as it did. -/
def sumDividesSpec : ChangeSpec := { name := "sumDivides", fn := fun _ => fun
  | [d1, d2] => { results := [.lit (.bool true)], args := [d1, d2] }
  | _ => none }
def sumDividesRow : OpenClaim := { program := "ythjmmnbfjahamaadoor", sum := "60ee95782038d70729e25335a27aad05b1e0f717a7867469583135eeea914ebb", func := "bursary/bursarylaw03.SumDivides", spec := "sumDivides", unfollowed := true, recurses := true, named := ["bursary/sum.steps"], apart := false, laid := [("bursary/sum.steps", laid_bursary_sum_steps)] }
def SumDividesSaid : Prop := sumDividesRow.holds Tryd.pinned (OpenSpec.ofChange sumDividesSpec)

/-- ITS FALSE NEIGHBOUR: 'it returns false'. Refute it at one input. -/
def sumDividesWrong : ChangeSpec := { name := "sumDivides", fn := fun _ => fun
  | [d1, d2] => { results := [.lit (.bool false)], args := [d1, d2] }
  | _ => none }
def SumDividesWrongFalsely : Prop := sumDividesRow.holds Tryd.pinned (OpenSpec.ofChange sumDividesWrong)

/-- 'bursarylaw03.SumSigns': WHATEVER THE INPUT: true; the input reads as it did. -/
def sumSignsSpec : ChangeSpec := { name := "sumSigns", fn := fun _ => fun
  | [d] => { results := [.lit (.bool true)], args := [d] }
  | _ => none }
def sumSignsRow : OpenClaim := { program := "ythjmmnbfjahamaadoor", sum := "60ee95782038d70729e25335a27aad05b1e0f717a7867469583135eeea914ebb", func := "bursary/bursarylaw03.SumSigns", spec := "sumSigns", unfollowed := true, recurses := true, named := ["bursary/sum.steps"], apart := false, laid := [("bursary/sum.steps", laid_bursary_sum_steps)] }
def SumSignsSaid : Prop := sumSignsRow.holds Tryd.pinned (OpenSpec.ofChange sumSignsSpec)

/-- ITS FALSE NEIGHBOUR: 'it returns false'. Refute it at one input. -/
def sumSignsWrong : ChangeSpec := { name := "sumSigns", fn := fun _ => fun
  | [d] => { results := [.lit (.bool false)], args := [d] }
  | _ => none }
def SumSignsWrongFalsely : Prop := sumSignsRow.holds Tryd.pinned (OpenSpec.ofChange sumSignsWrong)

/-- 'bursarylaw03.SumAdds': WHATEVER THE INPUT: true; the input reads as it did. -/
def sumAddsSpec : ChangeSpec := { name := "sumAdds", fn := fun _ => fun
  | [d1, d2, d3] => { results := [.lit (.bool true)], args := [d1, d2, d3] }
  | _ => none }
def sumAddsRow : OpenClaim := { program := "ythjmmnbfjahamaadoor", sum := "60ee95782038d70729e25335a27aad05b1e0f717a7867469583135eeea914ebb", func := "bursary/bursarylaw03.SumAdds", spec := "sumAdds", unfollowed := true, recurses := true, named := ["bursary/sum.steps"], apart := false, laid := [("bursary/sum.steps", laid_bursary_sum_steps)] }
def SumAddsSaid : Prop := sumAddsRow.holds Tryd.pinned (OpenSpec.ofChange sumAddsSpec)

/-- ITS FALSE NEIGHBOUR: 'it returns false'. Refute it at one input. -/
def sumAddsWrong : ChangeSpec := { name := "sumAdds", fn := fun _ => fun
  | [d1, d2, d3] => { results := [.lit (.bool false)], args := [d1, d2, d3] }
  | _ => none }
def SumAddsWrongFalsely : Prop := sumAddsRow.holds Tryd.pinned (OpenSpec.ofChange sumAddsWrong)

/-- 'bursarylaw03.SumOne': WHATEVER THE INPUT: true; the input reads as it did. -/
def sumOneSpec : ChangeSpec := { name := "sumOne", fn := fun _ => fun
  | [d1, d2] => { results := [.lit (.bool true)], args := [d1, d2] }
  | _ => none }
def sumOneRow : OpenClaim := { program := "ythjmmnbfjahamaadoor", sum := "60ee95782038d70729e25335a27aad05b1e0f717a7867469583135eeea914ebb", func := "bursary/bursarylaw03.SumOne", spec := "sumOne", unfollowed := true, recurses := true, named := ["bursary/sum.steps"], apart := false, laid := [("bursary/sum.steps", laid_bursary_sum_steps)] }
def SumOneSaid : Prop := sumOneRow.holds Tryd.pinned (OpenSpec.ofChange sumOneSpec)

/-- ITS FALSE NEIGHBOUR: 'it returns false'. Refute it at one input. -/
def sumOneWrong : ChangeSpec := { name := "sumOne", fn := fun _ => fun
  | [d1, d2] => { results := [.lit (.bool false)], args := [d1, d2] }
  | _ => none }
def SumOneWrongFalsely : Prop := sumOneRow.holds Tryd.pinned (OpenSpec.ofChange sumOneWrong)

/-- 'bursarylaw03.SumNear': WHATEVER THE INPUT: true; the input reads as it did. -/
def sumNearSpec : ChangeSpec := { name := "sumNear", fn := fun _ => fun
  | [d1, d2, d3] => { results := [.lit (.bool true)], args := [d1, d2, d3] }
  | _ => none }
def sumNearRow : OpenClaim := { program := "ythjmmnbfjahamaadoor", sum := "60ee95782038d70729e25335a27aad05b1e0f717a7867469583135eeea914ebb", func := "bursary/bursarylaw03.SumNear", spec := "sumNear", unfollowed := true, recurses := true, named := ["bursary/sum.steps"], apart := false, laid := [("bursary/sum.steps", laid_bursary_sum_steps)] }
def SumNearSaid : Prop := sumNearRow.holds Tryd.pinned (OpenSpec.ofChange sumNearSpec)

/-- ITS FALSE NEIGHBOUR: 'it returns false'. Refute it at one input. -/
def sumNearWrong : ChangeSpec := { name := "sumNear", fn := fun _ => fun
  | [d1, d2, d3] => { results := [.lit (.bool false)], args := [d1, d2, d3] }
  | _ => none }
def SumNearWrongFalsely : Prop := sumNearRow.holds Tryd.pinned (OpenSpec.ofChange sumNearWrong)

/-- 'bursarylaw03.SumParts': WHATEVER THE INPUT: true; the input reads as it did. -/
def sumPartsSpec : ChangeSpec := { name := "sumParts", fn := fun _ => fun
  | [d] => { results := [.lit (.bool true)], args := [d] }
  | _ => none }
def sumPartsRow : OpenClaim := { program := "ythjmmnbfjahamaadoor", sum := "60ee95782038d70729e25335a27aad05b1e0f717a7867469583135eeea914ebb", func := "bursary/bursarylaw03.SumParts", spec := "sumParts", unfollowed := true, recurses := true, named := ["bursary/sum.steps"], apart := false, laid := [("bursary/sum.steps", laid_bursary_sum_steps)] }
def SumPartsSaid : Prop := sumPartsRow.holds Tryd.pinned (OpenSpec.ofChange sumPartsSpec)

/-- ITS FALSE NEIGHBOUR: 'it returns false'. Refute it at one input. -/
def sumPartsWrong : ChangeSpec := { name := "sumParts", fn := fun _ => fun
  | [d] => { results := [.lit (.bool false)], args := [d] }
  | _ => none }
def SumPartsWrongFalsely : Prop := sumPartsRow.holds Tryd.pinned (OpenSpec.ofChange sumPartsWrong)

/- THE SECOND FORM. 'bulk': how many values and letters a reading holds, each counted each time it is reached (what is shared counts as often as it is met; a slice's spare places count too). A statement '..UptoSaid' is the law's where the arguments, and the package variables that the reading takes, are together of bulk at most 1048576: NARROWER than '..Said'. Prove '..Said' where nothing that the law and all that it calls make is longer than what came in: it says more and counts as full. Else prove '..UptoSaid'. A law counts once. -/
mutual
def uptoBulk {H : Type} : DataW H → Nat
  | .lit (.string bytes) => bytes.length + 1
  | .lit _ => 1
  | .nil => 1
  | .ptr d => uptoBulk d + 1
  | .slice elems spare => uptoBulkAll elems + uptoBulkAll spare + 1
  | .agg parts => uptoBulkAll parts + 1
  | .iface _ d => uptoBulk d + 1
  | .map entries => uptoBulkEntries entries + 1
  | .held _ => 1
def uptoBulkAll {H : Type} : List (DataW H) → Nat
  | [] => 0
  | d :: r => uptoBulk d + uptoBulkAll r
def uptoBulkEntries {H : Type} : List (Lit × DataW H) → Nat
  | [] => 0
  | x :: r => uptoBulkEntry x + uptoBulkEntries r
def uptoBulkEntry {H : Type} : Lit × DataW H → Nat
  | (.string bytes, d) => bytes.length + uptoBulk d + 1
  | (_, d) => uptoBulk d + 1
 end
def uptoSmall : (H : Type) → List (DataW H) → Bool := fun _ ds => decide (uptoBulkAll ds ≤ 1048576)
def OpenSpec.upto (s : _root_.Go.ChangeSpec) : _root_.Go.OpenSpec := { _root_.Go.OpenSpec.ofChange s with cond := some uptoSmall }

/-- 'bursarylaw03.SumDivides', WHERE WHAT IT READS IS OF BULK AT MOST 1048576: true; the input reads as it did. -/
def sumDividesUptoRow : OpenClaim := { program := "ythjmmnbfjahamaadoor", sum := "60ee95782038d70729e25335a27aad05b1e0f717a7867469583135eeea914ebb", func := "bursary/bursarylaw03.SumDivides", spec := "sumDivides", unfollowed := true, recurses := true, named := ["bursary/sum.steps"], apart := false, laid := [("bursary/sum.steps", laid_bursary_sum_steps)], narrowed := true }
def SumDividesUptoSaid : Prop := sumDividesUptoRow.holds Tryd.pinned (OpenSpec.upto sumDividesSpec)

/-- 'bursarylaw03.SumSigns', WHERE WHAT IT READS IS OF BULK AT MOST 1048576: true; the input reads as it did. -/
def sumSignsUptoRow : OpenClaim := { program := "ythjmmnbfjahamaadoor", sum := "60ee95782038d70729e25335a27aad05b1e0f717a7867469583135eeea914ebb", func := "bursary/bursarylaw03.SumSigns", spec := "sumSigns", unfollowed := true, recurses := true, named := ["bursary/sum.steps"], apart := false, laid := [("bursary/sum.steps", laid_bursary_sum_steps)], narrowed := true }
def SumSignsUptoSaid : Prop := sumSignsUptoRow.holds Tryd.pinned (OpenSpec.upto sumSignsSpec)

/-- 'bursarylaw03.SumAdds', WHERE WHAT IT READS IS OF BULK AT MOST 1048576: true; the input reads as it did. -/
def sumAddsUptoRow : OpenClaim := { program := "ythjmmnbfjahamaadoor", sum := "60ee95782038d70729e25335a27aad05b1e0f717a7867469583135eeea914ebb", func := "bursary/bursarylaw03.SumAdds", spec := "sumAdds", unfollowed := true, recurses := true, named := ["bursary/sum.steps"], apart := false, laid := [("bursary/sum.steps", laid_bursary_sum_steps)], narrowed := true }
def SumAddsUptoSaid : Prop := sumAddsUptoRow.holds Tryd.pinned (OpenSpec.upto sumAddsSpec)

/-- 'bursarylaw03.SumOne', WHERE WHAT IT READS IS OF BULK AT MOST 1048576: true; the input reads as it did. -/
def sumOneUptoRow : OpenClaim := { program := "ythjmmnbfjahamaadoor", sum := "60ee95782038d70729e25335a27aad05b1e0f717a7867469583135eeea914ebb", func := "bursary/bursarylaw03.SumOne", spec := "sumOne", unfollowed := true, recurses := true, named := ["bursary/sum.steps"], apart := false, laid := [("bursary/sum.steps", laid_bursary_sum_steps)], narrowed := true }
def SumOneUptoSaid : Prop := sumOneUptoRow.holds Tryd.pinned (OpenSpec.upto sumOneSpec)

/-- 'bursarylaw03.SumNear', WHERE WHAT IT READS IS OF BULK AT MOST 1048576: true; the input reads as it did. -/
def sumNearUptoRow : OpenClaim := { program := "ythjmmnbfjahamaadoor", sum := "60ee95782038d70729e25335a27aad05b1e0f717a7867469583135eeea914ebb", func := "bursary/bursarylaw03.SumNear", spec := "sumNear", unfollowed := true, recurses := true, named := ["bursary/sum.steps"], apart := false, laid := [("bursary/sum.steps", laid_bursary_sum_steps)], narrowed := true }
def SumNearUptoSaid : Prop := sumNearUptoRow.holds Tryd.pinned (OpenSpec.upto sumNearSpec)

/-- 'bursarylaw03.SumParts', WHERE WHAT IT READS IS OF BULK AT MOST 1048576: true; the input reads as it did. -/
def sumPartsUptoRow : OpenClaim := { program := "ythjmmnbfjahamaadoor", sum := "60ee95782038d70729e25335a27aad05b1e0f717a7867469583135eeea914ebb", func := "bursary/bursarylaw03.SumParts", spec := "sumParts", unfollowed := true, recurses := true, named := ["bursary/sum.steps"], apart := false, laid := [("bursary/sum.steps", laid_bursary_sum_steps)], narrowed := true }
def SumPartsUptoSaid : Prop := sumPartsUptoRow.holds Tryd.pinned (OpenSpec.upto sumPartsSpec)

end Rows
end Go.Proofs.YthjmmnbfjahamaaDoor
