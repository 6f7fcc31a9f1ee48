/-
  No cell of these rows narrows 'for every input' (looked for: loops, veiled, ifaces, maps, wideKeys, modest, calm, conditions, laid).
  DERIVED. THE GIVEN ROWS OF THIS SEAT. 6 by the template 'for every input the law returns true; each argument reads behind the call as it read before'; 0 by the template 'total and deterministic' (their statements: YtkdkncbccofpdaaTotals.lean).
  GIVEN WITH THE SEED: the statements are not yours to turn. If you find one false, say at which input.
  Laid BY PROGRAM, IN A SANDBOX (cutbox-rows.mjs): the forced cells as the released guide's own fill.sh prints them over the translation 09feef31da8efc20… (all of the seat's roots in one cut). By AI agents, Wed Nov 11 2026. No macro, syntax, notation, axiom, sorry.
-/
import Derived.Test.YtkdkncbccofpdaaChecked
import GoSem.Claim
import GoSem.ClaimJoined
import GoSem.ClaimMapViews
import Derived.JoinedTies
import Derived.KernelRfl
namespace Go.Proofs.Ytkdkncbccofpdaa
/- THE CELL 'sum', in the pinned program and in every row, IS THE sha256 OF THE DUMP (.gsa) THAT YtkdkncbccofpdaaProg.lean LOADS. Nothing in Lean hashes anything: it is a label: what it is worth is what the hold of that sum in a sandbox is worth. -/
noncomputable def Try.pinned : Pinned := { name := "ytkdkncbccofpdaa", sum := "09feef31da8efc200d09a7fc6d37fbb5633620a1d8a74acdae140a4c0e171245", checked := Try.checked }
namespace Rows
def none {H : Type} : Left H := { results := [], args := [] }

/-- 'bursarylaw15.IdealDoes': WHATEVER THE INPUT: true; the input reads as it did. -/
def idealDoesSpec : ChangeSpec := { name := "idealDoes", fn := fun _ => fun
  | [d1, d2, d3] => { results := [.lit (.bool true)], args := [d1, d2, d3] }
  | _ => none }
def idealDoesRow : OpenClaim := { program := "ytkdkncbccofpdaa", sum := "09feef31da8efc200d09a7fc6d37fbb5633620a1d8a74acdae140a4c0e171245", func := "bursary/bursarylaw15.IdealDoes", spec := "idealDoes", inPlace := ["slices.overlaps[bursary/api.Row]"], unfollowed := true, recurses := true, apart := false }
def IdealDoesSaid : Prop := idealDoesRow.holds Try.pinned (OpenSpec.ofChange idealDoesSpec)

/-- ITS FALSE NEIGHBOUR: 'it returns false'. Refute it at one input. -/
def idealDoesWrong : ChangeSpec := { name := "idealDoes", fn := fun _ => fun
  | [d1, d2, d3] => { results := [.lit (.bool false)], args := [d1, d2, d3] }
  | _ => none }
def IdealDoesWrongFalsely : Prop := idealDoesRow.holds Try.pinned (OpenSpec.ofChange idealDoesWrong)

/-- 'bursarylaw15.IdealSteps': WHATEVER THE INPUT: true; the input reads as it did. -/
def idealStepsSpec : ChangeSpec := { name := "idealSteps", fn := fun _ => fun
  | [d1, d2] => { results := [.lit (.bool true)], args := [d1, d2] }
  | _ => none }
def idealStepsRow : OpenClaim := { program := "ytkdkncbccofpdaa", sum := "09feef31da8efc200d09a7fc6d37fbb5633620a1d8a74acdae140a4c0e171245", func := "bursary/bursarylaw15.IdealSteps", spec := "idealSteps", inPlace := ["slices.overlaps[bursary/api.Row]"], unfollowed := true, recurses := true, apart := false }
def IdealStepsSaid : Prop := idealStepsRow.holds Try.pinned (OpenSpec.ofChange idealStepsSpec)

/-- ITS FALSE NEIGHBOUR: 'it returns false'. Refute it at one input. -/
def idealStepsWrong : ChangeSpec := { name := "idealSteps", fn := fun _ => fun
  | [d1, d2] => { results := [.lit (.bool false)], args := [d1, d2] }
  | _ => none }
def IdealStepsWrongFalsely : Prop := idealStepsRow.holds Try.pinned (OpenSpec.ofChange idealStepsWrong)

/-- 'bursarylaw15.IdealSame': WHATEVER THE INPUT: true; the input reads as it did. -/
def idealSameSpec : ChangeSpec := { name := "idealSame", fn := fun _ => fun
  | [d1, d2, d3] => { results := [.lit (.bool true)], args := [d1, d2, d3] }
  | _ => none }
def idealSameRow : OpenClaim := { program := "ytkdkncbccofpdaa", sum := "09feef31da8efc200d09a7fc6d37fbb5633620a1d8a74acdae140a4c0e171245", func := "bursary/bursarylaw15.IdealSame", spec := "idealSame", inPlace := ["slices.overlaps[bursary/api.Row]"], unfollowed := true, recurses := true, apart := false }
def IdealSameSaid : Prop := idealSameRow.holds Try.pinned (OpenSpec.ofChange idealSameSpec)

/-- ITS FALSE NEIGHBOUR: 'it returns false'. Refute it at one input. -/
def idealSameWrong : ChangeSpec := { name := "idealSame", fn := fun _ => fun
  | [d1, d2, d3] => { results := [.lit (.bool false)], args := [d1, d2, d3] }
  | _ => none }
def IdealSameWrongFalsely : Prop := idealSameRow.holds Try.pinned (OpenSpec.ofChange idealSameWrong)

/-- 'bursarylaw15.IdealKeeps': WHATEVER THE INPUT: true; the input reads as it did. -/
def idealKeepsSpec : ChangeSpec := { name := "idealKeeps", fn := fun _ => fun
  | [d1, d2, d3] => { results := [.lit (.bool true)], args := [d1, d2, d3] }
  | _ => none }
def idealKeepsRow : OpenClaim := { program := "ytkdkncbccofpdaa", sum := "09feef31da8efc200d09a7fc6d37fbb5633620a1d8a74acdae140a4c0e171245", func := "bursary/bursarylaw15.IdealKeeps", spec := "idealKeeps", inPlace := ["slices.overlaps[bursary/api.Row]"], unfollowed := true, recurses := true, apart := false }
def IdealKeepsSaid : Prop := idealKeepsRow.holds Try.pinned (OpenSpec.ofChange idealKeepsSpec)

/-- ITS FALSE NEIGHBOUR: 'it returns false'. Refute it at one input. -/
def idealKeepsWrong : ChangeSpec := { name := "idealKeeps", fn := fun _ => fun
  | [d1, d2, d3] => { results := [.lit (.bool false)], args := [d1, d2, d3] }
  | _ => none }
def IdealKeepsWrongFalsely : Prop := idealKeepsRow.holds Try.pinned (OpenSpec.ofChange idealKeepsWrong)

/-- 'bursarylaw15.IdealBack': WHATEVER THE INPUT: true; the input reads as it did. -/
def idealBackSpec : ChangeSpec := { name := "idealBack", fn := fun _ => fun
  | [d1, d2, d3] => { results := [.lit (.bool true)], args := [d1, d2, d3] }
  | _ => none }
def idealBackRow : OpenClaim := { program := "ytkdkncbccofpdaa", sum := "09feef31da8efc200d09a7fc6d37fbb5633620a1d8a74acdae140a4c0e171245", func := "bursary/bursarylaw15.IdealBack", spec := "idealBack", inPlace := ["slices.overlaps[bursary/api.Row]"], unfollowed := true, recurses := true, apart := false }
def IdealBackSaid : Prop := idealBackRow.holds Try.pinned (OpenSpec.ofChange idealBackSpec)

/-- ITS FALSE NEIGHBOUR: 'it returns false'. Refute it at one input. -/
def idealBackWrong : ChangeSpec := { name := "idealBack", fn := fun _ => fun
  | [d1, d2, d3] => { results := [.lit (.bool false)], args := [d1, d2, d3] }
  | _ => none }
def IdealBackWrongFalsely : Prop := idealBackRow.holds Try.pinned (OpenSpec.ofChange idealBackWrong)

/-- 'bursarylaw15.IdealAdds': WHATEVER THE INPUT: true; the input reads as it did. -/
def idealAddsSpec : ChangeSpec := { name := "idealAdds", fn := fun _ => fun
  | [d1, d2, d3] => { results := [.lit (.bool true)], args := [d1, d2, d3] }
  | _ => none }
def idealAddsRow : OpenClaim := { program := "ytkdkncbccofpdaa", sum := "09feef31da8efc200d09a7fc6d37fbb5633620a1d8a74acdae140a4c0e171245", func := "bursary/bursarylaw15.IdealAdds", spec := "idealAdds", inPlace := ["slices.overlaps[bursary/api.Row]"], unfollowed := true, recurses := true, apart := false }
def IdealAddsSaid : Prop := idealAddsRow.holds Try.pinned (OpenSpec.ofChange idealAddsSpec)

/-- ITS FALSE NEIGHBOUR: 'it returns false'. Refute it at one input. -/
def idealAddsWrong : ChangeSpec := { name := "idealAdds", fn := fun _ => fun
  | [d1, d2, d3] => { results := [.lit (.bool false)], args := [d1, d2, d3] }
  | _ => none }
def IdealAddsWrongFalsely : Prop := idealAddsRow.holds Try.pinned (OpenSpec.ofChange idealAddsWrong)

/- THE SECOND FORM. 'bulk': how many values and letters a reading holds, each counted each time it is reached (what is shared counts as often as it is met; a slice's spare places count too). A statement '..UptoSaid' is the law's where the arguments, and the package variables that the reading takes, are together of bulk at most 1048576: NARROWER than '..Said'. Prove '..Said' where nothing that the law and all that it calls make is longer than what came in: it says more and counts as full. Else prove '..UptoSaid'. A law counts once. -/
mutual
def uptoBulk {H : Type} : DataW H → Nat
  | .lit (.string bytes) => bytes.length + 1
  | .lit _ => 1
  | .nil => 1
  | .ptr d => uptoBulk d + 1
  | .slice elems spare => uptoBulkAll elems + uptoBulkAll spare + 1
  | .agg parts => uptoBulkAll parts + 1
  | .iface _ d => uptoBulk d + 1
  | .map entries => uptoBulkEntries entries + 1
  | .held _ => 1
def uptoBulkAll {H : Type} : List (DataW H) → Nat
  | [] => 0
  | d :: r => uptoBulk d + uptoBulkAll r
def uptoBulkEntries {H : Type} : List (Lit × DataW H) → Nat
  | [] => 0
  | x :: r => uptoBulkEntry x + uptoBulkEntries r
def uptoBulkEntry {H : Type} : Lit × DataW H → Nat
  | (.string bytes, d) => bytes.length + uptoBulk d + 1
  | (_, d) => uptoBulk d + 1
 end
def uptoSmall : (H : Type) → List (DataW H) → Bool := fun _ ds => decide (uptoBulkAll ds ≤ 1048576)
def OpenSpec.upto (s : _root_.Go.ChangeSpec) : _root_.Go.OpenSpec := { _root_.Go.OpenSpec.ofChange s with cond := some uptoSmall }

/-- 'bursarylaw15.IdealDoes', WHERE WHAT IT READS IS OF BULK AT MOST 1048576: true; the input reads as it did. -/
def idealDoesUptoRow : OpenClaim := { program := "ytkdkncbccofpdaa", sum := "09feef31da8efc200d09a7fc6d37fbb5633620a1d8a74acdae140a4c0e171245", func := "bursary/bursarylaw15.IdealDoes", spec := "idealDoes", inPlace := ["slices.overlaps[bursary/api.Row]"], unfollowed := true, recurses := true, apart := false, narrowed := true }
def IdealDoesUptoSaid : Prop := idealDoesUptoRow.holds Try.pinned (OpenSpec.upto idealDoesSpec)

/-- 'bursarylaw15.IdealSteps', WHERE WHAT IT READS IS OF BULK AT MOST 1048576: true; the input reads as it did. -/
def idealStepsUptoRow : OpenClaim := { program := "ytkdkncbccofpdaa", sum := "09feef31da8efc200d09a7fc6d37fbb5633620a1d8a74acdae140a4c0e171245", func := "bursary/bursarylaw15.IdealSteps", spec := "idealSteps", inPlace := ["slices.overlaps[bursary/api.Row]"], unfollowed := true, recurses := true, apart := false, narrowed := true }
def IdealStepsUptoSaid : Prop := idealStepsUptoRow.holds Try.pinned (OpenSpec.upto idealStepsSpec)

/-- 'bursarylaw15.IdealSame', WHERE WHAT IT READS IS OF BULK AT MOST 1048576: true; the input reads as it did. -/
def idealSameUptoRow : OpenClaim := { program := "ytkdkncbccofpdaa", sum := "09feef31da8efc200d09a7fc6d37fbb5633620a1d8a74acdae140a4c0e171245", func := "bursary/bursarylaw15.IdealSame", spec := "idealSame", inPlace := ["slices.overlaps[bursary/api.Row]"], unfollowed := true, recurses := true, apart := false, narrowed := true }
def IdealSameUptoSaid : Prop := idealSameUptoRow.holds Try.pinned (OpenSpec.upto idealSameSpec)

/-- 'bursarylaw15.IdealKeeps', WHERE WHAT IT READS IS OF BULK AT MOST 1048576: true; the input reads as it did. -/
def idealKeepsUptoRow : OpenClaim := { program := "ytkdkncbccofpdaa", sum := "09feef31da8efc200d09a7fc6d37fbb5633620a1d8a74acdae140a4c0e171245", func := "bursary/bursarylaw15.IdealKeeps", spec := "idealKeeps", inPlace := ["slices.overlaps[bursary/api.Row]"], unfollowed := true, recurses := true, apart := false, narrowed := true }
def IdealKeepsUptoSaid : Prop := idealKeepsUptoRow.holds Try.pinned (OpenSpec.upto idealKeepsSpec)

/-- 'bursarylaw15.IdealBack', WHERE WHAT IT READS IS OF BULK AT MOST 1048576: true; the input reads as it did. -/
def idealBackUptoRow : OpenClaim := { program := "ytkdkncbccofpdaa", sum := "09feef31da8efc200d09a7fc6d37fbb5633620a1d8a74acdae140a4c0e171245", func := "bursary/bursarylaw15.IdealBack", spec := "idealBack", inPlace := ["slices.overlaps[bursary/api.Row]"], unfollowed := true, recurses := true, apart := false, narrowed := true }
def IdealBackUptoSaid : Prop := idealBackUptoRow.holds Try.pinned (OpenSpec.upto idealBackSpec)

/-- 'bursarylaw15.IdealAdds', WHERE WHAT IT READS IS OF BULK AT MOST 1048576: true; the input reads as it did. -/
def idealAddsUptoRow : OpenClaim := { program := "ytkdkncbccofpdaa", sum := "09feef31da8efc200d09a7fc6d37fbb5633620a1d8a74acdae140a4c0e171245", func := "bursary/bursarylaw15.IdealAdds", spec := "idealAdds", inPlace := ["slices.overlaps[bursary/api.Row]"], unfollowed := true, recurses := true, apart := false, narrowed := true }
def IdealAddsUptoSaid : Prop := idealAddsUptoRow.holds Try.pinned (OpenSpec.upto idealAddsSpec)

end Rows
end Go.Proofs.Ytkdkncbccofpdaa
