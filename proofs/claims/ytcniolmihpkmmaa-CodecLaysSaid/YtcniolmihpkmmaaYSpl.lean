/- spliced of row: a copy of a list, of whose rows some have given way to others. -/
import Derived.Test.YtcniolmihpkmmaaYOwn
namespace Go.Proofs.Ytcniolmihpkmmaa
open Go.RowKit

theorem grown_belowN {w w' : World} {q : Option Nat} {B : Nat} (h : w.grownBy w' q) (hB : B ≤ w.heap.size) (hq : ∀ k, q = some k → B ≤ k) : Below B w w' :=
  ⟨h.os, h.tape, h.output, h.size, fun k hk => h.block k (by omega) (fun e => by have := hq k e.symm; omega)⟩

end Go.Proofs.Ytcniolmihpkmmaa
