/- Text and Parse. -/
import Derived.Test.YtbgpppbcffpdbaaGreatDoorMSup
namespace Go.Proofs.YtbgpppbcffpdbaaGreatDoor
open Go.RowKit

def texL : List ByteArray := [⟨#[45]⟩, ⟨#[73, 83]⟩, ⟨#[73, 88]⟩, ⟨#[83]⟩, ⟨#[83, 73, 88]⟩, ⟨#[88]⟩, ⟨#[69]⟩]
def tx (m : Nat) : ByteArray := texL.getD m ⟨#[]⟩
def isT (m : Nat) (s : ByteArray) : Bool := (tx m).toList == s.toList

def txC : List Value := [.string (tx 0), .string (tx 1), .string (tx 2), .string (tx 3), .string (tx 4), .string (tx 5), .string (tx 6)]
theorem seven {k : Nat} (h : k < 7) : k = 0 ∨ k = 1 ∨ k = 2 ∨ k = 3 ∨ k = 4 ∨ k = 5 ∨ k = 6 := by omega

def txA : Array Value := #[.string (tx 0), .string (tx 1), .string (tx 2), .string (tx 3), .string (tx 4), .string (tx 5), .string (tx 6)]
end Go.Proofs.YtbgpppbcffpdbaaGreatDoor
