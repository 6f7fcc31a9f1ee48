/- mustBe of row, with one need and with all three. -/
import Derived.Test.YtaiepdhmlmnggaaYMust
namespace Go.Proofs.Ytaiepdhmlmnggaa
open Go.RowKit

theorem fn_eval (k : Nat) : (Value.func (.func k) #[] #[]) = Value.func (.func k) #[] #[] := rfl
def fnV (k : Nat) : Value := .func (.func k) #[] #[]

theorem rowE_of {bs : List BdD} {r : RowD} (h1 : keyE bs r.key = 0) (h2 : noteE r = 0) : rowE bs r = boundE bs r := by unfold rowE; rw [if_pos h1, if_pos h2]
theorem rowE_key {bs : List BdD} {r : RowD} (h1 : keyE bs r.key ≠ 0) : rowE bs r = 151 := by unfold rowE; rw [if_neg h1]
theorem rowE_note {bs : List BdD} {r : RowD} (h1 : keyE bs r.key = 0) (h2 : noteE r ≠ 0) : rowE bs r = 3 := by unfold rowE; rw [if_pos h1, if_neg h2]
theorem keyE_ne {bs : List BdD} {k : KeyD} (h : keyE bs k ≠ 0) : keyE bs k = 151 := by
  rcases keyE_or bs k with ⟨_, _, e⟩ | ⟨_, e⟩
  · exact absurd e h
  · exact e
theorem noteE_ne {r : RowD} (h : noteE r ≠ 0) : noteE r = 3 := by
  rcases noteE_or r with ⟨_, e⟩ | ⟨_, e⟩
  · exact absurd e h
  · exact e

end Go.Proofs.Ytaiepdhmlmnggaa
