/- A number's four bytes in the other order; nothing of a program is claimed here. -/
import Derived.Test.YthjmmnbfjahamaaDoorBase
import Derived.Test.YthjmmnbfjahamaaDoorCrc
namespace Go.Proofs.YthjmmnbfjahamaaDoor

def revA (v : BitVec 32) : BitVec 32 := ((v >>> 8) &&& 16711935#32) ||| ((v &&& 16711935#32) <<< 8)
def rev (v : BitVec 32) : BitVec 32 := (revA v >>> 16) ||| (revA v <<< 16)

theorem rev_bit (v : BitVec 32) : ∀ i, i < 8 → (rev v).getLsbD i = v.getLsbD (24 + i) ∧ (rev v).getLsbD (8 + i) = v.getLsbD (16 + i) ∧ (rev v).getLsbD (16 + i) = v.getLsbD (8 + i) ∧ (rev v).getLsbD (24 + i) = v.getLsbD i := by
  intro i hi
  have h : i = 0 ∨ i = 1 ∨ i = 2 ∨ i = 3 ∨ i = 4 ∨ i = 5 ∨ i = 6 ∨ i = 7 := by omega
  rcases h with rfl | rfl | rfl | rfl | rfl | rfl | rfl | rfl <;>
    simp [rev, revA]

theorem byte_of (v x : Nat) (a b : Nat) (h : ∀ i, i < 8 → x.testBit (a + i) = v.testBit (b + i)) : UInt8.ofNat (x / 2 ^ a) = UInt8.ofNat (v / 2 ^ b % 256) := by
  apply UInt8.toNat_inj.1
  rw [UInt8.toNat_ofNat', UInt8.toNat_ofNat', Nat.mod_mod]
  apply Nat.eq_of_testBit_eq
  intro i
  show (x / 2 ^ a % 2 ^ 8).testBit i = (v / 2 ^ b % 2 ^ 8).testBit i
  rw [Nat.testBit_mod_two_pow, Nat.testBit_mod_two_pow]
  by_cases hi : i < 8
  · rw [Nat.testBit_div_two_pow, Nat.testBit_div_two_pow, Nat.add_comm i a, Nat.add_comm i b, h i hi]
  · simp [hi]

theorem be_rev (v : BitVec 32) : be 4 (rev v).toNat = le4 v := by
  have h := rev_bit v
  have e0 := byte_of v.toNat (rev v).toNat 24 0 (fun i hi => by have := (h i hi).2.2.2; simpa [BitVec.getLsbD] using this)
  have e1 := byte_of v.toNat (rev v).toNat 16 8 (fun i hi => (h i hi).2.2.1)
  have e2 := byte_of v.toNat (rev v).toNat 8 16 (fun i hi => (h i hi).2.1)
  have e3 := byte_of v.toNat (rev v).toNat 0 24 (fun i hi => by have := (h i hi).1; simpa [BitVec.getLsbD] using this)
  have a1 : (v >>> 8).toNat = v.toNat / 2 ^ 8 := by rw [BitVec.toNat_ushiftRight, Nat.shiftRight_eq_div_pow]
  have a2 : (v >>> 8 >>> 8).toNat = v.toNat / 2 ^ 16 := by rw [BitVec.toNat_ushiftRight, a1, Nat.shiftRight_eq_div_pow, Nat.div_div_eq_div_mul]
  have a3 : (v >>> 8 >>> 8 >>> 8).toNat = v.toNat / 2 ^ 24 := by rw [BitVec.toNat_ushiftRight, a2, Nat.shiftRight_eq_div_pow, Nat.div_div_eq_div_mul]
  simp only [le4, les, a1, a2, a3, be]
  rw [Nat.pow_zero, Nat.div_one] at e0 e3
  rw [← e0, ← e1, ← e2, ← e3]
  simp only [Nat.div_div_eq_div_mul]
  rfl

end Go.Proofs.YthjmmnbfjahamaaDoor
