/- The sum as bits are divided: plain mathematics; nothing of a program is claimed here. -/
import Derived.Test.YthjmmnbfjahamaaDoorCrc
namespace Go.Proofs.YthjmmnbfjahamaaDoor

def bits8 (x : UInt8) : List Bool := (List.range 8).map fun k => x.toNat.testBit k
def mbits (l : List UInt8) : List Bool := l.flatMap bits8
theorem bits8_len (x : UInt8) : (bits8 x).length = 8 := by simp [bits8]
theorem mbits_len : ∀ l : List UInt8, (mbits l).length = 8 * l.length
  | [] => rfl
  | x :: l => by
    have := mbits_len l
    unfold mbits at this ⊢
    rw [List.flatMap_cons, List.length_append, bits8_len, this, List.length_cons]; omega
theorem mbits_snoc (l : List UInt8) (x : UInt8) : mbits (l ++ [x]) = mbits l ++ bits8 x := by simp [mbits]
theorem bits8_step (x : UInt8) (k : Nat) (h : k < 8) : (bits8 x).take (k + 1) = (bits8 x).take k ++ [x.toNat.testBit k] := by
  rw [List.take_add_one]
  simp [bits8, h]

/-- a bit goes in -/
def bup (r : BitVec 32) (m : Bool) : BitVec 32 := sh (r ^^^ (if m then 1#32 else 0#32))

theorem sh_split (v : BitVec 32) (w : BitVec 32) : sh (v ^^^ w) = sh v ^^^ sh w := sh_xor v w

/-- so many bits of a number, one behind the other -/
def low : Nat → Nat → List Bool
  | 0, _ => []
  | k + 1, v => decide (v % 2 = 1) :: low k (v / 2)

theorem one_bit (v : Nat) : (if decide (v % 2 = 1) then 1#32 else 0#32) = BitVec.ofNat 32 (v % 2) := by
  have : v % 2 = 0 ∨ v % 2 = 1 := by omega
  rcases this with h | h <;> rw [h] <;> rfl

theorem fold_low : ∀ (k v : Nat) (r : BitVec 32), v < 2 ^ k → k ≤ 32 → (low k v).foldl bup r = shn k (r ^^^ BitVec.ofNat 32 v)
  | 0, v, r, h, _ => by
    have : v = 0 := by simpa using h
    subst this
    simp [low, shn]
  | k + 1, v, r, h, hk => by
    have h2 : v / 2 < 2 ^ k := by rw [Nat.div_lt_iff_lt_mul (by decide)]; rwa [Nat.pow_succ] at h
    have hlt : v < 2 ^ 32 := Nat.lt_of_lt_of_le h (Nat.pow_le_pow_right (by decide) hk)
    rw [low, List.foldl_cons, fold_low k (v / 2) _ h2 (by omega), shn]
    congr 1
    rw [bup, one_bit, sh_xor, sh_xor, BitVec.xor_assoc]
    congr 1
    have e := split_low 1 (BitVec.ofNat 32 v)
    rw [BitVec.toNat_ofNat, Nat.mod_eq_of_lt hlt] at e
    rw [e, sh_xor]
    have e3 : (BitVec.ofNat 32 v) >>> 1 = BitVec.ofNat 32 (v / 2) := by
      apply BitVec.eq_of_toNat_eq
      rw [BitVec.toNat_ushiftRight, BitVec.toNat_ofNat, BitVec.toNat_ofNat, Nat.mod_eq_of_lt hlt, Nat.shiftRight_eq_div_pow, Nat.mod_eq_of_lt (by omega)]
    rw [e3, sh_shl 0 _ (by rw [BitVec.toNat_ofNat]; have : v / 2 < 2 ^ 31 := Nat.lt_of_lt_of_le h2 (Nat.pow_le_pow_right (by decide) (by omega)); rw [Nat.mod_eq_of_lt (by omega)]; exact this)]
    simp

theorem low_bits8 (x : UInt8) : low 8 x.toNat = bits8 x := by
  simp [low, bits8, List.range, List.range.loop, Nat.testBit_eq_decide_div_mod_eq, Nat.div_div_eq_div_mul]

theorem fold_bits8 (x : UInt8) (r : BitVec 32) : (bits8 x).foldl bup r = byt r x := by
  rw [← low_bits8, fold_low 8 x.toNat r (by have := x.toNat_lt; omega) (by decide), byt]

theorem fold_mbits : ∀ (l : List UInt8) (r : BitVec 32), (mbits l).foldl bup r = upd r l
  | [], _ => rfl
  | x :: l, r => by
    have ih := fold_mbits l (byt r x)
    unfold mbits at ih ⊢
    rw [List.flatMap_cons, List.foldl_append, fold_bits8, ih, upd_cons]

/-- the row that is divided: the bits, 32 noughts behind, the first 32 turned -/
def mrow (l : List UInt8) : List Bool := mbits l ++ List.replicate 32 false
theorem mrow_len (l : List UInt8) : (mrow l).length = 8 * l.length + 32 := by rw [mrow, List.length_append, mbits_len, List.length_replicate]

/-- the first i bits have gone in -/
def stOf (l : List UInt8) (i : Nat) : BitVec 32 := ((mbits l).take i).foldl bup (~~~(0#32))
theorem stOf_end (l : List UInt8) : ~~~(stOf l (8 * l.length)) = crc l := by
  unfold stOf
  rw [List.take_of_length_le (by rw [mbits_len]; omega), fold_mbits]
  simp [crc, join]

/-- what stands in the row when i bits are away -/
def RowAt (l : List UInt8) (i : Nat) (R : List Bool) : Prop := R.length = 8 * l.length + 32 ∧ ∀ j, i ≤ j → j < 8 * l.length + 32 → R[j]? = some ((stOf l i).getLsbD (j - i) ^^ (mrow l).getD j false)

def flips (R : List Bool) (k : Nat) : List Bool := (R.take k).map (!·) ++ R.drop k
theorem flips_len (R : List Bool) (k : Nat) : (flips R k).length = R.length := by simp [flips]; omega
theorem flips_step {R : List Bool} {k : Nat} {b : Bool} (hb : R[k]? = some b) : (flips R k)[k]? = some b ∧ (flips R k).set k (!b) = flips R (k + 1) := by
  have hk : k < R.length := (List.getElem?_eq_some_iff.1 hb).1
  have hl : ((R.take k).map (!·)).length = k := by simp; omega
  constructor
  · rw [flips, List.getElem?_append_right (by omega), hl, Nat.sub_self, List.getElem?_drop, Nat.add_zero, hb]
  · rw [flips, flips, List.take_add_one, hb, List.drop_eq_getElem_cons hk, List.set_append_right _ _ (by omega), hl, Nat.sub_self, List.set_cons_zero]
    simp

theorem ones_bit (j : Nat) : (~~~(0#32)).getLsbD j = decide (j < 32) := by
  by_cases h : j < 32
  · rw [decide_eq_true h]
    exact (show ∀ i, i < 32 → (~~~(0#32)).getLsbD i = true by decide) j h
  · rw [BitVec.getLsbD_of_ge _ _ (by omega)]; simp [h]

theorem rowAt_start (l : List UInt8) : RowAt l 0 (flips (mrow l) 32) := by
  refine ⟨by rw [flips_len, mrow_len], fun j _ hj => ?_⟩
  have hg : (mrow l)[j]? = some ((mrow l).getD j false) := by
    rw [List.getD_eq_getElem?_getD, List.getElem?_eq_getElem (by rw [mrow_len]; exact hj)]; rfl
  have hs : stOf l 0 = ~~~(0#32) := rfl
  rw [hs, Nat.sub_zero, ones_bit]
  by_cases h : j < 32
  · rw [flips, List.getElem?_append_left (by simp [mrow_len]; omega), List.getElem?_map, List.getElem?_take, if_pos h, hg]
    simp [h]
  · have hl : ((mrow l).take 32).length = 32 := by rw [List.length_take, mrow_len]; omega
    rw [flips, List.getElem?_append_right (by rw [List.length_map, hl]; omega), List.length_map, hl, List.getElem?_drop, show 32 + (j - 32) = j by omega, hg]
    simp [h]

theorem stOf_step {l : List UInt8} {i : Nat} (hi : i < 8 * l.length) : stOf l (i + 1) = bup (stOf l i) ((mrow l).getD i false) := by
  have hm : (mbits l)[i]? = some ((mrow l).getD i false) := by
    rw [mrow, List.getD_eq_getElem?_getD, List.getElem?_append_left (by rw [mbits_len]; exact hi), List.getElem?_eq_getElem (by rw [mbits_len]; exact hi)]; rfl
  unfold stOf
  rw [List.take_add_one, hm]
  simp

theorem bup_bit (r : BitVec 32) (m : Bool) (t : Nat) : (bup r m).getLsbD t = (r.getLsbD (t + 1) ^^ ((r.getLsbD 0 ^^ m) && poly.getLsbD t)) := by
  unfold bup sh
  have h0 : (r ^^^ (if m then 1#32 else 0#32)).getLsbD 0 = (r.getLsbD 0 ^^ m) := by cases m <;> simp
  have h1 : (r ^^^ (if m then 1#32 else 0#32)).getLsbD (1 + t) = r.getLsbD (t + 1) := by
    have e : (if m then 1#32 else 0#32).getLsbD (1 + t) = false := by
      cases m
      · simp
      · simp
    rw [BitVec.getLsbD_xor, e, Nat.add_comm]; simp
  rw [h0, BitVec.getLsbD_xor, BitVec.getLsbD_ushiftRight, h1]
  cases (r.getLsbD 0 ^^ m) <;> simp

/-- the first bit is none: it goes -/
theorem rowAt_skip {l : List UInt8} {i : Nat} {R : List Bool} (h : RowAt l i R) (hi : i < 8 * l.length) (h0 : R[i]? = some false) : RowAt l (i + 1) R := by
  refine ⟨h.1, fun j hj hj2 => ?_⟩
  have hb := h.2 i (Nat.le_refl _) (by omega)
  rw [h0, Nat.sub_self] at hb
  rw [h.2 j (by omega) hj2, stOf_step hi, bup_bit, ← Option.some.inj hb, show j - (i + 1) + 1 = j - i by omega]
  simp

/-- .. the polynomial is taken away: k of its bits -/
def Taken (l : List UInt8) (i k : Nat) (R R3 : List Bool) : Prop := R3.length = 8 * l.length + 32 ∧ ∀ j, i < j → j < 8 * l.length + 32 → R3[j]? = R[j]?.map (· ^^ (decide (j - (i + 1) < k) && poly.getLsbD (j - (i + 1))))

theorem taken_start {l : List UInt8} {i : Nat} {R : List Bool} (h : R.length = 8 * l.length + 32) : Taken l i 0 R (R.set i false) := by
  refine ⟨by simpa using h, fun j hj _ => ?_⟩
  rw [List.getElem?_set_ne (by omega)]
  simp
theorem taken_get {l : List UInt8} {i k : Nat} {R R3 : List Bool} (h : Taken l i k R R3) (hi : i < 8 * l.length) (hk : k < 32) : ∃ b, R3[i + 1 + k]? = some b := ⟨_, List.getElem?_eq_getElem (by rw [h.1]; omega)⟩
theorem taken_yes {l : List UInt8} {i k : Nat} {R R3 : List Bool} {b : Bool} (h : Taken l i k R R3) (hb : R3[i + 1 + k]? = some b) (hp : poly.getLsbD k = true) : Taken l i (k + 1) R (R3.set (i + 1 + k) (!b)) := by
  refine ⟨by simpa using h.1, fun j hj hj2 => ?_⟩
  have hx := h.2 j hj hj2
  by_cases e : j = i + 1 + k
  · subst e
    rw [List.getElem?_set_self (List.getElem?_eq_some_iff.1 hb).1]
    rw [hb] at hx
    rw [show i + 1 + k - (i + 1) = k by omega] at hx ⊢
    cases hr : R[i + 1 + k]? with
    | none => rw [hr] at hx; cases hx
    | some c =>
      rw [hr] at hx
      simp at hx
      simp [hp, hx]
  · rw [List.getElem?_set_ne (by omega), hx]
    have e2 : decide (j - (i + 1) < k + 1) = decide (j - (i + 1) < k) := by
      rw [decide_eq_decide]; omega
    rw [e2]
theorem taken_no {l : List UInt8} {i k : Nat} {R R3 : List Bool} (h : Taken l i k R R3) (hp : poly.getLsbD k = false) : Taken l i (k + 1) R R3 := by
  refine ⟨h.1, fun j hj hj2 => ?_⟩
  rw [h.2 j hj hj2]
  by_cases e : j - (i + 1) = k
  · rw [e, hp]; simp
  · have e2 : decide (j - (i + 1) < k + 1) = decide (j - (i + 1) < k) := by
      rw [decide_eq_decide]; omega
    rw [e2]
theorem rowAt_take {l : List UInt8} {i : Nat} {R R3 : List Bool} (h : RowAt l i R) (hi : i < 8 * l.length) (h0 : R[i]? = some true) (ht : Taken l i 32 R R3) : RowAt l (i + 1) R3 := by
  refine ⟨ht.1, fun j hj hj2 => ?_⟩
  have hb := h.2 i (Nat.le_refl _) (by omega)
  rw [h0, Nat.sub_self] at hb
  rw [ht.2 j (by omega) hj2, h.2 j (by omega) hj2, stOf_step hi, bup_bit, ← Option.some.inj hb, show j - (i + 1) + 1 = j - i by omega, Option.map_some, Bool.true_and]
  congr 1
  by_cases hlt : j - (i + 1) < 32
  · rw [decide_eq_true hlt, Bool.true_and]
    generalize (stOf l i).getLsbD (j - i) = x
    generalize (mrow l).getD j false = y
    generalize poly.getLsbD (j - (i + 1)) = z
    cases x <;> cases y <;> cases z <;> rfl
  · rw [BitVec.getLsbD_of_ge poly _ (by omega)]; simp

/-- the bits that are left, turned, the first one as the lowest -/
def resOf (s : BitVec 32) (k : Nat) : BitVec 32 := BitVec.ofNat 32 ((~~~s).toNat % 2 ^ k)
theorem res_zero (s : BitVec 32) : resOf s 0 = 0#32 := by simp [resOf, Nat.mod_one]
theorem res_end (s : BitVec 32) : resOf s 32 = ~~~s := by
  unfold resOf
  apply BitVec.eq_of_toNat_eq
  rw [BitVec.toNat_ofNat, Nat.mod_mod, Nat.mod_eq_of_lt (~~~s).isLt]
theorem res_bit (s : BitVec 32) (k j : Nat) : (resOf s k).getLsbD j = (decide (j < k) && (~~~s).getLsbD j) := by
  unfold resOf
  rw [BitVec.getLsbD_ofNat, Nat.testBit_mod_two_pow]
  by_cases h : j < 32
  · simp only [h, decide_true, Bool.true_and]; rfl
  · rw [BitVec.getLsbD_of_ge (~~~s) j (by omega)]; simp [h]
theorem res_yes {s : BitVec 32} {k : Nat} (hk : k < 32) (h : s.getLsbD k = false) : resOf s (k + 1) = resOf s k ||| (1#32 <<< k) := by
  apply BitVec.eq_of_getLsbD_eq
  intro j hj
  rw [BitVec.getLsbD_or, res_bit, res_bit, BitVec.getLsbD_not, BitVec.getLsbD_shiftLeft]
  by_cases e : j = k
  · subst e
    rw [h]
    simp [hj]
  · by_cases hlt : j < k
    · simp [hlt, show j < k + 1 by omega]
    · simp [hlt, show ¬ j < k + 1 by omega]; omega
theorem res_no {s : BitVec 32} {k : Nat} (h : s.getLsbD k = true) : resOf s (k + 1) = resOf s k := by
  apply BitVec.eq_of_getLsbD_eq
  intro j hj
  rw [res_bit, res_bit]
  by_cases e : j = k
  · subst e
    simp [hj, h]
  · by_cases hlt : j < k
    · simp [hlt, show j < k + 1 by omega]
    · simp [hlt, show ¬ j < k + 1 by omega]

/-- the last 32 bits of the row -/
theorem rowAt_end {l : List UInt8} {R : List Bool} (h : RowAt l (8 * l.length) R) {k : Nat} (hk : k < 32) : R[8 * l.length + k]? = some ((stOf l (8 * l.length)).getLsbD k) := by
  rw [h.2 _ (by omega) (by omega), Nat.add_sub_cancel_left, mrow, List.getD_eq_getElem?_getD, List.getElem?_append_right (by rw [mbits_len]; omega), mbits_len, Nat.add_sub_cancel_left, List.getElem?_replicate]
  simp [hk]

theorem poly_bits : ∀ k, k < 32 → ((517762881 : Nat) >>> (31 - k)).testBit 0 = poly.getLsbD k := by decide

end Go.Proofs.YthjmmnbfjahamaaDoor
