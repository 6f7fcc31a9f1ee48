/- Plain mathematics of the sum (CRC-32C): its steps add without carrying; nothing of a program is claimed here. -/
namespace Go.Proofs.YthjmmnbfjahamaaDoor

def poly : BitVec 32 := 0x82F63B78#32
/-- one step of the division -/
def sh (r : BitVec 32) : BitVec 32 := (r >>> 1) ^^^ (if r.getLsbD 0 then poly else 0#32)

theorem xor_swap {n : Nat} (a b c d : BitVec n) : (a ^^^ b) ^^^ (c ^^^ d) = (a ^^^ c) ^^^ (b ^^^ d) := by
  ext i hi; simp only [BitVec.getElem_xor]; cases a[i] <;> cases b[i] <;> cases c[i] <;> cases d[i] <;> rfl

theorem sh_xor (a b : BitVec 32) : sh (a ^^^ b) = sh a ^^^ sh b := by
  unfold sh
  rw [BitVec.ushiftRight_xor_distrib, BitVec.getLsbD_xor, xor_swap]
  cases a.getLsbD 0 <;> cases b.getLsbD 0 <;> simp

theorem sh_zero : sh 0#32 = 0#32 := by decide

theorem sh_inj0 {a : BitVec 32} (h : sh a = 0#32) : a = 0#32 := by
  unfold sh at h
  cases hb : a.getLsbD 0 with
  | true =>
    rw [hb] at h
    have := congrArg (·.getLsbD 31) h
    simp [poly] at this
  | false =>
    rw [hb] at h
    simp only [Bool.false_eq_true, if_false, BitVec.xor_zero] at h
    apply BitVec.eq_of_getLsbD_eq
    intro i hi
    match i with
    | 0 => simpa using hb
    | i + 1 =>
      have := congrArg (·.getLsbD i) h
      simpa [Nat.add_comm] using this

theorem xor_eq_zero {n : Nat} {a b : BitVec n} (h : a ^^^ b = 0#n) : a = b := by
  have : a ^^^ b ^^^ b = 0#n ^^^ b := by rw [h]
  simpa [BitVec.xor_assoc] using this

theorem sh_inj {a b : BitVec 32} (h : sh a = sh b) : a = b :=
  xor_eq_zero (sh_inj0 (by rw [sh_xor, h, BitVec.xor_self]))

def shn : Nat → BitVec 32 → BitVec 32
  | 0, r => r
  | k + 1, r => shn k (sh r)

theorem shn_xor : ∀ (k : Nat) (a b : BitVec 32), shn k (a ^^^ b) = shn k a ^^^ shn k b
  | 0, _, _ => rfl
  | k + 1, a, b => by simp only [shn]; rw [sh_xor, shn_xor k]
theorem shn_inj : ∀ (k : Nat) {a b : BitVec 32}, shn k a = shn k b → a = b
  | 0, _, _, h => h
  | k + 1, _, _, h => sh_inj (shn_inj k h)
theorem shn_zero : ∀ k, shn k 0#32 = 0#32
  | 0 => rfl
  | k + 1 => by rw [shn, sh_zero, shn_zero k]
theorem shn_add : ∀ (j k : Nat) (r : BitVec 32), shn (j + k) r = shn k (shn j r)
  | 0, k, r => by rw [Nat.zero_add]; rfl
  | j + 1, k, r => by rw [Nat.add_right_comm]; simp only [shn]; rw [shn_add j k]

theorem sh_shl (k : Nat) (v : BitVec 32) (h : v.toNat < 2 ^ (31 - k)) : sh (v <<< (k + 1)) = v <<< k := by
  unfold sh
  have h0 : (v <<< (k + 1)).getLsbD 0 = false := by simp
  rw [h0]
  simp only [Bool.false_eq_true, if_false, BitVec.xor_zero]
  apply BitVec.eq_of_getLsbD_eq
  intro i hi
  simp only [BitVec.getLsbD_ushiftRight, BitVec.getLsbD_shiftLeft]
  by_cases h1 : 1 + i < 32
  · have e : 1 + i - (k + 1) = i - k := by omega
    rw [e]
    simp only [h1, hi, decide_true, Bool.true_and]
    congr 1
    simp; omega
  · have : i = 31 := by omega
    subst this
    have hz : v.getLsbD (31 - k) = false := Nat.testBit_lt_two_pow h
    simp [hz]

theorem shn_shl : ∀ (k : Nat) (v : BitVec 32), v.toNat < 2 ^ (32 - k) → k ≤ 32 → shn k (v <<< k) = v
  | 0, v, _, _ => by simp [shn]
  | k + 1, v, h, hk => by
    simp only [shn]
    rw [sh_shl k v (by rw [show 31 - k = 32 - (k + 1) by omega]; exact h)]
    exact shn_shl k v (Nat.lt_of_lt_of_le h (Nat.pow_le_pow_right (by omega) (by omega))) (by omega)

/-- a number is its low bits and the rest -/
theorem split_low (k : Nat) (r : BitVec 32) : r = (BitVec.ofNat 32 (r.toNat % 2 ^ k)) ^^^ ((r >>> k) <<< k) := by
  apply BitVec.eq_of_getLsbD_eq
  intro i hi
  simp only [BitVec.getLsbD_xor, BitVec.getLsbD_shiftLeft, BitVec.getLsbD_ushiftRight, BitVec.getLsbD_ofNat, Nat.testBit_mod_two_pow, hi, decide_true, Bool.true_and]
  by_cases h : i < k
  · simp [h, BitVec.getLsbD]
  · rw [show k + (i - k) = i by omega]; simp [h]

theorem shr_lt (k : Nat) (r : BitVec 32) (hk : k ≤ 32) : (r >>> k).toNat < 2 ^ (32 - k) := by
  rw [BitVec.toNat_ushiftRight, Nat.shiftRight_eq_div_pow]
  have := r.isLt
  rw [Nat.div_lt_iff_lt_mul (Nat.two_pow_pos k), ← Nat.pow_add]
  rwa [show 32 - k + k = 32 by omega]

theorem shn_split (k : Nat) (r : BitVec 32) (hk : k ≤ 32) : shn k r = shn k (BitVec.ofNat 32 (r.toNat % 2 ^ k)) ^^^ (r >>> k) := by
  conv => lhs; rw [split_low k r]
  rw [shn_xor, shn_shl k _ (shr_lt k r hk) hk]

/-- what four steps add for the four bits that they push out -/
def tabL : List Nat := [0, 274646895, 549293790, 820201905, 1098587580, 1361435347, 1640403810, 1905808397, 2197175160, 2460548119, 2722870694, 2987750089, 3280807620, 3553878443, 3811616794, 4084100981]
def tab (i : Nat) : Nat := tabL.getD i 0

theorem tab_eq : ∀ i, i < 16 → BitVec.ofNat 32 (tab i) = shn 4 (BitVec.ofNat 32 i) := by decide
theorem tab_lt : ∀ i, i < 16 → tab i < 4294967296 := by decide

def nib (r : BitVec 32) : BitVec 32 := (r >>> 4) ^^^ BitVec.ofNat 32 (tab (r.toNat % 16))
theorem nib_eq (r : BitVec 32) : nib r = shn 4 r := by
  rw [shn_split 4 r (by decide), nib, tab_eq _ (Nat.mod_lt _ (by decide)), BitVec.xor_comm]

/-- a byte goes in -/
def byt (r : BitVec 32) (x : UInt8) : BitVec 32 := shn 8 (r ^^^ BitVec.ofNat 32 x.toNat)
theorem byt_nib (r : BitVec 32) (x : UInt8) : nib (nib (r ^^^ BitVec.ofNat 32 x.toNat)) = byt r x := by
  rw [nib_eq, nib_eq, byt, shn_add 4 4]

def upd (r : BitVec 32) (l : List UInt8) : BitVec 32 := l.foldl byt r
theorem upd_append (r : BitVec 32) (a b : List UInt8) : upd r (a ++ b) = upd (upd r a) b := List.foldl_append
theorem upd_cons (r : BitVec 32) (x : UInt8) (l : List UInt8) : upd r (x :: l) = upd (byt r x) l := rfl
theorem upd_nil (r : BitVec 32) : upd r [] = r := rfl

/-- the sum of bytes that have the sum s, with l behind them -/
def join (s : BitVec 32) (l : List UInt8) : BitVec 32 := ~~~(upd (~~~s) l)
def crc (l : List UInt8) : BitVec 32 := join 0#32 l

theorem join_nil (s : BitVec 32) : join s [] = s := by simp [join, upd_nil]
theorem join_append (s : BitVec 32) (a b : List UInt8) : join s (a ++ b) = join (join s a) b := by
  unfold join; rw [upd_append]; simp
theorem crc_append (a b : List UInt8) : crc (a ++ b) = join (crc a) b := join_append _ _ _

theorem ofNat_xor8 (x y : UInt8) : BitVec.ofNat 32 (x ^^^ y).toNat = BitVec.ofNat 32 x.toNat ^^^ BitVec.ofNat 32 y.toNat := by
  rw [UInt8.toNat_xor]
  apply BitVec.eq_of_getLsbD_eq
  intro i hi
  simp [hi]

theorem byt_xor (r s : BitVec 32) (x y : UInt8) : byt (r ^^^ s) (x ^^^ y) = byt r x ^^^ byt s y := by
  unfold byt
  rw [ofNat_xor8, xor_swap, shn_xor]

theorem upd_zip : ∀ (r s : BitVec 32) (a b : List UInt8), a.length = b.length → upd (r ^^^ s) (List.zipWith (· ^^^ ·) a b) = upd r a ^^^ upd s b
  | r, s, [], [], _ => rfl
  | r, s, x :: a, y :: b, h => by
    simp only [List.zipWith_cons_cons, upd_cons]
    rw [byt_xor]
    exact upd_zip _ _ a b (by simpa using h)

def xor3 (a b c : List UInt8) : List UInt8 := List.zipWith (· ^^^ ·) (List.zipWith (· ^^^ ·) a b) c

/-- of three rows of one length -/
theorem crc_xor3 (a b c : List UInt8) (h1 : a.length = b.length) (h2 : a.length = c.length) : crc (xor3 a b c) = crc a ^^^ crc b ^^^ crc c := by
  unfold crc join
  have e : (~~~(0#32)) = (~~~(0#32)) ^^^ (~~~(0#32)) ^^^ (~~~(0#32)) := by decide
  conv => lhs; rw [e]
  rw [xor3, upd_zip _ _ _ _ (by simp; omega), upd_zip _ _ _ _ h1]
  generalize upd _ a = x
  generalize upd _ b = y
  generalize upd _ c = z
  ext i hi
  simp only [BitVec.getElem_xor, BitVec.getElem_not]
  cases x[i] <;> cases y[i] <;> cases z[i] <;> rfl

theorem byt_inj {r s : BitVec 32} {x : UInt8} (h : byt r x = byt s x) : r = s := by
  have h1 := shn_inj 8 h
  have : r ^^^ s = 0#32 := by
    have e : (r ^^^ BitVec.ofNat 32 x.toNat) ^^^ (s ^^^ BitVec.ofNat 32 x.toNat) = 0#32 := by rw [h1, BitVec.xor_self]
    rw [xor_swap] at e; simpa using e
  exact xor_eq_zero this
theorem upd_inj : ∀ (l : List UInt8) {r s : BitVec 32}, upd r l = upd s l → r = s
  | [], _, _, h => h
  | _ :: l, _, _, h => byt_inj (upd_inj l h)

/-- so many low bytes of a number, the lowest first -/
def les : Nat → BitVec 32 → List UInt8
  | 0, _ => []
  | k + 1, v => UInt8.ofNat (v.toNat % 256) :: les k (v >>> 8)
def le4 (v : BitVec 32) : List UInt8 := les 4 v
theorem length_les : ∀ k v, (les k v).length = k
  | 0, _ => rfl
  | k + 1, v => by simp [les, length_les k]

theorem upd_les : ∀ (k : Nat) (r v : BitVec 32), v.toNat < 2 ^ (8 * k) → upd r (les k v) = shn (8 * k) (r ^^^ v)
  | 0, r, v, h => by
    have : v = 0#32 := BitVec.eq_of_toNat_eq (by simpa using h)
    subst this
    simp [les, upd_nil, shn]
  | k + 1, r, v, h => by
    rw [les, upd_cons, upd_les k]
    · have e1 : (UInt8.ofNat (v.toNat % 256)).toNat = v.toNat % 256 := by simp
      rw [byt, e1, show 8 * (k + 1) = 8 + 8 * k by omega, shn_add 8]
      congr 1
      rw [shn_xor, shn_xor, BitVec.xor_assoc]
      congr 1
      exact (shn_split 8 v (by decide)).symm
    · rw [BitVec.toNat_ushiftRight, Nat.shiftRight_eq_div_pow, Nat.div_lt_iff_lt_mul (by decide), ← Nat.pow_add]
      rwa [show 8 * k + 8 = 8 * (k + 1) by omega]

theorem upd_le4 (r v : BitVec 32) : upd r (le4 v) = shn 32 (r ^^^ v) := upd_les 4 r v v.isLt

/-- all that is signed has one sum -/
theorem crc_signed (l : List UInt8) : crc (l ++ le4 (crc l)) = ~~~(shn 32 (~~~(0#32))) := by
  rw [crc, join, upd_append, upd_le4]
  congr 2
  unfold crc join
  generalize upd _ l = x
  apply BitVec.eq_of_getLsbD_eq
  intro i hi
  simp [hi]
  exact (show ∀ (i : Nat) (h : i < 32), (4294967295#32)[i] = true by decide) i hi

/-- bits turned near one another -/
theorem crc_near (p q y : List UInt8) (d : List UInt8) (v : BitVec 32) (hd : d = le4 v) (hv : v ≠ 0#32) (hy : y.length = 4) :
    crc (p ++ List.zipWith (· ^^^ ·) y d ++ q) ≠ crc (p ++ y ++ q) := by
  intro h
  unfold crc join at h
  simp only [upd_append] at h
  have h := upd_inj q (BitVec.not_inj.1 h)
  generalize upd _ p = r at h
  have e := upd_zip r 0#32 y d (by rw [hy, hd, le4, length_les])
  rw [BitVec.xor_zero] at e
  rw [e, hd, upd_le4] at h
  have h3 : shn 32 (0#32 ^^^ v) = 0#32 := by
    have : (upd r y ^^^ shn 32 (0#32 ^^^ v)) ^^^ upd r y = upd r y ^^^ upd r y := by rw [h]
    rw [BitVec.xor_self, BitVec.xor_comm, ← BitVec.xor_assoc, BitVec.xor_self, BitVec.zero_xor] at this
    exact this
  rw [BitVec.zero_xor, ← shn_zero 32] at h3
  exact hv (shn_inj 32 h3)

/-- the sums of the law's first lines -/
theorem crc_nine : (crc [49, 50, 51, 52, 53, 54, 55, 56, 57]).toNat = 3808858755 := by decide +kernel
theorem crc_none : (crc []).toNat = 0 := by decide

end Go.Proofs.YthjmmnbfjahamaaDoor
