/- The contracts of Put32, ReverseBytes32 and standing, of bytes.Equal and bytes.Clone. -/
import Derived.Test.YthjmmnbfjahamaaDoorStep
import Derived.Test.YthjmmnbfjahamaaDoorRev
import Derived.Test.YthjmmnbfjahamaaDoorShelf
namespace Go.Proofs.YthjmmnbfjahamaaDoor
open Go.RowKit

theorem put_int (p : Option Addr) (n c : Nat) (k x : Int) (l : List UInt8) (w : World) (hv : Lib.HoldsBytes w (.slice p n c) l) (hn : n ≤ 140737488355328) (hx : 0 ≤ x) (hk0 : 0 ≤ k) (hk : k ≤ 8) :
    Calls Tryd.prog 28 #[.slice p n c, .int .u64 x, .int .i64 k] w (PutPost w (n + k.toNat) (l ++ be k.toNat x.toNat)) := by
  have h := put_any p n c k.toNat x.toNat l w hv hn (by omega)
  rwa [Int.toNat_of_nonneg hx, Int.toNat_of_nonneg hk0] at h

set_option maxHeartbeats 400000 in
theorem put32 (p : Option Addr) (n c : Nat) (x : Int) (l : List UInt8) (w : World) (hv : Lib.HoldsBytes w (.slice p n c) l) (hn : n ≤ 140737488355328) (hx : 0 ≤ x) (hx1 : x < 4294967296) :
    Calls Tryd.prog 26 #[.slice p n c, .int .u32 x] w (PutPost w (n + 4) (l ++ be 4 x.toNat)) := by
  have hv1 := Lib.hid hv
  clear hv
  go_enter Tryd.func26, Tryd.ntmps26
  go_wp2_with (go_at_call 28; refine (put_int p n c 4 x l w hv1.out hn hx (by omega) (by omega)).mono ?_; rintro e w' ⟨rfl, hrow, hb⟩)
  go_ret
  exact ⟨rfl, hrow, hb⟩

theorem and_val (a b : BitVec 32) : bits .and .u32 (un a) (un b) = un (a &&& b) := by
  have h1 := a.isLt
  have h2 := b.isLt
  unfold un
  rw [u32_and_nat _ _ h1 h2, BitVec.toNat_and]
theorem or_val (a b : BitVec 32) : bits .or .u32 (un a) (un b) = un (a ||| b) := by
  have h1 := a.isLt
  have h2 := b.isLt
  unfold un
  rw [u32_or_nat _ _ h1 h2, BitVec.toNat_or]
theorem xor_val (a b : BitVec 32) : bits .xor .u32 (un a) (un b) = un (a ^^^ b) := by
  have h1 := a.isLt
  have h2 := b.isLt
  unfold un
  rw [u32_xor_nat _ _ h1 h2, BitVec.toNat_xor]
theorem shr_val (k : Nat) (a : BitVec 32) : un a / (2 ^ k : Nat) = un (a >>> k) := by
  unfold un
  rw [BitVec.toNat_ushiftRight, Nat.shiftRight_eq_div_pow, Int.natCast_ediv]
theorem shl_val (k : Nat) (a : BitVec 32) : IntKind.u32.wrap (un a * (2 ^ k : Nat)) = un (a <<< k) := by
  unfold un
  rw [IntKind.wrap_u32', BitVec.toNat_shiftLeft, Nat.shiftLeft_eq]
  omega

def revN (x : Int) : Int := bits .or .u32 (bits .and .u32 (x / 256) 16711935) (bits .and .u32 x 16711935 * 256 % 4294967296)
theorem revN_val (v : BitVec 32) : revN (un v) = un (revA v) := by
  have a1 : un v / (256 : Int) = un (v >>> 8) := shr_val 8 v
  have a2 : un (v &&& 16711935#32) * (256 : Int) % (4294967296 : Int) = un ((v &&& 16711935#32) <<< 8) := by
    rw [← shl_val 8, IntKind.wrap_u32']; rfl
  rw [revN, a1, show (16711935 : Int) = un 16711935#32 from rfl, and_val, and_val, a2, or_val, revA]
theorem rev_val (v : BitVec 32) : bits .or .u32 (revN (un v) / 65536) (revN (un v) * 65536 % 4294967296) = un (rev v) := by
  have a1 : un (revA v) / (65536 : Int) = un (revA v >>> 16) := shr_val 16 _
  have a2 : un (revA v) * (65536 : Int) % (4294967296 : Int) = un (revA v <<< 16) := by
    rw [← shl_val 16, IntKind.wrap_u32']; rfl
  rw [revN_val, a1, a2, or_val, rev]

theorem rev_any (v : BitVec 32) (w : World) :
    Calls Tryd.prog 27 #[.int .u32 (un v)] w (fun e w' => e = .returned (.int .u32 (un (rev v))) ∧ w = w') := by
  have h1 := un_lo v
  have h2 := un_hi v
  go_enter Tryd.func27, Tryd.ntmps27
  go_wp2
  go_ret
  exact ⟨ret_int (rev_val v), rfl⟩

/-- a sum in its bytes -/
theorem stand_any (v : BitVec 32) (w : World) :
    Calls Tryd.prog 24 #[.int .u32 (un v)] w (fun e w' => e = .returned (.slice (some ⟨w.heap.size, 0, none⟩) 4 4) ∧ Row 5 w' w.heap.size (le4 v) ∧ Below w.heap.size w w') := by
  have hp := put32 none 0 0 (un (rev v)) [] w ⟨none, 0, rfl, fun _ => rfl, fun a ha => by cases ha⟩ (by decide) (un_lo _) (un_hi _)
  rw [show (un (rev v)).toNat = (rev v).toNat from Int.toNat_natCast _, List.nil_append, be_rev] at hp
  have hp1 := Lib.hid hp
  clear hp
  go_enter Tryd.func24, Tryd.ntmps24
  go_wp2_with fail
  refine (rev_any v w).mono ?_
  rintro e w1 ⟨rfl, rfl⟩
  go_wp2_with fail
  refine hp1.out.mono ?_
  rintro e w2 ⟨rfl, hrow, hb⟩
  go_wp2_with fail
  go_ret
  exact ⟨rfl, hrow, hb⟩

theorem bytesIn_of {w : World} {p : Option Addr} {n c : Nat} {l : List UInt8} (h : Lib.HoldsBytes w (.slice p n c) l) : Lib.BytesIn w p n (Lib.numsL l) := by
  obtain ⟨q, cap, he, h1, h2⟩ := h
  cases he
  cases p with
  | none => rw [h1 rfl]; exact Lib.BytesIn.nil _ _ _
  | some a => exact Lib.BytesIn.of_cells (fun i hi => by rw [h2 a rfl i l[i] (List.getElem?_eq_getElem hi)]; simp [Lib.numsL, List.getD, hi])

theorem equal_any (p q : Option Addr) (n c m d : Nat) (l k : List UInt8) (w : World) (h1 : Lib.HoldsBytes w (.slice p n c) l) (h2 : Lib.HoldsBytes w (.slice q m d) k) :
    Calls Tryd.prog 18 #[.slice p n c, .slice q m d] w (fun e w' => e = .returned (.bool (l == k)) ∧ w = w') := by
  have e1 := holds_len h1
  have e2 := holds_len h2
  refine (Tryd.bytes_Equal_all p q n c m d (Lib.numsL l) (Lib.numsL k) w (by rw [Lib.numsL_length, e1]) (by rw [Lib.numsL_length, e2]) (bytesIn_of h1) (bytesIn_of h2)).mono ?_
  rintro e w' ⟨rfl, rfl⟩
  rw [Lib.bytesOf_numsL, Lib.bytesOf_numsL]
  exact ⟨rfl, rfl⟩

/-- A slice of the bytes l whose array, if there is one, lies at block B or later. -/
def New (B : Nat) (w : World) (v : Value) (l : List UInt8) : Prop :=
  Lib.HoldsBytes w v l ∧ ∀ a n c, v = .slice (some a) n c → B ≤ a.block ∧ a.block < w.heap.size ∧ n ≤ c

def ClonePost (w : World) (l : List UInt8) (e : Ending) (w' : World) : Prop :=
  ∃ q c', e = .returned (.slice q l.length c') ∧ New w.heap.size w' (.slice q l.length c') l ∧ Below w.heap.size w w'

theorem clone (p : Option Addr) (n c : Nat) (l : List UInt8) (w : World) (hv : Lib.HoldsBytes w (.slice p n c) l) (hn : n ≤ 140737488355328) :
    Calls Tryd.prog 20 #[.slice p n c] w (ClonePost w l) := by
  obtain ⟨q, cap, he, h1, h2⟩ := hv
  cases he
  cases p with
  | none =>
    have := h1 rfl
    subst this
    refine (Tryd.bytes_Clone_nil _ c w).mono ?_
    rintro e w' ⟨rfl, rfl⟩
    exact ⟨none, 0, rfl, ⟨⟨none, 0, rfl, fun _ => rfl, fun a ha => by cases ha⟩, fun a n c h => by cases h⟩, Below.refl _ _⟩
  | some a =>
    refine (Tryd.bytes_Clone_at a l.length c (Lib.numsL l) w (Lib.numsL_length l) hn (fun i hi => ?_)).mono ?_
    · rw [h2 a rfl i l[i] (List.getElem?_eq_getElem hi)]
      simp [Lib.numsL, List.getD, hi]
    rintro e w' ⟨v', rfl, hown, hne, hb⟩
    obtain ⟨hlen, hr | ⟨g, cap', cur, rfl, hg, hh, hle, hm, hsz, htk⟩⟩ := hown
    · exact absurd hr.1 hne
    · refine ⟨some ⟨g, 0, none⟩, cap', rfl, ⟨⟨some ⟨g, 0, none⟩, cap', rfl, (fun h => by cases h), fun a ha i x hx => ?_⟩, fun a n c h => by cases h; exact ⟨hg, (Array.getElem?_eq_some_iff.1 hh).1, hle⟩⟩, hb⟩
      cases ha
      have hadd : (⟨g, 0, none⟩ : Addr).add i = ⟨g, i, none⟩ := by unfold Addr.add; split <;> simp_all
      have hi : i < l.length := (List.getElem?_eq_some_iff.1 hx).1
      rw [hadd, cell_of_row w' g i cur 5 (0, 0) hh]
      have h3 := congrArg (·[i]?) htk
      simp only [Nat.mul_one] at h3
      rw [List.getElem?_take_of_lt hi] at h3
      rw [← Array.getElem?_toList, h3]
      simp [Lib.numsL, hx]

end Go.Proofs.YthjmmnbfjahamaaDoor
