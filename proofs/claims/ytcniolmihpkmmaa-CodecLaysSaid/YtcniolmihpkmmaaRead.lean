/- The contracts of Put16, Put32, Put64 and bytes.Clone. -/
import Derived.Test.YtcniolmihpkmmaaPut
import Derived.Test.YtcniolmihpkmmaaShelf
namespace Go.Proofs.Ytcniolmihpkmmaa
open Go.RowKit

theorem put_int (p : Option Addr) (n c : Nat) (k x : Int) (l : List UInt8) (w : World) (hv : Lib.HoldsBytes w (.slice p n c) l) (hn : n ≤ 140737488355328) (hx : 0 ≤ x) (hk0 : 0 ≤ k) (hk : k ≤ 8) :
    Calls Try.prog 58 #[.slice p n c, .int .u64 x, .int .i64 k] w (PutPost w (n + k.toNat) (l ++ be k.toNat x.toNat)) := by
  have h := put_any p n c k.toNat x.toNat l w hv hn (by omega)
  rwa [Int.toNat_of_nonneg hx, Int.toNat_of_nonneg hk0] at h

set_option maxHeartbeats 400000 in
theorem put64 (p : Option Addr) (n c : Nat) (x : Int) (l : List UInt8) (w : World) (hv : Lib.HoldsBytes w (.slice p n c) l) (hn : n ≤ 140737488355328) (hx : 0 ≤ x) :
    Calls Try.prog 44 #[.slice p n c, .int .u64 x] w (PutPost w (n + 8) (l ++ be 8 x.toNat)) := by
  have hv1 := Lib.hid hv
  clear hv
  go_enter Try.func44, Try.ntmps44
  go_wp2_with (go_at_call 58; refine (put_int p n c 8 x l w hv1.out hn hx (by omega) (by omega)).mono ?_; rintro e w' ⟨rfl, hrow, hb⟩)
  go_ret
  exact ⟨rfl, hrow, hb⟩

set_option maxHeartbeats 400000 in
theorem put16 (p : Option Addr) (n c : Nat) (x : Int) (l : List UInt8) (w : World) (hv : Lib.HoldsBytes w (.slice p n c) l) (hn : n ≤ 140737488355328) (hx : 0 ≤ x) (hx1 : x < 65536) :
    Calls Try.prog 59 #[.slice p n c, .int .u16 x] w (PutPost w (n + 2) (l ++ be 2 x.toNat)) := by
  have hv1 := Lib.hid hv
  clear hv
  go_enter Try.func59, Try.ntmps59
  go_wp2_with (go_at_call 58; refine (put_int p n c 2 x l w hv1.out hn hx (by omega) (by omega)).mono ?_; rintro e w' ⟨rfl, hrow, hb⟩)
  go_ret
  exact ⟨rfl, hrow, hb⟩

/-- A slice of the bytes l whose array, if there is one, lies at block B or later. -/
def New (B : Nat) (w : World) (v : Value) (l : List UInt8) : Prop :=
  Lib.HoldsBytes w v l ∧ ∀ a n c, v = .slice (some a) n c → B ≤ a.block ∧ a.block < w.heap.size ∧ n ≤ c

def ClonePost (w : World) (l : List UInt8) (e : Ending) (w' : World) : Prop :=
  ∃ q c', e = .returned (.slice q l.length c') ∧ New w.heap.size w' (.slice q l.length c') l ∧ Below w.heap.size w w'

theorem clone (p : Option Addr) (n c : Nat) (l : List UInt8) (w : World) (hv : Lib.HoldsBytes w (.slice p n c) l) (hn : n ≤ 140737488355328) :
    Calls Try.prog 60 #[.slice p n c] w (ClonePost w l) := by
  obtain ⟨q, cap, he, h1, h2⟩ := hv
  cases he
  cases p with
  | none =>
    have := h1 rfl
    subst this
    refine (Try.bytes_Clone_nil _ c w).mono ?_
    rintro e w' ⟨rfl, rfl⟩
    exact ⟨none, 0, rfl, ⟨⟨none, 0, rfl, fun _ => rfl, fun a ha => by cases ha⟩, fun a n c h => by cases h⟩, Below.refl _ _⟩
  | some a =>
    refine (Try.bytes_Clone_at a l.length c (Lib.numsL l) w (Lib.numsL_length l) hn (fun i hi => ?_)).mono ?_
    · rw [h2 a rfl i l[i] (List.getElem?_eq_getElem hi)]
      simp [Lib.numsL, List.getD, hi]
    rintro e w' ⟨v', rfl, hown, hne, hb⟩
    obtain ⟨hlen, hr | ⟨g, cap', cur, rfl, hg, hh, hle, hm, hsz, htk⟩⟩ := hown
    · exact absurd hr.1 hne
    · refine ⟨some ⟨g, 0, none⟩, cap', rfl, ⟨⟨some ⟨g, 0, none⟩, cap', rfl, (fun h => by cases h), fun a ha i x hx => ?_⟩, fun a n c h => by cases h; exact ⟨hg, (Array.getElem?_eq_some_iff.1 hh).1, hle⟩⟩, hb⟩
      cases ha
      have hadd : (⟨g, 0, none⟩ : Addr).add i = ⟨g, i, none⟩ := by unfold Addr.add; split <;> simp_all
      have hi : i < l.length := (List.getElem?_eq_some_iff.1 hx).1
      rw [hadd, cell_of_row w' g i cur 5 (0, 0) hh]
      have h3 := congrArg (·[i]?) htk
      simp only [Nat.mul_one] at h3
      rw [List.getElem?_take_of_lt hi] at h3
      rw [← Array.getElem?_toList, h3]
      simp [Lib.numsL, hx]

end Go.Proofs.Ytcniolmihpkmmaa
