/- putNumber of ring: an entry's number, in five bytes. -/
import Derived.Test.YtjhnagipagkhiaaGreatROct
namespace Go.Proofs.YtjhnagipagkhiaaGreat
open Go.RowKit

theorem ofNat_mod {a b : Nat} (h : a % 256 = b % 256) : UInt8.ofNat a = UInt8.ofNat b := by
  apply UInt8.toNat_inj.1
  simp [UInt8.toNat_ofNat', h]
theorem be4_mod (x : Nat) : be 4 (x % 4294967296) = be 4 x := by
  rw [be_cons, be_cons, be_cons, be_cons, be_cons, be_cons, be_cons, be_cons]
  congr 1
  · exact ofNat_mod (by omega)
  congr 1
  · exact ofNat_mod (by omega)
  congr 1
  · exact ofNat_mod (by omega)
  congr 1
  · exact ofNat_mod (by omega)

/-- a slice with these bytes, in a new block -/
def NewPost (w : World) (q : Option Addr) (m : Nat) (l : List UInt8) (e : Ending) (w' : World) : Prop :=
  ∃ g, e = .returned (.slice (some ⟨g, 0, none⟩) m m) ∧ Row 5 w' g l ∧ w.heap.size ≤ g ∧ w.grownBy w' (blockOf q)

/-- a number's fifth byte -/
def dg5 (x : Nat) : UInt8 := UInt8.ofNat (x / 4294967296)
theorem dg5_val (x : Nat) : (x : Int) / 4294967296 % 256 = ((dg5 x).toNat : Int) := by
  unfold dg5
  simp [UInt8.toNat_ofNat']
theorem be5 (x : Nat) : be 5 x = dg5 x :: be 4 x := by
  rw [be_cons]
  rfl

set_option maxHeartbeats 1000000 in
theorem putNumber_any (q : Option Addr) (n c : Nat) (x : Nat) (l : List UInt8) (base : Nat) (w : World) (hv : Own w base (.slice q n c) l) (hb : base ≤ w.heap.size) (hn : n ≤ 1000) :
    Calls Tryz.prog 104 #[.slice q n c, .int .u64 x] w (NewPost w q (n + 5) (l ++ be 5 x)) := by
  have hv0 := Lib.hid hv
  have hd := dg5_val x
  have hx4 : ((x : Int) % 4294967296).toNat = x % 4294967296 := by omega
  have hx5 := Lib.hid hx4
  have hx6 : Hid (0 ≤ (x : Int) % 4294967296 ∧ (x : Int) % 4294967296 < 4294967296) := ⟨by omega, by omega⟩
  clear hv hx4
  go_enter Tryz.func104, Tryz.ntmps104
  go_wp2_with (first
    | (at_builtin; refine wpList_append_bytes rfl _ _ rfl rfl rfl (hv0.out.below ((Below.refl _ _).alloc (Nat.le_refl _) _)) (holds_new1 w _) (by omega) (by simp; omega) ?_; intro q2 c2 w2 ho hg
       have ho' := Lib.hid ho
       have hg' := Lib.hid hg
       clear ho hg)
    | (go_at_call 102
       refine (put32 q2 (n + 1) c2 _ (l ++ [dg5 x]) w2 ho'.out.holds.1 (by omega) hx6.out.1 hx6.out.2).mono ?_
       rintro e w3 ⟨rfl, hr3, hb3⟩
       have r3 := Lib.hid hr3
       have b3 := Lib.hid hb3
       clear hr3 hb3))
  go_ret
  have hz : w.heap.size + 1 ≤ w2.heap.size := by have := hg'.out.size; rw [World.size_alloc] at this; exact this
  refine ⟨w2.heap.size, rfl, ?_, by omega, ?_⟩
  · have h := r3.out
    rw [hx5.out, be4_mod, List.append_assoc, List.singleton_append, ← be5] at h
    exact h
  · have h1 := hg'.out
    exact ⟨b3.out.os.trans h1.os, b3.out.tape.trans h1.tape, b3.out.output.trans h1.output, by have := b3.out.size; omega, fun k hk hn => (b3.out.block k (by omega)).trans ((h1.block k (by rw [World.size_alloc]; omega) hn).trans (heap_alloc_old _ _ hk))⟩

end Go.Proofs.YtjhnagipagkhiaaGreat
