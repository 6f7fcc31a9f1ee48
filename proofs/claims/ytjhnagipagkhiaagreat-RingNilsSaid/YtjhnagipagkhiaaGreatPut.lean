/- The contract of put: it returns new memory that holds what came in, and the number behind it, the highest byte first. -/
import Derived.Test.YtjhnagipagkhiaaGreatBase
namespace Go.Proofs.YtjhnagipagkhiaaGreat
open Go.RowKit

theorem info5 : (Tryz.prog.info? 5).map (fun i => (i.zero, i.size, i.bytes)) = some (some (.int .u8 0), 1, 1) := by kernel_rfl
theorem size5 : (Tryz.prog.info? 5).map (·.size) = some 1 := by kernel_rfl

def PutPost (w : World) (m : Nat) (l : List UInt8) (e : Ending) (w' : World) : Prop :=
  e = .returned (.slice (some ⟨w.heap.size, 0, none⟩) m m) ∧ Row 5 w' w.heap.size l ∧ Below w.heap.size w w'

def PutRel (w wr : World) (l : List UInt8) (k j x : Nat) : Prop :=
  Below w.heap.size w wr ∧ Row 5 wr w.heap.size (l ++ zs (k - j) ++ be j x)

theorem digit (x j : Nat) : ((x : Int) / 2 ^ (8 * j) % 256) = ((UInt8.ofNat (x / 256 ^ j)).toNat : Int) := by
  have e : (2 : Int) ^ (8 * j) = ((256 ^ j : Nat) : Int) := by
    rw [Int.pow_mul]; norm_cast
  rw [e]
  simp

theorem put_set (l : List UInt8) (k j x : Nat) (h : j < k) :
    (l ++ zs (k - j) ++ be j x).set (l.length + k - 1 - j) (UInt8.ofNat (x / 256 ^ j)) = l ++ zs (k - (j + 1)) ++ be (j + 1) x := by
  have e : zs (k - j) = zs (k - (j + 1)) ++ [0] := by
    have : k - j = (k - (j + 1)) + 1 := by omega
    rw [this]; simp [zs, List.replicate_succ']
  rw [e, be_cons]
  rw [show l ++ (zs (k - (j + 1)) ++ [0]) ++ be j x = (l ++ zs (k - (j + 1))) ++ (0 :: be j x) by simp]
  rw [List.set_append_right _ _ (by simp [zs]; omega)]
  rw [show l.length + k - 1 - j - (l ++ zs (k - (j + 1))).length = 0 by simp [zs]; omega]
  simp

theorem PutRel.cell {w wr : World} {l : List UInt8} {k j x n : Nat} (h : PutRel w wr l k j x) (hn : n = l.length) (hj : j < k) : ∃ v, wr.cell? ⟨w.heap.size, n + k - 1 - j, none⟩ = some v :=
  ⟨_, h.2.cell (n + k - 1 - j) (by simp [zs, length_be]; omega)⟩
theorem PutRel.free {w wr : World} {l : List UInt8} {k j x n : Nat} (h : PutRel w wr l k j x) : wr.frozen? ⟨w.heap.size, n + k - 1 - j, none⟩ = false := h.2.free _
theorem PutRel.step {w wr : World} {l : List UInt8} {k j x n : Nat} (h : PutRel w wr l k j x) (hn : n = l.length) (hj : j < k) :
    PutRel w (wr.setCell ⟨w.heap.size, n + k - 1 - j, none⟩ (.int .u8 ((x : Int) / 2 ^ (8 * j) % 256))) l k (j + 1) x := by
  refine ⟨h.1.setCell (p := ⟨w.heap.size, _, none⟩) (Nat.le_refl _) _, ?_⟩
  rw [digit, ← put_set l k j x hj, hn]
  exact h.2.set _ _

set_option maxHeartbeats 400000 in
theorem put_any (p : Option Addr) (n c k : Nat) (x : Nat) (l : List UInt8) (w : World) (hv : Lib.HoldsBytes w (.slice p n c) l) (hn : n ≤ 140737488355328) (hk : k ≤ 8) :
    Calls Tryz.prog 119 #[.slice p n c, .int .u64 (x : Int), .int .i64 k] w (PutPost w (n + k) (l ++ be k x)) := by
  obtain ⟨i0, hi, hz0, hz1, hz2⟩ := info_parts info5
  have hmk : ∀ u : World, (Instr.makeSlice 30 (.int .i64 ((n : Int) + k)) (.int .i64 ((n : Int) + k))).run Tryz.prog u =
      .ok (.slice (some ⟨u.heap.size, 0, none⟩) (n + k) (n + k)) (u.alloc (.cells (vals (zs (n + k))).toArray 5)) := fun u => by
    have h := run_make (P := Tryz.prog) u 30 5 i0 (.int .u8 0) Tryz.underlying30 hi hz0 .i64 .i64 ((n : Int) + k) ((n : Int) + k) (by omega) (Int.le_refl _) (by rw [hz2]; omega) (by omega)
    have e : ((n : Int) + k).toNat = n + k := by omega
    rw [e, hz1, Nat.mul_one, show (Value.int .u8 0).cells = #[.int .u8 0] from rfl, made_zs] at h
    exact h
  have hB := Lib.hid ((Below.refl w.heap.size w).alloc (Nat.le_refl _) (.cells (vals (zs (n + k))).toArray 5))
  have hs := Lib.hid (holds_src hv hB.out)
  have c1 := Lib.hid (heap_alloc_new w (.cells (vals (zs (n + k))).toArray 5))
  have c2 : Hid ((vals l).length = Nat.min n (n + k)) := by show _ = min n (n + k); rw [length_vals, hs.out.1]; omega
  have c4 : Hid (0 + (vals l).length ≤ (vals (zs (n + k))).length) := by show _ ≤ _; rw [length_vals, length_vals, length_zs, hs.out.1]; omega
  have c5 := Lib.hid (one_vals l)
  have hv1 := Lib.hid hv
  clear hv
  clear hi hz0 hz1 hz2
  go_enter Tryz.func119, Tryz.ntmps119
  go_wp2_with (with_reducible (refine wpList_copy_splice rfl (.tmp 14) (.tmp 15) 30 30 rfl 5 Tryz.underlying30 size5 _ _ _ _ _ _ rfl rfl w.heap.size 0 (vals (zs (n + k))) 5 c1.out (vals l) c2.out (fun h => ⟨rfl, hs.out.2 h⟩) c4.out c5.out w.heap.size w hB.out (Nat.le_refl _) ?_; intro w2 HG2 hB2))
  have hrow0 : PutRel w w2 l k 0 x := ⟨hB2, by
    have h := HG2.out
    have e := hs.out.1
    subst e
    rw [splice_front] at h
    show _ = _
    rw [h]; simp [be]⟩
  clear HG2 hB2
  go_loopw [18] (fun v18 wr => ∃ j : Nat, j ≤ k ∧ v18 = .int .i64 j ∧ PutRel w wr l k j x) (fun v18 _ => k - (intOf v18).toNat)
  case atStart => exact ⟨0, Nat.zero_le _, rfl, hrow0⟩
  case round =>
    obtain ⟨j, hj, rfl, hr⟩ := hrel
    by_cases hlt : j < k
    · obtain ⟨v0, hcell⟩ := hr.cell hs.out.1 hlt
      have hfree := hr.free (n := n)
      have hnext := Lib.hid (hr.step hs.out.1 hlt)
      go_wp2
      go_roundw
      case rel => exact ⟨j + 1, by omega, by go_num, hnext.out⟩
      case measure => simp [intOf]; omega
    · obtain rfl : j = k := by omega
      go_wp2
      go_ret
      refine ⟨rfl, ?_, hr.1⟩
      have h := hr.2
      simpa [zs] using h

end Go.Proofs.YtjhnagipagkhiaaGreat
