/- The contracts of Fill, bytes.Equal, bytes.Compare and Same. -/
import Derived.Test.YtoafcpfadkejnaaCalls
import Derived.Lib.BytesEntry
import Derived.Deep.QuietTactic
import Derived.BigQuiet
namespace Go.Proofs.Ytoafcpfadkejnaa
open Go.RowKit

set_option maxHeartbeats 400000 in
theorem fill_neg (p : Option Addr) (n c : Nat) (m : Int) (w : World) (hm : m < 0) :
    Calls Try.prog 16 #[.slice p n c, .int .i64 m] w (fun e w' => e = .returned (.tuple #[.slice none 0 0, .int .i64 2]) ∧ w = w') := by
  go_enter Try.func16, Try.ntmps16
  go_wp2
  go_ret2
  exact ⟨rfl, rfl⟩

set_option maxHeartbeats 400000 in
theorem fill_long (p : Option Addr) (n c : Nat) (m : Int) (w : World) (hm : 0 ≤ m) (hn : m < n) :
    Calls Try.prog 16 #[.slice p n c, .int .i64 m] w (fun e w' => e = .returned (.tuple #[.slice none 0 0, .int .i64 3]) ∧ w = w') := by
  go_enter Try.func16, Try.ntmps16
  go_wp2
  all_goals go_ret2
  all_goals exact ⟨rfl, rfl⟩

def FillPost (w : World) (m : Nat) (l : List UInt8) (e : Ending) (w' : World) : Prop :=
  e = .returned (.tuple #[.slice (some ⟨w.heap.size, 0, none⟩) m m, .int .i64 0]) ∧ Row 5 w' w.heap.size l ∧ Below w.heap.size w w'

set_option maxHeartbeats 400000 in
theorem fill_ok (p : Option Addr) (n c m : Nat) (l : List UInt8) (w : World) (hv : Lib.HoldsBytes w (.slice p n c) l) (hn : n ≤ m) (hm : m ≤ 2147483647) :
    Calls Try.prog 16 #[.slice p n c, .int .i64 m] w (FillPost w m (l ++ zs (m - n))) := by
  obtain ⟨i0, hi, hz0, hz1, hz2⟩ := info_parts info5
  have hmk : ∀ u : World, (Instr.makeSlice 22 (.int .i64 (m : Int)) (.int .i64 (m : Int))).run Try.prog u =
      .ok (.slice (some ⟨u.heap.size, 0, none⟩) m m) (u.alloc (.cells (vals (zs m)).toArray 5)) := fun u => by
    have h := run_make (P := Try.prog) u 22 5 i0 (.int .u8 0) Try.underlying22 hi hz0 .i64 .i64 (m : Int) (m : Int) (by omega) (Int.le_refl _) (by rw [hz2]; omega) (by omega)
    have e : (m : Int).toNat = m := by omega
    rw [e, hz1, Nat.mul_one, show (Value.int .u8 0).cells = #[.int .u8 0] from rfl, made_zs] at h
    exact h
  have hB := Lib.hid ((Below.refl w.heap.size w).alloc (Nat.le_refl _) (.cells (vals (zs m)).toArray 5))
  have hs := Lib.hid (holds_src hv hB.out)
  have c1 := Lib.hid (heap_alloc_new w (.cells (vals (zs m)).toArray 5))
  have c2 : Hid ((vals l).length = Nat.min n m) := by show _ = min n m; rw [length_vals, hs.out.1]; have := hs.out.1; omega
  have c4 : Hid (0 + (vals l).length ≤ (vals (zs m)).length) := by show _ ≤ _; rw [length_vals, length_vals, length_zs]; have := hs.out.1; omega
  have c5 := Lib.hid (one_vals l)
  clear hv
  clear hi hz0 hz1 hz2
  go_enter Try.func16, Try.ntmps16
  go_wp2_with (with_reducible (refine wpList_copy_splice rfl (.tmp 19) (.tmp 20) 22 22 rfl 5 Try.underlying22 size5 _ _ _ _ _ _ rfl rfl w.heap.size 0 (vals (zs m)) 5 c1.out (vals l) c2.out (fun h => ⟨rfl, hs.out.2 h⟩) c4.out c5.out w.heap.size w hB.out (Nat.le_refl _) ?_; intro w2 HG2 hB2))
  go_ret2
  refine ⟨rfl, ?_, hB2⟩
  have h := HG2.out
  have e := hs.out.1
  obtain ⟨j, rfl⟩ : ∃ j, m = l.length + j := ⟨m - l.length, by omega⟩
  rw [splice_front] at h
  rw [e, Nat.add_sub_cancel_left]
  exact h

theorem bytesIn_of {w : World} {p : Option Addr} {n c : Nat} {l : List UInt8} (h : Lib.HoldsBytes w (.slice p n c) l) : Lib.BytesIn w p n (Lib.numsL l) := by
  obtain ⟨q, cap, he, h1, h2⟩ := h
  cases he
  cases p with
  | none => rw [h1 rfl]; exact Lib.BytesIn.nil _ _ _
  | some a => exact Lib.BytesIn.of_cells (fun i hi => by rw [h2 a rfl i l[i] (List.getElem?_eq_getElem hi)]; simp [Lib.numsL, List.getD, hi])

theorem equal_any (p q : Option Addr) (n c m d : Nat) (l k : List UInt8) (w : World) (h1 : Lib.HoldsBytes w (.slice p n c) l) (h2 : Lib.HoldsBytes w (.slice q m d) k) :
    Calls Try.prog 28 #[.slice p n c, .slice q m d] w (fun e w' => e = .returned (.bool (l == k)) ∧ w = w') := by
  have e1 := holds_len h1
  have e2 := holds_len h2
  refine (Try.bytes_Equal_all p q n c m d (Lib.numsL l) (Lib.numsL k) w (by rw [Lib.numsL_length, e1]) (by rw [Lib.numsL_length, e2]) (bytesIn_of h1) (bytesIn_of h2)).mono ?_
  rintro e w' ⟨rfl, rfl⟩
  rw [Lib.bytesOf_numsL, Lib.bytesOf_numsL]
  exact ⟨rfl, rfl⟩


theorem entry_bytes {w : World} {p : Option Addr} {n c : Nat} {l : List UInt8} (h : Lib.HoldsBytes w (.slice p n c) l) :
    (Extern.Bytes.bytesOf (.slice p n c)).run Try.prog w = .ok ⟨l.toArray⟩ w := by
  obtain ⟨q, cap, he, h1, h2⟩ := h
  cases he
  cases p with
  | none => rw [h1 rfl]; rfl
  | some a =>
    have hx := Lib.run_loadBytesX (P := Try.prog) w (Lib.numsL l) a .empty (fun j x hj => by
      simp only [Lib.numsL, List.getElem?_map] at hj
      obtain ⟨b, hb, rfl⟩ := Option.map_eq_some_iff.1 hj
      exact h2 a rfl j b hb)
    rw [Lib.numsL_length, Lib.bytesOf_numsL] at hx
    show (Extern.Bytes.loadBytes a l.length .empty).run Try.prog w = _
    rw [hx]
    congr 1
    apply ByteArray.ext
    simp [ByteArray.empty, ByteArray.emptyWithCapacity]
    rfl

theorem run_compare {w : World} {p q : Option Addr} {n c m d : Nat} {l k : List UInt8} (h1 : Lib.HoldsBytes w (.slice p n c) l) (h2 : Lib.HoldsBytes w (.slice q m d) k) :
    (Extern.BytealgCompare.compare #[.slice p n c, .slice q m d]).run Try.prog w = .ok (.int .i64 (Lib.compareBytes l k)) w := by
  change Sem.run Try.prog (do pure (goInt (Extern.BytealgCompare.cmp (← Extern.Bytes.bytesOf (.slice p n c)) (← Extern.Bytes.bytesOf (.slice q m d))))) w = _
  simp only [Sem.run_bind, Sem.run_pure, Result.andThen, entry_bytes h1, entry_bytes h2]
  rw [Lib.cmp_eq]
  rfl

set_option maxHeartbeats 400000 in
theorem compare_any (p q : Option Addr) (n c m d : Nat) (l k : List UInt8) (w : World) (h1 : Lib.HoldsBytes w (.slice p n c) l) (h2 : Lib.HoldsBytes w (.slice q m d) k) :
    Calls Try.prog 30 #[.slice p n c, .slice q m d] w (fun e w' => e = .returned (.int .i64 (Lib.compareBytes l k)) ∧ w = w') := by
  have hr := Lib.hid (run_compare h1 h2)
  clear h1 h2
  go_enter Try.func30, Try.ntmps30
  go_wp2
  rw [run_callFunc_extern Try.func36 (by kernel_rfl) (by kernel_rfl) (by kernel_rfl) (e := Extern.BytealgCompare.compare) (by kernel_rfl), hr.out]
  simp only [Result.andThen]
  rw [Oper.upon_value]
  go_wp2
  go_ret
  exact ⟨rfl, rfl⟩

theorem holds_at {w : World} {p : Option Addr} {n c : Nat} {l : List UInt8} (h : Lib.HoldsBytes w (.slice p n c) l) (i : Nat) (hi : i < n) :
    ∃ a b, p = some a ∧ l[i]? = some b ∧ ∀ j, (w.drewN j).cell? (a.add i) = some (.int .u8 (b.toNat : Int)) := by
  obtain ⟨q, cap, he, h1, h2⟩ := h
  cases he
  cases p with
  | none => rw [h1 rfl] at hi; simp at hi
  | some a => exact ⟨a, l[i], rfl, List.getElem?_eq_getElem hi, fun j => by rw [World.cell?_drewN]; exact h2 a rfl i _ (List.getElem?_eq_getElem hi)⟩

theorem take_snoc' {l : List UInt8} {i : Nat} {b : UInt8} (h : l[i]? = some b) : l.take (i + 1) = l.take i ++ [b] := by rw [List.take_add_one, h]; rfl

def SamePost (w : World) (l k : List UInt8) (e : Ending) (w' : World) : Prop := e = .returned (.bool (l == k)) ∧ ∃ j, w' = w.drewN j
def SameRel (w wr : World) (l k : List UInt8) (i : Nat) : Prop := l.take i = k.take i ∧ ∃ j, wr = w.drewN j

set_option maxHeartbeats 400000 in
theorem same_any (p q : Option Addr) (n c m d : Nat) (l k : List UInt8) (w : World) (h1 : Lib.HoldsBytes w (.slice p n c) l) (h2 : Lib.HoldsBytes w (.slice q m d) k) (hn : n ≤ 140737488355328) :
    Calls Try.prog 11 #[.slice p n c, .slice q m d] w (SamePost w l k) := by
  have e1 := Lib.hid (holds_len h1)
  have e2 := Lib.hid (holds_len h2)
  by_cases hnm : n = m
  · subst hnm
    have g1 := Lib.hid h1
    have g2 := Lib.hid h2
    clear h1 h2
    go_enter Try.func11, Try.ntmps11
    go_wp2
    go_loopw [5] (fun v5 wr => ∃ i : Nat, i ≤ n ∧ v5 = .int .i64 i ∧ SameRel w wr l k i) (fun v5 _ => n - (intOf v5).toNat)
    case atStart => exact ⟨0, Nat.zero_le _, rfl, rfl, 0, rfl⟩
    case round =>
      obtain ⟨i, hi, rfl, hr, j, rfl⟩ := hrel
      by_cases hlt : i < n
      · obtain ⟨a, x, rfl, hx, cx⟩ := holds_at g1.out i hlt
        obtain ⟨b, y, rfl, hy, cy⟩ := holds_at g2.out i hlt
        have cx0 := cx j
        have cy0 := cy j
        have cx1 := cx (j + 1)
        have cy1 := cy (j + 1)
        have hrel1 := Lib.hid hr
        have hx1 := Lib.hid hx
        have hy1 := Lib.hid hy
        clear hr hx hy cx cy
        by_cases hxy : x = y
        · subst hxy
          go_wp2
          go_region
          all_goals
            go_wp2
            go_roundw
            case rel => exact ⟨i + 1, by omega, by go_num, by rw [take_snoc' hx1.out, take_snoc' hy1.out, hrel1.out], j + 1, rfl⟩
            case measure => simp [intOf]; omega
        · have hb : (((x.toNat : Int)) != (y.toNat : Int)) = true := by
            simp; intro h; exact hxy (UInt8.toNat_inj.1 (by exact_mod_cast h))
          have hne := Lib.hid hxy
          clear hxy
          go_wp2
          go_region
          all_goals
            go_wp2
            go_ret
            refine ⟨?_, j + 1, rfl⟩
            have : l ≠ k := fun e => hne.out (by have h3 := hx1.out; rw [e, hy1.out] at h3; exact (Option.some.inj h3).symm)
            simp [this]
      · obtain rfl : i = n := by omega
        go_wp2
        go_ret
        refine ⟨?_, j, rfl⟩
        rw [List.take_of_length_le (by rw [← e1.out]; exact Nat.le_refl _), List.take_of_length_le (by rw [← e2.out]; exact Nat.le_refl _)] at hr
        simp [hr]
  · have hb : ((n : Int) != (m : Int)) = true := by simp; omega
    clear h1 h2
    have hne := Lib.hid hnm
    clear hnm
    go_enter Try.func11, Try.ntmps11
    go_wp2
    go_ret
    refine ⟨?_, 0, rfl⟩
    have : l ≠ k := fun e => hne.out (by rw [e1.out, e2.out, e])
    simp [this]

end Go.Proofs.Ytoafcpfadkejnaa
