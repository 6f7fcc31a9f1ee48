/- wakes: it returns true. -/
import Derived.Test.YtnjandmlhncapaaRunW
namespace Go.Proofs.Ytnjandmlhncapaa
open Go.RowKit

def first (x : Int) : List Int := x :: List.replicate 63 0
theorem first_len (x : Int) : (first x).length = 64 := by simp [first]

def k1 : Dk := dWrite (dDone (dNew 3)) 1 (first 5)
def k2 : Dk := dWrite (dDone k1) 0 (first 6)
def k3 : Dk := dWrite (dDone k2) 1 (first 7)
def k4 : Dk := crRes k3 [false, true]
def k5 : Dk := dRead k4
theorem wr1 : wrRes (dNew 3) 1 (first 5) = (0, k1) := by rfl
theorem wr2 : wrRes k1 0 (first 6) = (0, k2) := by rfl
theorem wr3 : wrRes k2 1 (first 7) = (0, k3) := by rfl
theorem pend3 : k3.pend = [0, 1] := by decide
theorem rd4 : rdRes k4 1 = ((first 7, 0), k5) := by rfl
theorem pend5 : k5.pend = [] := by decide

theorem owns_shape {w : World} {base : Nat} {v : Value} {n : Nat} {xs : List Value} (h : w.ownsRow base 3 1 v n xs) : ∃ q c, v = .slice q n c := by
  rcases h.2 with ⟨rfl, rfl⟩ | ⟨g, cap, cur, rfl, _⟩
  · exact ⟨none, 0, rfl⟩
  · exact ⟨_, _, rfl⟩

theorem ReadI.below {w w' : World} {v : Value} {xs : List Int} (h : ReadI w v xs) (hb : Below w.heap.size w w') : ReadI w' v xs := by
  obtain ⟨q, c, hv, h0, h1⟩ := h
  exact ⟨q, c, hv, h0, fun a ha => ⟨(h1 a ha).1, fun j x hx => cell_keeps hb (Nat.le_refl _) ((h1 a ha).2 j x hx)⟩⟩
theorem row_readI {w : World} {g : Nat} {xs : List Int} (h : RowV 3 w g (xs.map (Value.int .i64))) (c : Nat) : ReadI w (.slice (some ⟨g, 0, none⟩) xs.length c) xs := by
  refine ⟨some ⟨g, 0, none⟩, c, rfl, (fun e => by cases e), fun a ha => ?_⟩
  cases ha
  refine ⟨rfl, fun j x hx => ?_⟩
  rw [Nat.zero_add, h.cell j, List.getElem?_map, hx]; rfl
theorem row_keep {w : World} {g : Nat} {ks : List Bool} (h : RowV 4 w g (ks.map Value.bool)) (c : Nat) (L : List Nat) (hg : g ∉ L) : Keep w (.slice (some ⟨g, 0, none⟩) ks.length c) ks L := by
  refine ⟨some ⟨g, 0, none⟩, c, rfl, (fun e => by cases e), fun a ha => ?_⟩
  cases ha
  refine ⟨fun _ => hg, fun j x hx => ?_⟩
  rw [add0, h.cell j, List.getElem?_map, hx]; rfl

/-- a disk of the call's own -/
structure Mine (w W : World) (p : Pl) (d : Dk) : Prop where
  disk : At W p d
  below : Below w.heap.size w W
  low : ∀ x ∈ p.L, w.heap.size ≤ x
theorem Mine.tch {w W W' : World} {p : Pl} {d d' : Dk} (h : Mine w W p d) (k : At W' p d') (ht : Tch p.L W W') : Mine w W' p d' :=
  ⟨k, h.below.trans (ht.to_below h.below.size h.low), h.low⟩
theorem Mine.stay {w W W' : World} {p : Pl} {d : Dk} (h : Mine w W p d) (hb : Below W.heap.size W W') : Mine w W' p d :=
  ⟨h.disk.below hb, h.below.trans (hb.mono h.below.size), h.low⟩

set_option maxRecDepth 100000 in
set_option maxHeartbeats 4000000 in
theorem wakes_any (w : World) : Calls Try.prog 9 #[] w (fun e w' => e = .returned (.bool true) ∧ Below w.heap.size w w') := by
  go_enter Try.func9, Try.ntmps9
  go_wp2_with fail
  refine (new_any 3 w (by decide) (by decide)).mono ?_
  rintro e w1 ⟨p, rfl, hA, hB, hL⟩
  have m0 : Hid (Mine w w1 p (dNew 3)) := ⟨hA, hB, hL⟩
  clear hA hB hL
  go_wp2_with fail
  refine (write_any p (dNew 3) w1 m0.out.disk (by decide) (by decide) 1 (first 5) rfl).mono ?_
  rw [wr1]
  rintro e w2 ⟨rfl, hA, hT⟩
  have m1 := Lib.hid (m0.out.tch hA hT)
  clear hA hT m0
  go_wp2_with fail
  refine (write_any p k1 w2 m1.out.disk (by decide) (by decide) 0 (first 6) rfl).mono ?_
  rw [wr2]
  rintro e w3 ⟨rfl, hA, hT⟩
  have m2 := Lib.hid (m1.out.tch hA hT)
  clear hA hT m1
  go_wp2_with fail
  refine (write_any p k2 w3 m2.out.disk (by decide) (by decide) 1 (first 7) rfl).mono ?_
  rw [wr3]
  rintro e w4 ⟨rfl, hA, hT⟩
  have m3 := Lib.hid (m2.out.tch hA hT)
  clear hA hT m2
  go_wp2_with fail
  refine (pending_any p k3 w4 m3.out.disk).mono ?_
  rw [pend3]
  rintro e w5 ⟨v, rfl, hA, hR, hT⟩
  have m4 := Lib.hid (m3.out.stay hT)
  obtain ⟨q, c, rfl⟩ := owns_shape hR
  have hri := Lib.hid (owns_readI (xs := [0, 1]) hR)
  clear hA hT hR m3
  have hb5 : Hid (Below w5.heap.size w5 (w5.alloc (.cells #[.int .i64 0, .int .i64 1] 3))) := (Below.refl _ _).alloc (Nat.le_refl _) _
  have hr5 : Hid (RowV 3 (w5.alloc (.cells #[.int .i64 0, .int .i64 1] 3)) w5.heap.size [.int .i64 0, .int .i64 1]) := RowV.made w5 _
  go_wp2_with fail
  refine (eqInts_any _ _ [0, 1] [0, 1] _ (hri.out.below hb5.out) (row_readI (xs := [0, 1]) hr5.out 2) (by decide) (by decide) (fun h => by cases h)).mono ?_
  rintro e w6 ⟨rfl, hb⟩
  have m5 := Lib.hid ((m4.out.stay hb5.out).stay hb)
  clear hb hb5 hr5 hri m4
  have hb6 : Hid (Below w6.heap.size w6 (w6.alloc (.cells #[.bool false, .bool true] 4))) := (Below.refl _ _).alloc (Nat.le_refl _) _
  have hr6 : Hid (RowV 4 (w6.alloc (.cells #[.bool false, .bool true] 4)) w6.heap.size [.bool false, .bool true]) := RowV.made w6 _
  have heq : (([0, 1] : List Int) == [0, 1]) = true := by decide
  go_wp2_with fail
  refine (crash_any p k3 _ (m5.out.stay hb6.out).disk _ [false, true] (row_keep (ks := [false, true]) hr6.out 2 p.L (m5.out.disk.not_in (Nat.le_refl _)))).mono ?_
  rintro e w7 ⟨rfl, hA, hT⟩
  have m6 : Hid (Mine w w7 p k4) := (m5.out.stay hb6.out).tch hA hT
  clear hA hT hb6 hr6 m5
  go_wp2_with fail
  refine (read_any p k4 w7 m6.out.disk (by decide) (by decide) 1).mono ?_
  rw [rd4]
  rintro e w8 ⟨rfl, hA, hT⟩
  have m7 := Lib.hid (m6.out.tch hA hT)
  clear hA hT m6
  have mA := Lib.hid (m7.out.stay ((Below.refl _ _).alloc (Nat.le_refl _) (.cells (bl z64).toArray 37)))
  have rA : Hid (RowV 37 (w8.alloc (.cells (bl z64).toArray 37)) w8.heap.size (bl z64)) := RowV.made w8 _
  have hnA := m7.out.disk.not_in (Nat.le_refl _)
  go_wp2_with (first
    | (with_reducible refine wpList_alloc_z rfl 37 rfl alloc37z ?_)
    | ((with_reducible refine wpList_store_at rfl 37 (.tmp 3) (.tmp 46) rfl (o := 0) rfl rfl rA.out (bl_size (first_len 7)) (bl_fits (first_len 7) z64_len) (bl_one (first 7)) ?_)
       intro w9 h9 hg9
       rw [bl_splice (first_len 7) z64_len] at h9
       have c9 : w9.cell? ⟨w8.heap.size, 0, none⟩ = some (.int .u8 7) := h9.cell 0
       have m9 : Hid (Mine w w9 p k5) := ⟨mA.out.disk.other hg9 hnA, mA.out.below.grown hg9 mA.out.below.size (fun j e => by cases e; exact m7.out.below.size), mA.out.low⟩
       clear h9 hg9)
    | fail)
  refine (pending_any p k5 w9 m9.out.disk).mono ?_
  rw [pend5]
  rintro e w10 ⟨v, rfl, hA, hR, hT⟩
  have m10 := Lib.hid (m9.out.stay hT)
  obtain ⟨q2, c2, rfl⟩ := owns_shape hR
  clear hA hT hR
  go_wp2_with fail
  go_ret
  exact ⟨rfl, m10.out.below⟩

end Go.Proofs.Ytnjandmlhncapaa
