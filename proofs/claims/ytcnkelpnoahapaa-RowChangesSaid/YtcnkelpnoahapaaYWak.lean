/- two and wakes of the laws on rows. -/
import Derived.Test.YtcnkelpnoahapaaYArg
namespace Go.Proofs.Ytcnkelpnoahapaa
open Go.RowKit

def twoB : List BdD := [⟨0, 10⟩, ⟨-5, 5⟩]

set_option maxRecDepth 100000 in
set_option maxHeartbeats 1000000 in
theorem two_any (w : World) : Calls Try.prog 33 #[] w (fun e w' => ∃ g, e = .returned (.agg #[.slice (some ⟨g, 0, none⟩) 2 2]) ∧ SchOn w' (some ⟨g, 0, none⟩) 2 2 twoB ∧ Below w.heap.size w w') := by
  obtain ⟨W, hW⟩ : ∃ W, (w.alloc (.cells #[.slice (some ⟨w.heap.size + 1, 0, none⟩) 2 2] 24)).alloc (.cells #[.int .i64 0, .int .i64 10, .int .i64 (-5), .int .i64 5] 61) = W := ⟨_, rfl⟩
  have hbx := Lib.hid (two_boxes (xs := [.slice (some ⟨w.heap.size + 1, 0, none⟩) 2 2]) (ys := [.int .i64 0, .int .i64 10, .int .i64 (-5), .int .i64 5]) hW)
  have c0 := hbx.out.2.1.cell 0 rfl
  have hs : Hid (SchOn W (some ⟨w.heap.size + 1, 0, none⟩) 2 2 twoB) := ⟨rfl, Nat.le_refl _, by unfold maxLen; omega, fun i b hi => ⟨_, rfl, fun j x hj => by
    have hh := hbx.out.2.2.1
    match i, hi with
    | 0, hi =>
      obtain rfl : (⟨0, 10⟩ : BdD) = b := by simpa [twoB] using hi
      rw [Nat.zero_mul, add0]
      match j, hj with
      | 0, hj => exact hh 0 _ hj
      | 1, hj => exact hh 1 _ hj
      | j + 2, hj => simp [BdD.cells] at hj
    | 1, hi =>
      obtain rfl : (⟨-5, 5⟩ : BdD) = b := by simpa [twoB] using hi
      rw [Go.Deep.add_add]
      match j, hj with
      | 0, hj => exact hh 2 _ hj
      | 1, hj => exact hh 3 _ hj
      | j + 2, hj => simp [BdD.cells] at hj
    | i + 2, hi => simp [twoB] at hi⟩, fun b hb => by
      simp only [twoB, List.mem_cons, List.not_mem_nil, or_false] at hb
      rcases hb with rfl | rfl <;> (unfold I64; exact ⟨⟨by decide, by decide⟩, ⟨by decide, by decide⟩⟩)⟩
  go_enter Try.func33, Try.ntmps33
  go_wp2
  exact bodyPost_ret (v := .agg #[.slice (some ⟨w.heap.size + 1, 0, none⟩) 2 2]) (by simp [results, Try.results33, go_sem, c0]) rfl ⟨_, rfl, hs.out, hbx.out.1⟩

def wakeL : List RowD := [⟨⟨0, 1⟩, 0, ⟨#[]⟩⟩, ⟨⟨1, 0⟩, 0, ⟨#[]⟩⟩]
theorem wake_put : putE twoB wakeL ⟨⟨0, 2⟩, 3, ⟨#[]⟩⟩ = 0 := by decide
theorem wake_list : putR twoB wakeL ⟨⟨0, 2⟩, 3, ⟨#[]⟩⟩ = [⟨⟨0, 1⟩, 0, ⟨#[]⟩⟩, ⟨⟨0, 2⟩, 3, ⟨#[]⟩⟩, ⟨⟨1, 0⟩, 0, ⟨#[]⟩⟩] := by rfl
theorem wake_find : findN [⟨⟨0, 1⟩, 0, ⟨#[]⟩⟩, ⟨⟨0, 2⟩, 3, ⟨#[]⟩⟩, ⟨⟨1, 0⟩, 0, ⟨#[]⟩⟩] ⟨1, 0⟩ = 2 ∧ findB [⟨⟨0, 1⟩, 0, ⟨#[]⟩⟩, ⟨⟨0, 2⟩, 3, ⟨#[]⟩⟩, ⟨⟨1, 0⟩, 0, ⟨#[]⟩⟩] ⟨1, 0⟩ = true := by decide
theorem wake_row : chkRow twoB ⟨⟨0, 0⟩, 11, ⟨#[]⟩⟩ = 152 := by decide

theorem wake_ok : ∀ r ∈ wakeL, RowOk r := by
  intro r hr
  simp only [wakeL, List.mem_cons, List.not_mem_nil, or_false] at hr
  rcases hr with rfl | rfl <;> exact ⟨⟨by unfold I64; exact ⟨by decide, by decide⟩, by decide⟩, by unfold I64; exact ⟨by decide, by decide⟩, by unfold maxLen; decide⟩
theorem wake_ok2 : RowOk ⟨⟨0, 2⟩, 3, ⟨#[]⟩⟩ := ⟨⟨by unfold I64; exact ⟨by decide, by decide⟩, by decide⟩, by unfold I64; exact ⟨by decide, by decide⟩, by unfold maxLen; decide⟩

theorem wake_rows {w : World} {g : Nat} (h : Boxed w g [.int .i64 0, .int .u16 1, .int .i64 0, .string ⟨#[]⟩, .int .i64 1, .int .u16 0, .int .i64 0, .string ⟨#[]⟩]) : RowsOn w (some ⟨g, 0, none⟩) 2 2 wakeL :=
  ⟨rfl, Nat.le_refl _, by unfold maxLen; omega, (fun e => by cases e), fun i r hi => ⟨_, rfl, fun j x hj => by
    match i, hi with
    | 0, hi =>
      obtain rfl : (⟨⟨0, 1⟩, 0, ⟨#[]⟩⟩ : RowD) = r := by simpa [wakeL] using hi
      rw [Nat.zero_mul, add0]
      match j, hj with
      | 0, hj => exact h 0 _ hj
      | 1, hj => exact h 1 _ hj
      | 2, hj => exact h 2 _ hj
      | 3, hj => exact h 3 _ hj
      | j + 4, hj => simp [RowD.cells] at hj
    | 1, hi =>
      obtain rfl : (⟨⟨1, 0⟩, 0, ⟨#[]⟩⟩ : RowD) = r := by simpa [wakeL] using hi
      rw [Go.Deep.add_add]
      match j, hj with
      | 0, hj => exact h 4 _ hj
      | 1, hj => exact h 5 _ hj
      | 2, hj => exact h 6 _ hj
      | 3, hj => exact h 7 _ hj
      | j + 4, hj => simp [RowD.cells] at hj
    | i + 2, hi => simp [wakeL] at hi⟩, wake_ok⟩

set_option maxRecDepth 100000 in
set_option maxHeartbeats 2000000 in
theorem wakes_any (w : World) : Calls Try.prog 9 #[] w (fun e w' => e = .returned (.bool true) ∧ Below w.heap.size w w') := by
  go_enter Try.func9, Try.ntmps9
  go_wp2_with fail
  refine (two_any _).mono ?_
  rintro e w1 ⟨g1, rfl, hs, hb⟩
  have hs1 := Lib.hid hs
  have hb1 := Lib.hid hb
  clear hs hb
  obtain ⟨W1, hW1⟩ : ∃ W1, w1.alloc (.cells #[.int .i64 0, .int .u16 1, .int .i64 0, .string ⟨#[]⟩, .int .i64 1, .int .u16 0, .int .i64 0, .string ⟨#[]⟩] 38) = W1 := ⟨_, rfl⟩
  have hbx := Lib.hid (one_box (xs := [.int .i64 0, .int .u16 1, .int .i64 0, .string ⟨#[]⟩, .int .i64 1, .int .u16 0, .int .i64 0, .string ⟨#[]⟩]) hW1)
  have hp := Lib.hid (put_any _ 2 2 twoB _ 2 2 wakeL 0 2 3 ⟨#[]⟩ W1 (hs1.out.below hbx.out.1 (Nat.le_refl _)) (wake_rows hbx.out.2.1) wake_ok2)
  go_wp2_with fail
  clear hW1
  refine hp.out.mono ?_
  rintro e w2 ⟨q2, m2, c2, rfl, hr2, hb2⟩
  rw [wake_put]
  rw [wake_list] at hr2
  obtain rfl : 3 = m2 := hr2.len
  have hr3 := Lib.hid hr2
  have hb3 := Lib.hid (hb1.out.trans ((hbx.out.1.trans (hb2.mono hbx.out.1.size)).mono hb1.out.size))
  clear hr2 hb2 hp
  go_wp2_with fail
  refine (find_any q2 3 c2 _ 1 0 w2 hr3.out (by omega)).mono ?_
  rintro e w3 ⟨rfl, hb4⟩
  rw [wake_find.1, wake_find.2]
  have hb5 := Lib.hid (hb3.out.trans (hb4.mono hb3.out.size))
  clear hb4
  go_wp2_with fail
  refine (two_any _).mono ?_
  rintro e w4 ⟨g4, rfl, hs, hb⟩
  have hs4 := Lib.hid hs
  have hb6 := Lib.hid (hb5.out.trans (hb.mono hb5.out.size))
  clear hs hb
  go_wp2_with fail
  refine (checkRow_any _ 2 2 twoB 0 0 11 ⟨#[]⟩ w4 hs4.out (by unfold maxLen; decide)).mono ?_
  rintro e w5 ⟨rfl, hb⟩
  rw [wake_row]
  have hb7 := Lib.hid (hb6.out.trans (hb.mono hb6.out.size))
  clear hb
  go_wp2
  go_ret
  exact ⟨rfl, hb7.out⟩
end Go.Proofs.Ytcnkelpnoahapaa
