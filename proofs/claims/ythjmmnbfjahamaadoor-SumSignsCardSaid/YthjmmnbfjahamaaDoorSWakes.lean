/- wakes: it returns true. -/
import Derived.Test.YthjmmnbfjahamaaDoorCheck
import Derived.Lib.SlBytesConst
namespace Go.Proofs.YthjmmnbfjahamaaDoor
open Go.RowKit

def nine : List UInt8 := [49, 50, 51, 52, 53, 54, 55, 56, 57]
theorem un_nine : un (crc nine) = 3808858755 := congrArg (fun n : Nat => (n : Int)) crc_nine
theorem un_none : un (crc []) = 0 := congrArg (fun n : Nat => (n : Int)) crc_none
theorem ck_z4 : ck [0, 0, 0, 0] = 0 := by decide +kernel
theorem ck_z1 : ck [0, 0, 0, 1] = 130 := by decide +kernel
theorem ck_z3 : ck [0, 0, 0] = 130 := by decide +kernel

theorem row_built (w : World) (l : List UInt8) (cs : Array Value) (h : cs = (vals l).toArray) : Row 5 (w.alloc (.cells cs 5)) w.heap.size l := by
  subst h
  exact heap_alloc_new _ _
theorem holds_nil (w : World) : Lib.HoldsBytes w (.slice none 0 0) [] := ⟨none, 0, rfl, fun _ => rfl, fun a ha => by cases ha⟩

theorem holds_marked (w : World) (l : List UInt8) (fr : Nat × Nat) (c : Nat) : Lib.HoldsBytes (w.alloc (.cells (vals l).toArray 5 fr)) (.slice (some ⟨w.heap.size, 0, none⟩) l.length c) l := by
  refine ⟨some ⟨w.heap.size, 0, none⟩, c, rfl, (fun e => by cases e), fun a ha i x hx => ?_⟩
  cases ha
  have hadd : (⟨w.heap.size, 0, none⟩ : Addr).add i = ⟨w.heap.size, i, none⟩ := by unfold Addr.add; split <;> simp_all
  rw [hadd, cell_of_row _ w.heap.size i _ 5 fr (heap_alloc_new _ _)]
  simp [vals, hx]

set_option maxHeartbeats 1000000 in
theorem wakes_any (w : World) (hL : Laid w) :
    Calls Tryd.prog 9 #[] w (fun e w' => e = .returned (.bool true) ∧ Below w.heap.size w w') := by
  have hL1 := Lib.hid hL
  clear hL
  have kc := Lib.run_convert_bytes_const (P := Tryd.prog) w 22 5 #[.int .u8 49, .int .u8 50, .int .u8 51, .int .u8 52, .int .u8 53, .int .u8 54, .int .u8 55, .int .u8 56, .int .u8 57] 9 9 Tryd.underlying22 Tryd.underlying5
  go_enter Tryd.func9, Tryd.ntmps9
  go_wp2_with fail
  clear kc
  have hb1 := Lib.hid ((Below.refl w.heap.size w).alloc (Nat.le_refl _) (.cells #[.int .u8 49, .int .u8 50, .int .u8 51, .int .u8 52, .int .u8 53, .int .u8 54, .int .u8 55, .int .u8 56, .int .u8 57] 5 (9, 10)))
  refine (sum_any (some ⟨w.heap.size, 0, none⟩) 9 9 nine _ (hL1.out.keep hb1.out hL1.out.size) (holds_marked w nine (9, 10) 9) (by decide)).mono ?_
  rintro e w1 ⟨rfl, hb⟩
  rw [un_nine]
  have hb2 := Lib.hid (hb1.out.trans (hb.mono hb1.out.size))
  clear hb hb1
  go_wp2_with fail
  refine (sum_any none 0 0 [] w1 (hL1.out.keep hb2.out hL1.out.size) (holds_nil _) (by decide)).mono ?_
  rintro e w2 ⟨rfl, hb⟩
  rw [un_none]
  have hb3 := Lib.hid (hb2.out.trans (hb.mono hb2.out.size))
  clear hb hb2
  go_wp2_with fail
  have hb4 := Lib.hid (hb3.out.alloc hb3.out.size (.cells #[.int .u8 0, .int .u8 0, .int .u8 0, .int .u8 0] 5))
  refine (check_any (some ⟨w2.heap.size, 0, none⟩) 4 4 [0, 0, 0, 0] _ (hL1.out.keep hb4.out hL1.out.size) ((row_built w2 [0, 0, 0, 0] _ rfl).holds 4) (by decide) (by decide)).mono ?_
  rintro e w3 ⟨rfl, hb⟩
  rw [ck_z4]
  have hb5 := Lib.hid (hb4.out.trans (hb.mono hb4.out.size))
  clear hb hb4 hb3
  go_wp2_with fail
  have hb6 := Lib.hid (hb5.out.alloc hb5.out.size (.cells #[.int .u8 0, .int .u8 0, .int .u8 0, .int .u8 1] 5))
  refine (check_any (some ⟨w3.heap.size, 0, none⟩) 4 4 [0, 0, 0, 1] _ (hL1.out.keep hb6.out hL1.out.size) ((row_built w3 [0, 0, 0, 1] _ rfl).holds 4) (by decide) (by decide)).mono ?_
  rintro e w4 ⟨rfl, hb⟩
  rw [ck_z1]
  have hb7 := Lib.hid (hb6.out.trans (hb.mono hb6.out.size))
  clear hb hb6 hb5
  go_wp2_with fail
  have hb8 := Lib.hid (hb7.out.alloc hb7.out.size (.cells #[.int .u8 0, .int .u8 0, .int .u8 0] 5))
  refine (check_any (some ⟨w4.heap.size, 0, none⟩) 3 3 [0, 0, 0] _ (hL1.out.keep hb8.out hL1.out.size) ((row_built w4 [0, 0, 0] _ rfl).holds 3) (by decide) (by decide)).mono ?_
  rintro e w5 ⟨rfl, hb⟩
  rw [ck_z3]
  have hb9 := Lib.hid (hb8.out.trans (hb.mono hb8.out.size))
  clear hb hb8 hb7
  go_wp2_with fail
  go_ret
  exact ⟨rfl, hb9.out⟩

end Go.Proofs.YthjmmnbfjahamaaDoor
