/- The contract of wakes: it returns true. -/
import Derived.Test.YtoafcpfadkejnaaFill
namespace Go.Proofs.Ytoafcpfadkejnaa
open Go.RowKit

def To (v : Value) (w : World) (g : Nat) (d : Option Nat) (l : List UInt8) (err : Int) (e : Ending) (w' : World) : Prop :=
  e = .returned v ∧ w.grownBy w' (some g) ∧ Rdr w' g d l err

theorem step_to {P : Program} {f : FuncId} {args : Array Value} {k err : Int} {g : Nat} {d : Option Nat} {l : List UInt8} {w : World} {v : Value} (h : Calls P f args w (StepPost v w g d k l err)) (l' : List UInt8) (err' : Int) (v' : Value)
    (hl : nextL k l err = l') (he : nextE k l err = err') (hv : v = v') : Calls P f args w (To v' w g d l' err') := by
  subst hl; subst he; subst hv; exact h

set_option maxHeartbeats 800000 in
theorem wakes_any (w : World) : Calls Try.prog 10 #[] w (fun e w' => e = .returned (.bool true) ∧ Below w.heap.size w w') := by
  have hb1 := Lib.hid ((Below.refl w.heap.size w).alloc (Nat.le_refl _) (.cells #[.int .u8 5] 5))
  have hr1 : Hid (Row 5 (w.alloc (.cells #[.int .u8 5] 5)) w.heap.size [5]) := heap_alloc_new _ _
  go_enter Try.func10, Try.ntmps10
  go_wp2_with fail
  refine (put16 (some ⟨w.heap.size, 0, none⟩) 1 1 515 [5] _ (hr1.out.holds 1) (by decide) (by decide) (by decide)).mono ?_
  rintro e w2 ⟨rfl, hrow, hb⟩
  have hb2 := Lib.hid (hb1.out.trans (hb.mono hb1.out.size))
  have hr2 : Hid (Row 5 w2 (w.heap.size + 1) [5, 2, 3]) := by rw [World.size_alloc] at hrow; exact hrow
  clear hrow hb
  go_wp2_with fail
  refine (put32 (some ⟨w.heap.size + 1, 0, none⟩) 3 3 7 [5, 2, 3] _ (hr2.out.holds 3) (by decide) (by decide) (by decide)).mono ?_
  rintro e w3 ⟨rfl, hrow, hb⟩
  have hb3 := Lib.hid (hb2.out.trans (hb.mono hb2.out.size))
  have hr3 : Hid (Row 5 w3 w2.heap.size [5, 2, 3, 0, 0, 0, 7]) := hrow
  clear hrow hb
  go_wp2_with fail
  refine (read_any (some ⟨w2.heap.size, 0, none⟩) 7 7 [5, 2, 3, 0, 0, 0, 7] _ (hr3.out.holds 7) (by decide)).mono ?_
  rintro e w4 ⟨g, d, rfl, hr, hg, hd, hb⟩
  have hb4 := Lib.hid (hb3.out.trans (hb.mono hb3.out.size))
  have hg4 : Hid (w.heap.size ≤ g) := Nat.le_trans hb3.out.size hg
  have hr4 := Lib.hid hr
  clear hr hg hd hb
  go_wp2_with fail
  refine (step_to (u8_any g d 0 _ w4 hr4.out) [2, 3, 0, 0, 0, 7] 0 (.int .u8 5) rfl rfl rfl).mono ?_
  rintro e w5 ⟨rfl, hg, hr⟩
  have hb5 := Lib.hid (hb4.out.grown hg hb4.out.size (fun k e => by cases e; exact hg4.out))
  have hr5 := Lib.hid hr
  clear hr hg
  go_wp2_with fail
  refine (step_to (u16_any g d 0 _ w5 hr5.out) [0, 0, 0, 7] 0 (.int .u16 515) rfl rfl rfl).mono ?_
  rintro e w6 ⟨rfl, hg, hr⟩
  have hb6 := Lib.hid (hb5.out.grown hg hb5.out.size (fun k e => by cases e; exact hg4.out))
  have hr6 := Lib.hid hr
  clear hr hg
  go_wp2_with fail
  refine (step_to (u32_any g d 0 _ w6 hr6.out) [] 0 (.int .u32 7) rfl rfl rfl).mono ?_
  rintro e w7 ⟨rfl, hg, hr⟩
  have hb7 := Lib.hid (hb6.out.grown hg hb6.out.size (fun k e => by cases e; exact hg4.out))
  have hr7 := Lib.hid hr
  clear hr hg
  have hbA := Lib.hid (hb7.out.alloc hb7.out.size (.cells #[.int .u8 7] 5))
  have hrA := Lib.hid (hr7.out.below ((Below.refl _ _).alloc (Nat.le_refl _) (.cells #[.int .u8 7] 5)))
  have hrowA : Hid (Row 5 (w7.alloc (.cells #[.int .u8 7] 5)) w7.heap.size [7]) := heap_alloc_new _ _
  go_wp2_with fail
  refine (fill_ok (some ⟨w7.heap.size, 0, none⟩) 1 1 3 [7] _ (hrowA.out.holds 1) (by decide) (by decide)).mono ?_
  rintro e w8 ⟨rfl, hrow, hb⟩
  have hb8 := Lib.hid (hbA.out.trans (hb.mono hbA.out.size))
  have hr8 := Lib.hid (hrA.out.below hb)
  have hrow8 : Hid (Row 5 w8 (w7.heap.size + 1) [7, 0, 0]) := by rw [World.size_alloc] at hrow; exact hrow
  clear hrow hb
  go_wp2_with fail
  refine (left_any g d 0 _ w8 hr8.out).mono ?_
  rintro e w9 ⟨rfl, rfl⟩
  go_wp2_with fail
  refine (err_any g d 0 _ w8 hr8.out).mono ?_
  rintro e w9 ⟨rfl, rfl⟩
  go_wp2_with fail
  refine (step_to (u8_any g d 0 _ w8 hr8.out) [] 7 (.int .u8 0) rfl rfl rfl).mono ?_
  rintro e w9 ⟨rfl, hg, hr⟩
  have hb9 := Lib.hid (hb8.out.grown hg hb8.out.size (fun k e => by cases e; exact hg4.out))
  have hr9 := Lib.hid hr
  have hrow9 : Hid (Row 5 w9 (w7.heap.size + 1) [7, 0, 0]) := hrow8.out.block (hg.block _ hrow8.out.lt (by
    have := hr7.out
    obtain ⟨_, _, _, h, _⟩ := this
    have := h.lt
    simp; omega))
  clear hr hg
  go_wp2_with fail
  refine (err_any g d 7 _ w9 hr9.out).mono ?_
  rintro e wA ⟨rfl, rfl⟩
  have hcell := hrow9.out.cell 0 (by decide)
  go_wp2_with fail
  go_goals
  go_ret
  exact ⟨rfl, hb9.out⟩

end Go.Proofs.Ytoafcpfadkejnaa
