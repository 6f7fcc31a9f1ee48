/- The contracts of U8, U16, U32, U64, Left, Err and Read. -/
import Derived.Test.YtcniolmihpkmmaaRdr
namespace Go.Proofs.Ytcniolmihpkmmaa
open Go.RowKit

theorem numV1 (l : List UInt8) (err : Int) : 0 ≤ numV 1 l err ∧ numV 1 l err < 256 := numV_lt 1 l err
theorem numV2 (l : List UInt8) (err : Int) : 0 ≤ numV 2 l err ∧ numV 2 l err < 65536 := numV_lt 2 l err
theorem numV4 (l : List UInt8) (err : Int) : 0 ≤ numV 4 l err ∧ numV 4 l err < 4294967296 := numV_lt 4 l err

set_option maxHeartbeats 400000 in
theorem u8_any (g : Nat) (d : Option Nat) (err : Int) (l : List UInt8) (w : World) (h : Rdr w g d l err) :
    Calls Try.prog 48 #[.pointer (some ⟨g, 0, none⟩)] w (StepPost (.int .u8 (numV 1 l err)) w g d 1 l err) := by
  have h1 := Lib.hid h
  obtain ⟨b0, b1⟩ := numV1 l err
  clear h
  go_enter Try.func48, Try.ntmps48
  go_wp2_with (go_at_call 61; refine (number_any g d 1 err l w h1.out (by omega) (by omega)).mono ?_; rintro e w' ⟨rfl, hg, hr⟩)
  go_ret
  exact ⟨rfl, hg, hr⟩

set_option maxHeartbeats 400000 in
theorem u16_any (g : Nat) (d : Option Nat) (err : Int) (l : List UInt8) (w : World) (h : Rdr w g d l err) :
    Calls Try.prog 65 #[.pointer (some ⟨g, 0, none⟩)] w (StepPost (.int .u16 (numV 2 l err)) w g d 2 l err) := by
  have h1 := Lib.hid h
  obtain ⟨b0, b1⟩ := numV2 l err
  clear h
  go_enter Try.func65, Try.ntmps65
  go_wp2_with (go_at_call 61; refine (number_any g d 2 err l w h1.out (by omega) (by omega)).mono ?_; rintro e w' ⟨rfl, hg, hr⟩)
  go_ret
  exact ⟨rfl, hg, hr⟩

set_option maxHeartbeats 400000 in
theorem u64_any (g : Nat) (d : Option Nat) (err : Int) (l : List UInt8) (w : World) (h : Rdr w g d l err) :
    Calls Try.prog 52 #[.pointer (some ⟨g, 0, none⟩)] w (StepPost (.int .u64 (numV 8 l err)) w g d 8 l err) := by
  have h1 := Lib.hid h
  clear h
  go_enter Try.func52, Try.ntmps52
  go_wp2_with (go_at_call 61; refine (number_any g d 8 err l w h1.out (by omega) (by omega)).mono ?_; rintro e w' ⟨rfl, hg, hr⟩)
  go_ret
  exact ⟨rfl, hg, hr⟩

set_option maxHeartbeats 400000 in
theorem left_any (g : Nat) (d : Option Nat) (err : Int) (l : List UInt8) (w : World) (h : Rdr w g d l err) :
    Calls Try.prog 47 #[.pointer (some ⟨g, 0, none⟩)] w (fun e w' => e = .returned (.int .i64 (l.length : Int)) ∧ w = w') := by
  obtain ⟨p, n, c, hr, hv, _⟩ := h
  obtain rfl := holds_len hv
  have c0 := hr.c0
  clear hr hv
  go_enter Try.func47, Try.ntmps47
  go_wp2
  go_ret
  exact ⟨rfl, rfl⟩

set_option maxHeartbeats 400000 in
theorem err_any (g : Nat) (d : Option Nat) (err : Int) (l : List UInt8) (w : World) (h : Rdr w g d l err) :
    Calls Try.prog 49 #[.pointer (some ⟨g, 0, none⟩)] w (fun e w' => e = .returned (.int .i64 err) ∧ w = w') := by
  obtain ⟨p, n, c, hr, hv, _⟩ := h
  have c1 := hr.c1
  clear hr hv
  go_enter Try.func49, Try.ntmps49
  go_wp2
  go_ret
  exact ⟨rfl, rfl⟩

def ReadPost (w : World) (l : List UInt8) (e : Ending) (w' : World) : Prop :=
  ∃ g d, e = .returned (.pointer (some ⟨g, 0, none⟩)) ∧ Rdr w' g d l 0 ∧ w.heap.size ≤ g ∧ (∀ x, d = some x → w.heap.size ≤ x) ∧ Below w.heap.size w w'

theorem read_shut {w w1 : World} {q : Option Addr} {n c : Nat} {l : List UInt8} (hnew : New w.heap.size w1 (.slice q n c) l) (hb : Below w.heap.size w w1) (hn : l.length ≤ 140737488355328) :
    ReadPost w l (.returned (.pointer (some ⟨w1.heap.size, 0, none⟩))) (w1.alloc (.cells #[.slice q n c, .int .i64 0] 104)) := by
  have hl := holds_len hnew.1
  refine ⟨w1.heap.size, q.map (·.block), rfl, ⟨q, n, c, heap_alloc_new _ _, ?_, ?_, by omega, rfl, ?_, ?_⟩, hb.size, ?_, hb.alloc hb.size _⟩
  · exact holds_below hnew.1 ((Below.refl _ _).alloc (Nat.le_refl _) _) (Nat.le_refl _)
  · cases q with
    | none => obtain ⟨_, _, he, h1, _⟩ := hnew.1; cases he; rw [h1 rfl]; simp
    | some a => exact (hnew.2 a n c rfl).2.2
  · cases q with
    | none => simp
    | some a => have := (hnew.2 a n c rfl).2.1; simp; omega
  · intro x e
    cases q with
    | none => cases e
    | some a => have := (hnew.2 a n c rfl).2.1; cases e; simp; omega
  · intro x e
    cases q with
    | none => cases e
    | some a => have := (hnew.2 a n c rfl).1; cases e; exact this

set_option maxHeartbeats 400000 in
theorem read_any (p : Option Addr) (n c : Nat) (l : List UInt8) (w : World) (hv : Lib.HoldsBytes w (.slice p n c) l) (hn : n ≤ 140737488355328) :
    Calls Try.prog 46 #[.slice p n c] w (ReadPost w l) := by
  have hl := holds_len hv
  have hv1 := Lib.hid hv
  have hn1 : Hid (l.length ≤ 140737488355328) := by show _ ≤ _; omega
  clear hv hl
  go_enter Try.func46, Try.ntmps46
  go_wp2_with (go_at_call 60; refine (clone p n c l w hv1.out hn).mono ?_; rintro e w1 ⟨q, c', rfl, hnew, hb⟩)
  go_ret
  exact read_shut hnew hb hn1.out

end Go.Proofs.Ytcniolmihpkmmaa
