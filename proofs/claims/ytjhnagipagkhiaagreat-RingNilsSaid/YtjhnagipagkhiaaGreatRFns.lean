/- The small functions of ring: Sectors, piece, placeBehind, sectorBehind; and what a Ring tells: First, Left, next. -/
import Derived.Test.YtjhnagipagkhiaaGreatRMk
import Derived.Test.YtjhnagipagkhiaaGreatHeld
import Derived.Test.YtjhnagipagkhiaaGreatPair
import Derived.BigQuiet
import Derived.Deep.QuietTactic
namespace Go.Proofs.YtjhnagipagkhiaaGreat
open Go.RowKit

/-- how many sectors an entry of n bytes has -/
def secs (n : Nat) : Nat := (n - 1) / 52 + 1
theorem secs_pos (n : Nat) : 1 ≤ secs n := by unfold secs; omega
theorem sectors_any (n : Nat) (w : World) (hn : n < 4611686018427387904) : Calls Tryz.prog 15 #[.int .i64 n] w (fun e w' => e = .returned (.int .i64 (secs n)) ∧ w' = w) := by
  have h1 : (0 : Int) ≤ n := by omega
  have e1 : (max ((n : Int) - 1) 0) = ((n - 1 : Nat) : Int) := by omega
  have e2 : (((n - 1 : Nat) : Int).tdiv 52) = (((n - 1) / 52 : Nat) : Int) := by rw [Int.tdiv_eq_ediv_of_nonneg (by omega)]; omega
  go_enter Tryz.func15, Tryz.ntmps15
  go_wp2
  go_ret
  exact ⟨congrArg (fun z : Int => Ending.returned (.int .i64 z)) (by unfold secs; omega), rfl⟩

def wrapAt (size place n : Nat) : Nat := if place + n ≥ size then place + n - size else place + n
set_option maxHeartbeats 1000000 in
theorem placeBehind_any (turn size first place n : Nat) (nq : Option Addr) (nl nc : Nat) (w : World) (h1 : place < 100000) (h2 : n < 100000) (h3 : size < 100000) :
    Calls Tryz.prog 60 #[.agg #[.int .u32 turn, .int .i64 size, .int .u64 first, .int .i64 place, .slice nq nl nc], .int .i64 n] w (fun e w' => e = .returned (.int .i64 (wrapAt size place n)) ∧ Below w.heap.size w w') := by
  by_cases h : place + n ≥ size
  · have hi : (size : Int) ≤ (place : Int) + n := by omega
    go_enter Tryz.func60, Tryz.ntmps60
    go_wp2
    go_ret
    refine ⟨congrArg (fun z : Int => Ending.returned (.int .i64 z)) ?_, by go_grown⟩
    unfold wrapAt
    rw [if_pos h]
    omega
  · have hi : (place : Int) + n < (size : Int) := by omega
    go_enter Tryz.func60, Tryz.ntmps60
    go_wp2
    go_ret
    refine ⟨congrArg (fun z : Int => Ending.returned (.int .i64 z)) ?_, by go_grown⟩
    unfold wrapAt
    rw [if_neg h]
    omega

set_option maxHeartbeats 1000000 in
theorem sectorBehind_any (turn size first place n : Nat) (nq : Option Addr) (nl nc : Nat) (w : World) (h1 : place < 100000) (h2 : n < 100000) (h3 : size < 100000) :
    Calls Tryz.prog 80 #[.agg #[.int .u32 turn, .int .i64 size, .int .u64 first, .int .i64 place, .slice nq nl nc], .int .i64 n] w (fun e w' => e = .returned (.int .i64 ((2 + wrapAt size place n : Nat))) ∧ Below w.heap.size w w') := by
  have hcl := fun u => placeBehind_any turn size first place n nq nl nc u h1 h2 h3
  have hw : wrapAt size place n < 1000000 := by unfold wrapAt; split <;> omega
  obtain ⟨z, hz⟩ : ∃ z, wrapAt size place n = z := ⟨_, rfl⟩
  rw [hz] at hcl hw ⊢
  go_enter Tryz.func80, Tryz.ntmps80
  go_wp2_with (go_at_call 60; refine (hcl _).mono ?_; rintro e w2 ⟨rfl, hb⟩)
  go_ret
  exact ⟨congrArg (fun z : Int => Ending.returned (.int .i64 z)) (by omega), ((Below.refl _ _).alloc (Nat.le_refl _) _).trans (hb.mono (by simp))⟩

set_option maxHeartbeats 1000000 in
theorem piece_any (turn number length k : Nat) (w : World) (h1 : k < 100000) (_h2 : length < 1000000) :
    Calls Tryz.prog 86 #[.agg #[.int .u32 turn, .int .u64 number, .int .i64 length], .int .i64 k] w (fun e w' => e = .returned (.tuple #[.int .i64 (52 * k : Nat), .int .i64 (min (52 * k + 52) length : Nat)]) ∧ Below w.heap.size w w') := by
  go_enter Tryz.func86, Tryz.ntmps86
  go_wp2
  obtain ⟨w2, hw2⟩ : ∃ w2, w.alloc (.cells #[.int .u32 turn, .int .u64 number, .int .i64 length] 129) = w2 := ⟨_, rfl⟩
  have hb : Below w.heap.size w w2 := by rw [← hw2]; exact (Below.refl _ _).alloc (Nat.le_refl _) _
  have hr : RowV 129 w2 w.heap.size (mkL turn number length) := by rw [← hw2]; exact RowV.made w _
  rw [hw2]
  clear hw2
  refine wp_region_held (S := fun W => RowV 129 W w.heap.size (mkL turn number length)) (by kernel_rfl) ?_
  change wpAnyH _ _ _ _ _ _ _ _ (World.drew w2)
  have hS : RowV 129 w2.drew w.heap.size (mkL turn number length) := hr.block rfl
  refine held_take (i := 0) (dst := some 8) (v := .int .i64 ((k : Int) * 52)) rfl rfl (by kernel_rfl) (by kernel_rfl) (by kernel_rfl) (fun _ _ _ h => h) (.inl ⟨rfl, fun W _ => by go_simp⟩) hS ?_
  go_frame
  refine held_take (i := 1) (dst := some 9) (v := .int .i64 ((k : Int) * 52)) rfl rfl (by kernel_rfl) (by kernel_rfl) (by kernel_rfl) (fun _ _ _ h => h) (.inl ⟨rfl, fun W _ => by go_simp⟩) hS ?_
  go_frame
  refine held_take (i := 2) (dst := some 10) (v := .int .i64 ((k : Int) * 52 + 52)) rfl rfl (by kernel_rfl) (by kernel_rfl) (by kernel_rfl) (fun _ _ _ h => h) (.inl ⟨rfl, fun W _ => by have hwp := Go.IntWalk.i64_in ((k : Int) * 52 + 52) ⟨by omega, by omega⟩; go_simp⟩) hS ?_
  go_frame
  refine held_take (i := 3) (dst := some 11) (v := .pointer (some ⟨w.heap.size, 2, none⟩)) rfl rfl (by kernel_rfl) (by kernel_rfl) (by kernel_rfl) (fun _ _ _ h => h) (.inl ⟨rfl, fun W _ => by go_simp⟩) hS ?_
  go_frame
  refine held_take (i := 4) (dst := some 12) (v := .int .i64 length) rfl rfl (by kernel_rfl) (by kernel_rfl) (by kernel_rfl) (fun _ _ _ h => h) (.inl ⟨rfl, fun W hW => by have c1 : W.cell? ⟨w.heap.size, 2, none⟩ = some (.int .i64 length) := hW.cell 2; go_simp⟩) hS ?_
  go_frame
  refine held_take (i := 5) (dst := some 13) (v := .int .i64 (min ((k : Int) * 52 + 52) length)) rfl rfl (by kernel_rfl) (by kernel_rfl) (by kernel_rfl) (fun _ _ _ h => h) (.inl ⟨rfl, fun W _ => by go_simp⟩) hS ?_
  go_frame
  refine held_take (i := 6) (dst := some 4) (v := .int .i64 ((k : Int) * 52)) rfl rfl (by kernel_rfl) (by kernel_rfl) (by kernel_rfl) (fun _ _ _ h => h) (.inl ⟨rfl, fun W _ => by go_simp⟩) hS ?_
  go_frame
  refine held_take (i := 7) (dst := some 5) (v := .int .i64 (min ((k : Int) * 52 + 52) length)) rfl rfl (by kernel_rfl) (by kernel_rfl) (by kernel_rfl) (fun _ _ _ h => h) (.inl ⟨rfl, fun W _ => by go_simp⟩) hS ?_
  go_frame
  refine wpAnyH_done (by kernel_rfl) ?_ _
  go_wp2
  go_returns
  refine ⟨?_, hb.drew⟩
  have e1 : (k : Int) * 52 = (52 * k : Nat) := by omega
  have e2 : min ((k : Int) * 52 + 52) (length : Int) = ((min (52 * k + 52) length : Nat) : Int) := by omega
  rw [e2, e1]
  rfl

end Go.Proofs.YtjhnagipagkhiaaGreat
