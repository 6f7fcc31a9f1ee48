/- spliced of row: a copy of a list, of whose rows some have given way to others. -/
import Derived.Test.YtkdkncbccofpdaaYSrc
import Derived.Test.YtkdkncbccofpdaaYOwn
namespace Go.Proofs.Ytkdkncbccofpdaa
open Go.RowKit

theorem grown_belowN {w w' : World} {q : Option Nat} {B : Nat} (h : w.grownBy w' q) (hB : B ≤ w.heap.size) (hq : ∀ k, q = some k → B ≤ k) : Below B w w' :=
  ⟨h.os, h.tape, h.output, h.size, fun k hk => h.block k (by omega) (fun e => by have := hq k e.symm; omega)⟩

set_option maxRecDepth 100000 in
set_option maxHeartbeats 1000000 in
theorem clone_any (q : Option Addr) (n c : Nat) (l : List RowD) (w : World) (hr : RowsOn w q n c l) (hn : n ≤ 1000000) :
    Calls Try.prog 34 #[.slice q n c] w (fun e w' => ∃ q' c', e = .returned (.slice q' n c') ∧ OwnR 68 w' w.heap.size (.slice q' n c') l ∧ Below w.heap.size w w') := by
  cases q with
  | none =>
    have h0 := hr.nil rfl
    have h1 := hr.le
    have h2 := hr.len
    obtain rfl : n = 0 := by omega
    obtain rfl := List.eq_nil_of_length_eq_zero h2
    subst h0
    clear h1 hr
    have heq : ∀ u, (binOp .eql 25 (.slice none 0 0) (.slice none 0 0)).run Try.prog u = .ok (.bool true) u := fun u => Lib.run_eql_slice_nil u _ _ _ _ _ _ _ Try.underlying25
    go_enter Try.func34, Try.ntmps34
    go_wp2
    go_ret
    exact ⟨none, 0, rfl, OwnR.nil _ _ _, Below.refl _ _⟩
  | some ad =>
    have hrr := Lib.hid hr
    have hl := Lib.hid hr.len
    clear hr
    have heq : ∀ u, (binOp .eql 25 (.slice (some ad) n c) (.slice none 0 0)).run Try.prog u = .ok (.bool false) u := fun u => Lib.run_eql_slice_nil u _ _ _ _ _ _ _ Try.underlying25
    have ho : Hid (OwnR 68 (w.alloc (.cells #[] 68)) w.heap.size (.slice (some ⟨w.heap.size, 0, none⟩) 0 0) []) := World.ownsRow_made w #[] 0 (Nat.le_refl _) (Nat.zero_le _) rfl
    go_enter Try.func34, Try.ntmps34
    go_wp2_with (first
      | (at_builtin
         refine wpList_append_r Try.underlying25 infoRow rfl rfl (.tmp 5) (.tmp 6) rfl rfl rfl ho.out (hrr.out.below ((Below.refl _ _).alloc (Nat.le_refl _) _) (Nat.le_refl _)) (by omega) (by omega) (by simp) ?_
         intro q' c' w' h1 h2 h3
         have hh := Lib.hid h1
         have hg := Lib.hid h2
         clear h1 h2 h3))
    go_ret
    refine ⟨q', c', rfl, by have := hh.out; rwa [Nat.zero_add] at this, ((Below.refl w.heap.size w).alloc (Nat.le_refl _) _).trans (grown_belowN hg.out (by simp) (fun k hk => by cases hk; exact Nat.le_refl _))⟩
end Go.Proofs.Ytkdkncbccofpdaa
