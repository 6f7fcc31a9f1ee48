/- slices.Clone of slices of bytes: a row of the call's own with the same cells. -/
import Derived.Test.YtjhnagipagkhiaaGreatRFre
namespace Go.Proofs.YtjhnagipagkhiaaGreat
open Go.RowKit

set_option maxRecDepth 100000 in
set_option maxHeartbeats 1000000 in
theorem clone_slices (q : Option Addr) (n c : Nat) (vs : List Value) (w : World) (hl : vs.length = n) (hone : ∀ v ∈ vs, v.oneCell' = true) (hq : q = none → n = 0 ∧ c = 0) (hc : ∀ ad, q = some ad → ad.block < w.heap.size ∧ ∀ j u, vs[j]? = some u → w.cell? (ad.add j) = some u) (hn : n ≤ 1000000) :
    Calls Tryz.prog 61 #[.slice q n c] w (fun e w' => ∃ q' c', e = .returned (.slice q' n c') ∧ OwnV 30 w' w.heap.size (.slice q' n c') vs ∧ Below w.heap.size w w') := by
  cases q with
  | none =>
    obtain ⟨rfl, rfl⟩ := hq rfl
    obtain rfl := List.eq_nil_of_length_eq_zero hl
    clear hc hone
    have heq : ∀ u, (binOp .eql 33 (.slice none 0 0) (.slice none 0 0)).run Tryz.prog u = .ok (.bool true) u := fun u => Lib.run_eql_slice_nil u _ _ _ _ _ _ _ Tryz.underlying33
    go_enter Tryz.func61, Tryz.ntmps61
    go_wp2
    go_ret
    exact ⟨none, 0, rfl, OwnV.nil _ _ _, Below.refl _ _⟩
  | some ad =>
    have hrr : Hid (∀ j u, vs[j]? = some u → (w.alloc (.cells #[] 30)).cell? (ad.add j) = some u) := fun j u hu => by
      rw [((Below.refl w.heap.size w).alloc (Nat.le_refl _) (.cells #[] 30)).cell (by rw [add_block]; exact (hc ad rfl).1)]
      exact (hc ad rfl).2 j u hu
    have hone' := Lib.hid hone
    clear hc hone
    have heq : ∀ u, (binOp .eql 33 (.slice (some ad) n c) (.slice none 0 0)).run Tryz.prog u = .ok (.bool false) u := fun u => Lib.run_eql_slice_nil u _ _ _ _ _ _ _ Tryz.underlying33
    have ho : Hid (OwnV 30 (w.alloc (.cells #[] 30)) w.heap.size (.slice (some ⟨w.heap.size, 0, none⟩) 0 0) []) := World.ownsRow_made w #[] 0 (Nat.le_refl _) (Nat.zero_le _) rfl
    go_enter Tryz.func61, Tryz.ntmps61
    go_wp2_with (first
      | (at_builtin
         refine wpList_append_at1 Tryz.underlying33 info28 rfl rfl (.tmp 5) (.tmp 6) rfl rfl rfl (ys := vs) ho.out hrr.out hl hone'.out (by omega) (by omega) (by simp) ?_
         intro q' c' w' h1 h2 h3
         have hh := Lib.hid h1
         have hg := Lib.hid h2
         clear h1 h2 h3))
    go_ret
    refine ⟨q', c', rfl, by have := hh.out; rwa [Nat.zero_add] at this, ((Below.refl w.heap.size w).alloc (Nat.le_refl _) _).trans ⟨hg.out.os, hg.out.tape, hg.out.output, hg.out.size, fun k hk => hg.out.block k (by simp; omega) (fun e => by have h2 : k = w.heap.size := (by simpa using e); omega)⟩⟩
end Go.Proofs.YtjhnagipagkhiaaGreat
