/- fresh: a new disk, and a new ring on it. -/
import Derived.Test.YtjhnagipagkhiaaGreatRAll
import Derived.OwnWalk
namespace Go.Proofs.YtjhnagipagkhiaaGreat
open Go.RowKit

theorem sane_new (n : Nat) : Sane (dNew n) n := ⟨rfl, rfl, rfl, by simp [dNew], by show (0 : Int) ≤ 0; omega⟩

/-- a ring of this size on a new disk is laid -/
theorem lay_new (n size : Nat) (h : size + 2 ≤ n) : ∃ d', layAll (dNew n) [nouL (size + 2), [((1 : Nat), pad (headB 1 size 1 0 []))]] = (0, d') ∧ Sane d' n ∧ d'.ops = size + 5 := by
  obtain ⟨d1, e1, s1, o1⟩ := (sane_new n).lay (nouL (size + 2)) (fun y hy => by
    obtain ⟨i, hi, rfl⟩ := List.mem_map.1 hy
    have := List.mem_range.1 hi
    exact ⟨by show (0 : Int) ≤ i; omega, by show (i : Int) < n; omega⟩) [[((1 : Nat), pad (headB 1 size 1 0 []))]]
  obtain ⟨d2, e2, s2, o2⟩ := s1.lay [((1 : Nat), pad (headB 1 size 1 0 []))] (fun y hy => by
    rw [List.mem_singleton.1 hy]
    exact ⟨by show (0 : Int) ≤ ((1 : Nat) : Int); omega, by show ((1 : Nat) : Int) < n; omega⟩) []
  refine ⟨d2, by rw [e1, e2]; rfl, s2, ?_⟩
  rw [o2, o1]
  have : (nouL (size + 2)).length = size + 2 := by unfold nouL; rw [List.length_map, List.length_range]
  rw [this]
  show (0 : Int) + ((size + 2 : Nat) : Int) + 1 + ((1 : Nat) : Int) + 1 = (size : Int) + 5
  omega

set_option maxHeartbeats 1000000 in
theorem fresh_any (w : World) : Calls Tryz.prog 25 #[] w (fun e w' => ∃ rg p d x, e = .returned (.tuple #[.pointer (some ⟨rg, 0, none⟩), ptr p, .bool true]) ∧ w.heap.size ≤ rg ∧ RgOn w' rg p d x [] [] [] ∧ Sane d 22 ∧ d.ops = 25 ∧ (∀ j ∈ p.L, w.heap.size ≤ j) ∧
    x.turn = 1 ∧ x.size = 20 ∧ x.first = 1 ∧ x.place = 0 ∧ x.used = 0 ∧ x.br = false ∧ Below w.heap.size w w') := by
  obtain ⟨d', hl, hs, ho⟩ := lay_new 22 20 (by omega)
  have hl' := Lib.hid hl
  have hs' := Lib.hid hs
  have ho' := Lib.hid ho
  clear hl hs ho
  go_enter Tryz.func25, Tryz.ntmps25
  go_wp2_with (first
    | (go_at_call 8; refine (new_any 22 _ (by decide) (by decide)).mono ?_; rintro e w1 ⟨p, rfl, hA, hB, hL⟩; have hA' := Lib.hid hA; have hB' := Lib.hid hB; have hL' := Lib.hid hL; clear hA hB hL)
    | (go_at_call 13; refine (format_ok p (dNew 22) d' 20 _ hA'.out (by decide) (by decide) (by simp [dNew]) (by show (0 : Int) ≤ 0; omega) (by show (0 : Int) < 1152921504606846976; omega) hl'.out).mono ?_
       rintro e w2 ⟨rg, x, rfl, h1, h2, h3⟩; have h1' := Lib.hid h1; have h2' := Lib.hid h2; have h3' := Lib.hid h3; clear h1 h2 h3))
  refine bodyPost_ret (results_tmp3 rfl _ _ _) rfl ?_
  obtain ⟨a1, a2, a3, a4, a5, a6, hT⟩ := h3'.out
  exact ⟨rg, p, d', x, rfl, Nat.le_trans hB'.out.size h1'.out, h2'.out, hs'.out, ho'.out, hL'.out, a1, a2, a3, a4, a5, a6, ⟨hT.os.trans hB'.out.os, hT.tape.trans hB'.out.tape, hT.output.trans hB'.out.output, Nat.le_trans hB'.out.size hT.size, fun k hk => (hT.block k (Nat.lt_of_lt_of_le hk hB'.out.size) (fun hin => by have := hL'.out k hin; omega)).trans (hB'.out.block k hk)⟩⟩

end Go.Proofs.YtjhnagipagkhiaaGreat
