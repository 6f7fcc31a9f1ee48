/- The contract of slices.Equal of two lists of blocks. -/
import Derived.Test.YtffchpgjaoakpaaAll
import Derived.Test.YtffchpgjaoakpaaHides
namespace Go.Proofs.Ytffchpgjaoakpaa
open Go.RowKit

theorem load_elem {w : World} {a : Addr} {n c i : Nat} {xs : List (List Int)} {b : List Int} (h : HoldsE w (.slice (some a) n c) (xs.map bl)) (hE : ∀ x ∈ xs, x.length = 64) (hb : xs[i]? = some b) :
    (loadVar 37 (a.add (i * 64))).run Try.prog w = .ok (agg b) w := by
  have hEach : Each 64 (xs.map bl) := fun e he => by
    obtain ⟨x, hx, rfl⟩ := List.mem_map.1 he
    exact ⟨by rw [bl_len, hE x hx], bl_one x⟩
  have hn := holdsE_len h
  have hi : i < xs.length := (List.getElem?_eq_some_iff.1 hb).1
  obtain ⟨a', e, ha, he, hc⟩ := holdsE_at h hEach (i := i) (by rw [hn, List.length_map]; exact hi)
  cases ha
  rw [List.getElem?_map, hb] at he
  obtain rfl := Option.some.inj he
  exact run_loadVar_at Try.underlying37 rfl (bl_size (hE b (List.mem_of_getElem? hb))) (a.add (i * 64)) hc

structure EqRel (w wr : World) (xs ys : List (List Int)) (i : Nat) : Prop where
  take : xs.take i = ys.take i
  drew : ∃ j, wr = w.drewN j

theorem holdsE_drew {w : World} {v : Value} {L : List (List Value)} (h : HoldsE w v L) (j : Nat) : HoldsE (w.drewN j) v L := holdsE_below h (below_drewN w j) (Nat.le_refl _)

set_option maxRecDepth 100000 in
set_option maxHeartbeats 2000000 in
theorem eqBlks_any (p q : Option Addr) (n c m d : Nat) (xs ys : List (List Int)) (w : World) (h1 : HoldsE w (.slice p n c) (xs.map bl)) (h2 : HoldsE w (.slice q m d) (ys.map bl)) (e1 : ∀ x ∈ xs, x.length = 64) (e2 : ∀ x ∈ ys, x.length = 64) (hn : n ≤ 2048) (hm : m ≤ 2048) :
    Calls Try.prog 28 #[.slice p n c, .slice q m d] w (fun e w' => e = .returned (.bool (xs == ys)) ∧ Below w.heap.size w w') := by
  have n1 : Hid (n = xs.length) := by show _ = _; rw [holdsE_len h1, List.length_map]
  have n2 : Hid (m = ys.length) := by show _ = _; rw [holdsE_len h2, List.length_map]
  have g1 := Lib.hid h1
  have g2 := Lib.hid h2
  have E1 := Lib.hid e1
  have E2 := Lib.hid e2
  clear h1 h2 e1 e2
  by_cases hnm : n = m
  · subst hnm
    go_enter Try.func28, Try.ntmps28
    go_wp2
    go_loopw [13] (fun v13 wr => ∃ i : Nat, i ≤ n ∧ v13 = .int .i64 i ∧ Hid (EqRel w wr xs ys i)) (fun v13 _ => n - (intOf v13).toNat)
    case atStart => exact ⟨0, Nat.zero_le _, rfl, ⟨rfl, 0, rfl⟩⟩
    case round =>
      obtain ⟨i, hi, rfl, hr⟩ := hrel
      by_cases hlt : i < n
      · obtain ⟨x, hx⟩ : ∃ x, xs[i]? = some x := ⟨_, List.getElem?_eq_getElem (by rw [← n1.out]; exact hlt)⟩
        obtain ⟨y, hy⟩ : ∃ y, ys[i]? = some y := ⟨_, List.getElem?_eq_getElem (by rw [← n2.out]; exact hlt)⟩
        have hx64 := E1.out x (List.mem_of_getElem? hx)
        have hy64 := E2.out y (List.mem_of_getElem? hy)
        have hx1 := Lib.hid hx
        have hy1 := Lib.hid hy
        obtain ⟨j, hj0⟩ := hr.out.drew
        have hj := Lib.hid hj0
        clear hj0
        cases p with
        | none =>
          exfalso
          obtain ⟨_, _, he, h0, _⟩ := g1.out
          simp only [Value.slice.injEq] at he
          have hl := congrArg List.length (h0 he.1.symm)
          rw [List.length_map, List.length_nil] at hl
          have := n1.out
          omega
        | some a =>
        cases q with
        | none =>
          exfalso
          obtain ⟨_, _, he, h0, _⟩ := g2.out
          simp only [Value.slice.injEq] at he
          have hl := congrArg List.length (h0 he.1.symm)
          rw [List.length_map, List.length_nil] at hl
          have := n2.out
          omega
        | some b =>
        obtain ⟨B, hB⟩ : ∃ B, (x == y) = B := ⟨_, rfl⟩
        have hB1 := Lib.hid hB
        have i0 : (0 : Int) ≤ (i : Int) := by omega
        have i1 : (i : Int) < (n : Int) := by omega
        clear hx hy
        go_wp2
        refine wp_region_held (S := fun W => HoldsE W (.slice (some a) n c) (xs.map bl) ∧ HoldsE W (.slice (some b) n d) (ys.map bl)) (by kernel_rfl) ?_
        change wpAnyH _ _ _ _ _ _ _ _ (World.drew wr)
        have hS : HoldsE wr.drew (.slice (some a) n c) (xs.map bl) ∧ HoldsE wr.drew (.slice (some b) n d) (ys.map bl) := by
          rw [hj.out]
          exact ⟨holdsE_below g1.out (below_drewN w (j + 1)) (Nat.le_refl _), holdsE_below g2.out (below_drewN w (j + 1)) (Nat.le_refl _)⟩
        refine held_take (i := 0) (dst := some 16) rfl rfl (by kernel_rfl) (by kernel_rfl) (by kernel_rfl) (fun _ _ _ h => h) (y_move (.tmp 0) rfl rfl rfl) hS ?_
        go_frame
        refine held_take (i := 1) (dst := some 17) rfl rfl (by kernel_rfl) (by kernel_rfl) (by kernel_rfl) (fun _ _ _ h => h) (y_move (.tmp 5) rfl rfl rfl) hS ?_
        go_frame
        refine held_take (i := 2) (dst := some 18) (v := .pointer (some (a.add (i * 64)))) rfl rfl (by kernel_rfl) (by kernel_rfl) (by kernel_rfl) (fun _ _ _ h => h) (.inl ⟨rfl, fun W _ => by go_simp⟩) hS ?_
        go_frame
        refine held_take (i := 3) (dst := some 19) (v := agg x) rfl rfl (by kernel_rfl) (by kernel_rfl) (by kernel_rfl) (fun _ _ _ h => h) (y_load_agg 37 (.tmp 18) rfl rfl rfl (fun W hW => load_elem hW.1 E1.out hx1.out)) hS ?_
        go_frame
        refine held_take (i := 4) (dst := some 20) rfl rfl (by kernel_rfl) (by kernel_rfl) (by kernel_rfl) (fun _ _ _ h => h) (y_move (.tmp 1) rfl rfl rfl) hS ?_
        go_frame
        refine held_take (i := 5) (dst := some 21) rfl rfl (by kernel_rfl) (by kernel_rfl) (by kernel_rfl) (fun _ _ _ h => h) (y_move (.tmp 5) rfl rfl rfl) hS ?_
        go_frame
        refine held_take (i := 6) (dst := some 22) (v := .pointer (some (b.add (i * 64)))) rfl rfl (by kernel_rfl) (by kernel_rfl) (by kernel_rfl) (fun _ _ _ h => h) (.inl ⟨rfl, fun W _ => by go_simp⟩) hS ?_
        go_frame
        refine held_take (i := 7) (dst := some 23) (v := agg y) rfl rfl (by kernel_rfl) (by kernel_rfl) (by kernel_rfl) (fun _ _ _ h => h) (y_load_agg 37 (.tmp 22) rfl rfl rfl (fun W hW => load_elem hW.2 E2.out hy1.out)) hS ?_
        go_frame
        refine held_take (i := 8) (dst := some 24) (v := .bool (!(x == y))) rfl rfl (by kernel_rfl) (by kernel_rfl) (by kernel_rfl) (fun _ _ _ h => h) (y_neq_blk rfl rfl rfl rfl hx64 hy64) hS ?_
        rw [hB]
        go_frame
        refine wpAnyH_done (by kernel_rfl) ?_ _
        clear hS hB hx64 hy64
        cases B
        · go_wp2
          go_ret
          refine ⟨?_, by rw [hj.out]; exact below_drewN w (j + 1)⟩
          have hne : xs ≠ ys := fun e => by
            have h3 := hx1.out
            rw [e, hy1.out] at h3
            have h4 := hB1.out
            rw [Option.some.inj h3] at h4
            simp at h4
          simp [hne]
        · have hnext : Hid (EqRel w wr.drew xs ys (i + 1)) := by
            refine ⟨?_, j + 1, by rw [hj.out]; rfl⟩
            rw [List.take_add_one, List.take_add_one, hr.out.take, hx1.out, hy1.out, eq_of_beq hB1.out]
          go_wp2
          go_roundw
          case rel => exact ⟨i + 1, by omega, by go_num, hnext⟩
          case measure => simp [intOf]; omega
      · obtain rfl : n = i := by omega
        go_wp2
        go_ret
        obtain ⟨j, hj⟩ := hr.out.drew
        refine ⟨?_, by rw [hj]; exact below_drewN w j⟩
        have h := hr.out.take
        rw [List.take_of_length_le (by rw [← n1.out]; exact Nat.le_refl _), List.take_of_length_le (by rw [← n2.out]; exact Nat.le_refl _)] at h
        simp [h]
  · have hb : ((n : Int) != (m : Int)) = true := by simp; omega
    have hne := Lib.hid hnm
    clear hnm
    go_enter Try.func28, Try.ntmps28
    go_wp2
    go_ret
    refine ⟨?_, Below.refl _ _⟩
    have : xs ≠ ys := fun e => hne.out (by rw [n1.out, n2.out, e])
    simp [this]

end Go.Proofs.Ytffchpgjaoakpaa
