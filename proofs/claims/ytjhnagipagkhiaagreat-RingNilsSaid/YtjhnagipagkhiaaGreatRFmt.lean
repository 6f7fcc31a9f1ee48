/- Format: a ring without entries. -/
import Derived.Test.YtjhnagipagkhiaaGreatRMov
namespace Go.Proofs.YtjhnagipagkhiaaGreat
open Go.RowKit Go.Sort

def nouL (n : Nat) : List (Int × List Int) := (List.range n).map fun (i : Nat) => ((i : Int), z64)
theorem nouL_tl (n : Nat) : (nouL n).map tl = (nums n).map (sect z64) := by
  unfold nouL nums
  rw [List.map_map, List.map_map]
  rfl

theorem nou_grp {w : World} {p : Pl} {B n : Nat} (h : RowV 3 w B [.int .i64 n]) (hB : B ∉ p.L) (hn : n ≤ 1002) : GrpOk w p ⟨75, #[], #[.pointer (some ⟨B, 0, none⟩)], nouL n⟩ := by
  refine ⟨enters_of Tryz.func75 (by kernel_rfl) rfl, ⟨fun W => W.cell? ⟨B, 0, none⟩ = some (.int .i64 n), fun W hT => (h.tch hT hB).cell 0, fun W => ?_⟩, fun y hy => ?_, ?_⟩
  · show Tells _ _ _ _ _ ((nouL n).map tl) W
    rw [nouL_tl]
    exact noughts_tells B n (by omega) W
  · obtain ⟨i, _, rfl⟩ := List.mem_map.1 hy
    exact z64_len
  · show (nouL n).length ≤ 2000
    unfold nouL
    rw [List.length_map, List.length_range]
    omega

set_option maxRecDepth 100000 in
set_option maxHeartbeats 1000000 in
theorem format_ok (p : Pl) (d d' : Dk) (size : Nat) (w : World) (h : At w p d) (hs1 : 4 ≤ size) (hs2 : size ≤ 1000) (hl : size + 2 ≤ d.held.length) (h0 : 0 ≤ d.ops) (h1 : d.ops < 1152921504606846976) (hlay : layAll d [nouL (size + 2), [((1 : Nat), pad (headB 1 size 1 0 []))]] = (0, d')) :
    Calls Tryz.prog 13 #[ptr p, .int .i64 size] w (fun e' w' => ∃ rg x, e' = .returned (.tuple #[.pointer (some ⟨rg, 0, none⟩), .int .i64 0]) ∧ w.heap.size ≤ rg ∧ RgOn w' rg p d' x [] [] [] ∧ x.turn = 1 ∧ x.size = size ∧ x.first = 1 ∧ x.place = 0 ∧ x.used = 0 ∧ x.br = false ∧ Tch p.L w w') := by
  have hh := Lib.hid h
  have hlay' := Lib.hid hlay
  obtain ⟨n, hn⟩ : ∃ n, d.held.length = n := ⟨_, rfl⟩
  have hln := fun u hu => len_any p d u hu
  rw [hn] at hl hln
  have k1 : ¬ ((size : Int) < 4) := by omega
  have k2 : ¬ ((1000 : Int) < size) := by omega
  have k3 : ¬ ((n : Int) < 2 + (size : Int)) := by omega
  clear h hlay
  go_enter Tryz.func13, Tryz.ntmps13
  go_wp2_with (go_at_call 46; refine (hln _ hh.out).mono ?_; rintro e w' ⟨rfl, hw'⟩; obtain rfl := hw'.symm)
  obtain ⟨x0, hx0⟩ : ∃ x0 : RgV, x0 = ⟨1, size, 1, 0, none, 0, 0, ptr p, none, 0, 0, 0, false⟩ := ⟨_, rfl⟩
  obtain ⟨w1, hw1⟩ : ∃ w1, w.alloc (.cells #[.int .u32 1, .int .i64 size, .int .u64 1, .int .i64 0, .slice none 0 0, ptr p, .slice none 0 0, .int .i64 0, .bool false] 96) = w1 := ⟨_, rfl⟩
  have hb1 : Below w.heap.size w w1 := by rw [← hw1]; exact (Below.refl _ _).alloc (Nat.le_refl _) _
  have hr1 : RgAt w1 w.heap.size x0 := by rw [← hw1, hx0]; exact RowV.made w _
  rw [hw1]
  have hb2 : Below w.heap.size w w1.drew := hb1.drew
  have hS : RowV 96 w1.drew w.heap.size x0.cells := RowV.block hr1 rfl
  refine wp_region_held (S := fun W => RowV 96 W w.heap.size x0.cells) (by kernel_rfl) ?_
  change wpAnyH _ _ _ _ _ _ _ _ (World.drew w1)
  refine held_take (i := 0) (dst := some 28) (v := ptr p) rfl rfl (by kernel_rfl) (by kernel_rfl) (by kernel_rfl) (fun _ _ _ h => h) (y_move (.tmp 0) rfl rfl rfl) hS ?_
  go_frame
  refine held_take (i := 1) (dst := some 29) (v := .int .i64 size) rfl rfl (by kernel_rfl) (by kernel_rfl) (by kernel_rfl) (fun _ _ _ h => h) (y_move (.tmp 1) rfl rfl rfl) hS ?_
  go_frame
  refine held_take (i := 2) (dst := some 30) (v := .int .i64 ((size + 2 : Nat) : Int)) rfl rfl (by kernel_rfl) (by kernel_rfl) (by kernel_rfl) (fun _ _ _ h => h) (.inl ⟨rfl, fun W hW => by have hwp := Go.IntWalk.i64_in ((size : Int) + 2) ⟨by omega, by omega⟩; have hwq := Go.IntWalk.i64_in (2 + (size : Int)) ⟨by omega, by omega⟩; have e2 : (2 + (size : Int)) = (size : Int) + 2 := (by omega); go_simp⟩) hS ?_
  go_frame
  refine held_take (i := 4) (dst := some 32) (v := .pointer (some ⟨w.heap.size, 0, none⟩)) rfl rfl (by kernel_rfl) (by kernel_rfl) (by kernel_rfl) (fun _ _ _ h => h) (y_move (.tmp 6) rfl rfl rfl) hS ?_
  go_frame
  refine held_take (i := 5) (dst := some 33) (v := .pointer (some ⟨w.heap.size, 0, none⟩)) rfl rfl (by kernel_rfl) (by kernel_rfl) (by kernel_rfl) (fun _ _ _ h => h) (.inl ⟨rfl, fun W hW => by go_simp⟩) hS ?_
  go_frame
  refine held_take (i := 6) (dst := some 34) (v := .pointer (some ⟨w.heap.size, 0, none⟩)) rfl rfl (by kernel_rfl) (by kernel_rfl) (by kernel_rfl) (fun _ _ _ h => h) (.inl ⟨rfl, fun W hW => by go_simp⟩) hS ?_
  go_frame
  refine held_take (i := 7) (dst := some 35) rfl rfl (by kernel_rfl) (by kernel_rfl) (by kernel_rfl) (fun _ _ _ h => h) (y_load_agg 94 (.tmp 34) rfl rfl rfl (fun W hW => load_ring_head (turn := 1) (size := size) (first := 1) (place := 0) (nl := 0) (nc := 0) (nq := none) (rest := [ptr p, .slice none 0 0, .int .i64 0, .bool false]) (by have h := hW; rw [hx0] at h; exact h))) hS ?_
  go_frame
  obtain ⟨fv, hfv⟩ : ∃ fv : Value, fv = .func (.func 49) #[.agg (hdL 1 size 1 0 none 0 0).toArray] #[] := ⟨_, rfl⟩
  refine held_take (i := 8) (dst := some 36) (v := fv) rfl rfl (by kernel_rfl) (by kernel_rfl) (by kernel_rfl) (fun _ _ _ h => h) (.inl ⟨rfl, fun W hW => by rw [hfv]; go_simp⟩) hS ?_
  go_frame
  have hnc := noughts_any ((size + 2 : Nat) : Int) w1.drew
  refine held_call (i := 3) (dst := some 31) rfl rfl (by kernel_rfl) rfl (by go_simp) hnc ?_
  rintro e' w3 ⟨rfl, hw3⟩
  have hb3 : Below w1.drew.heap.size w1.drew w3 := by rw [hw3]; exact (Below.refl _ _).alloc (Nat.le_refl _) _
  have hr3 : RowV 3 w3 w1.drew.heap.size [.int .i64 ((size + 2 : Nat) : Int)] := by rw [hw3]; exact RowV.made w1.drew _
  have hS3 := hS.below hb3
  refine ⟨_, rfl, hS3, ?_⟩
  go_frame
  obtain ⟨gv, hgv⟩ : ∃ gv : Value, gv = .func (.func 75) #[] #[.pointer (some ⟨w1.drew.heap.size, 0, none⟩)] := ⟨_, rfl⟩
  rw [← hgv]
  obtain ⟨w5, hw5⟩ : ∃ w5, w3.alloc (.cells #[gv, fv] 99) = w5 := ⟨_, rfl⟩
  have hb5 : Below w3.heap.size w3 w5 := by rw [← hw5]; exact (Below.refl _ _).alloc (Nat.le_refl _) _
  have hr5 : RowV 99 w5 w3.heap.size [gv, fv] := by rw [← hw5]; exact RowV.made w3 _
  have hS5 := hS3.below hb5
  refine held_value (i := 9) (dst := some 37) (v := .slice (some ⟨w3.heap.size, 0, none⟩) 2 2) (w' := w5) rfl rfl (by kernel_rfl) rfl (by rw [← hw5]; go_simp) hS5 ?_
  go_frame
  have hbw5 : Below w.heap.size w w5 := (hb2.trans (hb3.mono hb2.size)).trans (hb5.mono (Nat.le_trans hb2.size hb3.size))
  have k5 : At w5 p d := hh.out.below hbw5
  have far : ∀ j, w.heap.size ≤ j → j ∉ p.L := fun j hj => hh.out.not_in hj
  have z1 : w.heap.size ≤ w1.drew.heap.size := hb2.size
  have z3 : w.heap.size ≤ w3.heap.size := Nat.le_trans z1 hb3.size
  have hg1 := nou_grp (p := p) (n := size + 2) (hr3.below hb5) (far _ z1) (by omega)
  have hg2 := hd_grp (w := w5) (p := p) (turn := 1) (size := size) (first := 1) (place := 0) (nq := none) (nc := 0) (note := []) ⟨none, 0, rfl, fun _ => rfl, fun a ha => by cases ha⟩ (fun a ha => by cases ha) (by simp) (by omega)
  have hlc := lay_any p d w5 k5 [⟨75, #[], #[.pointer (some ⟨w1.drew.heap.size, 0, none⟩)], nouL (size + 2)⟩, ⟨49, #[.agg #[.int .u32 ((1 : Nat) : Int), .int .i64 size, .int .u64 ((1 : Nat) : Int), .int .i64 ((0 : Nat) : Int), .slice none ([] : List UInt8).length 0]], #[], [((1 % 2 : Nat), pad (headB 1 size 1 0 []))]⟩] (some ⟨w3.heap.size, 0, none⟩) 2
    (fun i g hg => by
      rcases i with _ | _ | i
      · simp only [List.getElem?_cons_zero, Option.some.injEq] at hg
        subst hg
        exact ⟨_, rfl, far _ z3, by rw [Addr.add, if_pos rfl, hr5.cell 0, hgv]; rfl⟩
      · simp only [List.getElem?_cons_succ, List.getElem?_cons_zero, Option.some.injEq] at hg
        subst hg
        exact ⟨_, rfl, far _ z3, by
          show w5.cell? ⟨w3.heap.size, 1, none⟩ = _
          rw [hr5.cell 1, hfv]; rfl⟩
      · simp at hg) (fun g hg => by
      rcases List.mem_cons.1 hg with rfl | hg
      · exact hg1
      · rw [List.mem_singleton.1 hg]; exact hg2) (by simp) h0 h1
  simp only [List.map_cons, List.map_nil, List.length_cons, List.length_nil] at hlc
  rw [show (1 % 2 : Nat) = 1 from rfl, hlay'.out] at hlc
  refine held_call (i := 10) (dst := some 38) rfl rfl (by kernel_rfl) rfl (by go_simp) hlc ?_
  rintro e' w6 ⟨rfl, hA6, hT6⟩
  have hS6 := hS5.tch hT6 (far _ (Nat.le_refl _))
  refine ⟨_, rfl, hS6, ?_⟩
  go_frame
  refine held_take (i := 11) (dst := some 7) (v := .int .i64 0) rfl rfl (by kernel_rfl) (by kernel_rfl) (by kernel_rfl) (fun _ _ _ h => h) (.inl ⟨rfl, fun W hW => by go_simp⟩) hS6 ?_
  go_frame
  refine wpAnyH_done (by kernel_rfl) ?_ _
  have hlow : ∀ j ∈ p.L, j < w.heap.size := fun j hj => Nat.lt_of_not_le fun hle => far j hle hj
  have hTw : Tch p.L w w6 := (Tch.of_below hbw5 p.L).trans hT6
  have fin : Hid (RgOn w6 w.heap.size p d' x0 [] [] []) := by
    refine ⟨hA6, hlow, hS6, by rw [hx0], ?_, rfl, fun i v e h => by simp at h, ?_, fun a ha => by rw [hx0] at ha; cases ha⟩
    · rw [hx0]; exact OwnV.nil _ _ _
    · rw [hx0]; exact ⟨⟨none, 0, rfl, fun _ => rfl, fun a ha => by cases ha⟩, none, 0, 0, rfl, fun a ha => by cases ha⟩
  have hTw' := Lib.hid hTw
  have hxx : x0.turn = 1 ∧ x0.size = size ∧ x0.first = 1 ∧ x0.place = 0 ∧ x0.used = 0 ∧ x0.br = false := by rw [hx0]; exact ⟨rfl, rfl, rfl, rfl, rfl, rfl⟩
  have hxx' := Lib.hid hxx
  clear hlc hg1 hg2 hnc hS6 hT6 hA6 hTw hlow far hS5 hS3 hS hr5 hr3 hb5 hb3 hbw5 hb1 hb2 hr1 hw1 hw3 hw5 hfv hgv hx0 hxx k5 z1 z3 hlay'
  go_wp2
  first | go_ret | go_ret2
  obtain ⟨a1, a2, a3, a4, a5, a6⟩ := hxx'.out
  exact ⟨w.heap.size, x0, rfl, Nat.le_refl _, fin.out, a1, a2, a3, a4, a5, a6, hTw'.out⟩

end Go.Proofs.YtjhnagipagkhiaaGreat
