/- Parts of the proof: The reader of record: read; The reader of record: read -/
import Derived.Test.YtocekhckmpkbmaaGreatQ25
import Derived.Test.YtocekhckmpkbmaaGreatQ26
namespace Go.Proofs.YtocekhckmpkbmaaGreat
open Go.RowKit Go.ChangeMaps
set_option maxRecDepth 100000 in
set_option maxHeartbeats 80000000 in
theorem read_N (p : Option Addr) (n c : Nat) (b : List UInt8) (w : World) (hv : Lib.HoldsBytes w (.slice p n c) b) (hnc : n ≤ c) (hn : n ≤ 140737488355328) (hfar : ∀ a, p = some a → b ≠ [] → a.block < w.heap.size) (hgrp : ¬ (1 ≤ (t0R b).nm 1 ∧ (t0R b).nm 1 ≤ 9)) :
 Calls Tryz.prog 45 #[.slice p n c] w (ReadRPost b w) := by
 obtain ⟨W, hW⟩ : ∃ W, w.alloc (.cells #[.int .i64 0, .int .u64 0, .int .i64 0, .int .u64 0, .int .u64 0, .slice none 0 0, .slice none 0 0, .int .i64 0, .slice none 0 0, .slice none 0 0] 30) = W := ⟨_, rfl⟩
 have hbW : Below w.heap.size w W := by rw [← hW]; exact (Below.refl _ _).alloc (Nat.le_refl _) _
 have hrow : RowV 30 W w.heap.size [.int .i64 0, .int .u64 0, .int .i64 0, .int .u64 0, .int .u64 0, .slice none 0 0, .slice none 0 0, .int .i64 0, .slice none 0 0, .slice none 0 0] := by rw [← hW]; exact RowV.made w _
 have hrow := Lib.hid hrow
 have hbW := Lib.hid hbW
 have hv2 := Lib.hid (holds_below hv hbW.out (Nat.le_refl _))
 have hnc := Lib.hid hnc
 have hnh := Lib.hid hn
 have hfar := Lib.hid hfar
 clear hv hn
 go_enter Tryz.func45, Tryz.ntmps45
 go_wp2_with fail
 clear hW
 refine (read_any p n c b W hv2.out hnh.out).mono ?_
 rintro e w1 ⟨gr, d, rfl, hrd, hgr, hd, hb1⟩
 obtain ⟨g, hg⟩ : ∃ g, w1.heap.size = g := ⟨_, rfl⟩
 obtain ⟨W2, hW2⟩ : ∃ y, w1.alloc (.cells #[.pointer (some ⟨gr, 0, none⟩), .slice p n c, .bool false] 120) = y := ⟨_, rfl⟩
 have hb2 : Below w1.heap.size w1 W2 := by rw [← hW2]; exact (Below.refl _ _).alloc (Nat.le_refl _) _
 have hgrl : gr < g := by rw [← hg]; exact RdrS.lt (s := ⟨b, 0⟩) hrd
 have hr2 : Hid (RR W2 g gr d b (t0R b)) := by
  refine ⟨p, n, c, ?_, ?_, ?_, hnc.out, hnh.out, List.suffix_refl _, hgrl, ?_, ?_⟩
  · rw [← hW2, ← hg]; exact RowV.made w1 _
  · exact RdrS.below (s := ⟨b, 0⟩) hrd hb2
  · exact holds_below hv2.out (hb1.trans (hb2.mono hb1.size)) (Nat.le_refl _)
  · intro e; have := RdrS.src (s := ⟨b, 0⟩) hrd _ e; omega
  · intro a ha hne; have h1 := hfar.out a ha hne; have h2 := hbW.out.size; omega
 have hres2 : Hid (RowV 30 W2 w.heap.size [.int .i64 0, .int .u64 0, .int .i64 0, .int .u64 0, .int .u64 0, .slice none 0 0, .slice none 0 0, .int .i64 0, .slice none 0 0, .slice none 0 0]) := (hrow.out.below hb1).below hb2
 have hlo : Hid (w.heap.size < gr ∧ gr < g ∧ g < W2.heap.size) := ⟨by have h1 := hrow.out.lt; omega, hgrl, hr2.out.lt⟩
 have hbb : Hid (Below w.heap.size w W2) := hbW.out.trans ((hb1.trans (hb2.mono hb1.size)).mono hbW.out.size)
 have hdd : Hid (∀ x, d = some x → x < W2.heap.size) := hr2.out.src
 clear hrd hgr hd hb1 hb2 hgrl hrow hv2 hfar
 obtain ⟨x0, hx0⟩ : ∃ x, (t0R b).nm 1 = x := ⟨_, rfl⟩
 rw [hx0] at hgrp
 replace hgrp := Lib.hid hgrp
 obtain ⟨x1, hx1⟩ : ∃ x, ((t0R b).nx 1).nm 8 = x := ⟨_, rfl⟩
 obtain ⟨x2, hx2⟩ : ∃ x, (((t0R b).nx 1).nx 8).nm 4 = x := ⟨_, rfl⟩
 obtain ⟨x3, hx3⟩ : ∃ x, ((((t0R b).nx 1).nx 8).nx 4).nm 8 = x := ⟨_, rfl⟩
 have q0 := nm1 (t0R b)
 have q2 := nm4 (((t0R b).nx 1).nx 8)
 have q1 := nm8 ((t0R b).nx 1)
 have q3 := nm8 ((((t0R b).nx 1).nx 8).nx 4)
 have c8 := fun (u : World) (h : RR u g gr d b (t0R b)) => rr8 h
 have c64 := fun (u : World) (h : RR u g gr d b ((t0R b).nx 1)) => rr64 h
 have c32 := fun (u : World) (h : RR u g gr d b (((t0R b).nx 1).nx 8)) => rr32 h
 have c64' := fun (u : World) (h : RR u g gr d b ((((t0R b).nx 1).nx 8).nx 4)) => rr64 h
 rw [hx0] at c8 q0
 rw [hx1] at c64 q1
 rw [hx2] at c32 q2
 rw [hx3] at c64' q3
 have hhd : Hid (headR b = headD x0 x1 x2 x3) := by show _ = _; unfold headR; rw [hx0, hx1, hx2, hx3]
 have w0 : IntKind.i64.wrap x0 = x0 := IntWalk.i64_in _ (by omega)
 have w2' : IntKind.i64.wrap x2 = x2 := IntWalk.i64_in _ (by omega)
 have c8 := Lib.hid c8
 have c64 := Lib.hid c64
 have c32 := Lib.hid c32
 have c64' := Lib.hid c64'
 have q0 := Lib.hid q0
 have q1 := Lib.hid q1
 have q2 := Lib.hid q2
 have q3 := Lib.hid q3
 clear hx0 hx1 hx2 hx3
 go_upto_region 2 with fail
 go_cut [5] from 13 to 35 (fun v5 wx => ∃ B : Nat, v5 = .pointer (some ⟨B, 0, none⟩) ∧ Hid (g < B ∧ d ≠ some B ∧ RowV 30 wx B [.int .i64 x0, .int .u64 x1, .int .i64 x2, .int .u64 x3, .int .u64 0, .slice none 0 0, .slice none 0 0, .int .i64 0, .slice none 0 0, .slice none 0 0] ∧ RStep W2 wx g gr ∧ RR wx g gr d b (tailT b)))
 case first =>
  refine wp_region_held (S := fun u => u.cell? ⟨g, 0, none⟩ = some (.pointer (some ⟨gr, 0, none⟩))) (by kernel_rfl) ?_
  have hdr := below_drew W2
  have hrr0 := hr2.out.below hdr
  have ss0 : RStep W2 (World.drew W2) g gr := RStep.of_below hdr
  have hS0 := hrr0.c0
  have hz0 : W2.heap.size ≤ (World.drew W2).heap.size := hdr.size
  change wpAnyH _ _ _ _ _ _ _ _ (World.drew W2)
  generalize World.drew W2 = u0 at hS0 hrr0 ss0 hz0 ⊢
  refine tg 0 13 (.pointer (some ⟨g, 0, none⟩)) hS0 ?_; go_frame
  refine tg 1 14 (.pointer (some ⟨g, 0, none⟩)) hS0 ?_; go_frame
  refine tg 2 15 (.pointer (some ⟨g, 0, none⟩)) hS0 ?_; go_frame
  refine held_tk (i := 3) (dst := some 16) rfl (v := .pointer (some ⟨gr, 0, none⟩)) rfl (.inl ⟨rfl, fun u hu => by have c0 := hu; go_simp⟩) hS0 ?_; go_frame
  refine tg 6 19 (.pointer (some ⟨g, 0, none⟩)) hS0 ?_; go_frame
  refine tg 7 20 (.pointer (some ⟨g, 0, none⟩)) hS0 ?_; go_frame
  refine tg 8 21 (.pointer (some ⟨g, 0, none⟩)) hS0 ?_; go_frame
  refine held_tk (i := 9) (dst := some 22) rfl (v := .pointer (some ⟨gr, 0, none⟩)) rfl (.inl ⟨rfl, fun u hu => by have c0 := hu; go_simp⟩) hS0 ?_; go_frame
  refine tg 11 24 (.pointer (some ⟨g, 0, none⟩)) hS0 ?_; go_frame
  refine tg 12 25 (.pointer (some ⟨g, 0, none⟩)) hS0 ?_; go_frame
  refine tg 13 26 (.pointer (some ⟨g, 0, none⟩)) hS0 ?_; go_frame
  refine held_tk (i := 14) (dst := some 27) rfl (v := .pointer (some ⟨gr, 0, none⟩)) rfl (.inl ⟨rfl, fun u hu => by have c0 := hu; go_simp⟩) hS0 ?_; go_frame
  refine tg 17 30 (.pointer (some ⟨g, 0, none⟩)) hS0 ?_; go_frame
  refine tg 18 31 (.pointer (some ⟨g, 0, none⟩)) hS0 ?_; go_frame
  refine tg 19 32 (.pointer (some ⟨g, 0, none⟩)) hS0 ?_; go_frame
  refine held_tk (i := 20) (dst := some 33) rfl (v := .pointer (some ⟨gr, 0, none⟩)) rfl (.inl ⟨rfl, fun u hu => by have c0 := hu; go_simp⟩) hS0 ?_; go_frame
  refine br_two (i := 4) (j := 23) (by kernel_rfl) ?_ ?_
  · refine br_call (i := 4) (dst := some 17) rfl rfl rfl (by go_simp) (c8.out _ hrr0) ?_
    rintro e u1 ⟨rfl, hs1, hrr1⟩
    have hS1 := hrr1.c0
    have ss1 := ss0.trans hs1
    have hz1 : W2.heap.size ≤ u1.heap.size := Nat.le_trans hz0 hs1.size
    refine ⟨_, rfl, hS1, ?_⟩
    go_frame
    refine tg 5 18 (.int .i64 x0) hS1 ?_; go_frame
    refine br_two (i := 10) (j := 23) (by kernel_rfl) ?_ ?_
    · refine br_call (i := 10) (dst := some 23) rfl rfl rfl (by go_simp) (c64.out _ hrr1) ?_
      rintro e u2 ⟨rfl, hs2, hrr2⟩
      have hS2 := hrr2.c0
      have ss2 := ss1.trans hs2
      have hz2 : W2.heap.size ≤ u2.heap.size := Nat.le_trans hz1 hs2.size
      refine ⟨_, rfl, hS2, ?_⟩
      go_frame
      refine br_two (i := 15) (j := 23) (by kernel_rfl) ?_ ?_
      · refine br_call (i := 15) (dst := some 28) rfl rfl rfl (by go_simp) (c32.out _ hrr2) ?_
        rintro e u3 ⟨rfl, hs3, hrr3⟩
        have hS3 := hrr3.c0
        have ss3 := ss2.trans hs3
        have hz3 : W2.heap.size ≤ u3.heap.size := Nat.le_trans hz2 hs3.size
        refine ⟨_, rfl, hS3, ?_⟩
        go_frame
        refine tg 16 29 (.int .i64 x2) hS3 ?_; go_frame
        refine br_two (i := 21) (j := 23) (by kernel_rfl) ?_ ?_
        · refine br_call (i := 21) (dst := some 34) rfl rfl rfl (by go_simp) (c64'.out _ hrr3) ?_
          rintro e u4 ⟨rfl, hs4, hrr4⟩
          have hS4 := hrr4.c0
          have ss4 := ss3.trans hs4
          have hz4 : W2.heap.size ≤ u4.heap.size := Nat.le_trans hz3 hs4.size
          refine ⟨_, rfl, hS4, ?_⟩
          go_frame
          refine held_tk (i := 22) (dst := some 35) rfl (v := .agg #[.int .i64 x0, .int .u64 x1, .int .i64 x2, .int .u64 x3, .int .u64 0, .slice none 0 0, .slice none 0 0, .int .i64 0, .slice none 0 0, .slice none 0 0]) rfl (.inl ⟨rfl, fun u hu => by go_simp <;> rfl⟩) hS4 ?_; go_frame
          obtain ⟨u5, hu5⟩ : ∃ y, u4.alloc (.cells #[.int .i64 0, .int .u64 0, .int .i64 0, .int .u64 0, .int .u64 0, .slice none 0 0, .slice none 0 0, .int .i64 0, .slice none 0 0, .slice none 0 0] 30) = y := ⟨_, rfl⟩
          have hbA : Below u4.heap.size u4 u5 := by rw [← hu5]; exact (Below.refl _ _).alloc (Nat.le_refl _) _
          have hBA : RowV 30 u5 u4.heap.size [.int .i64 0, .int .u64 0, .int .i64 0, .int .u64 0, .int .u64 0, .slice none 0 0, .slice none 0 0, .int .i64 0, .slice none 0 0, .slice none 0 0] := by rw [← hu5]; exact RowV.made u4 _
          have hrr5 := hrr4.below hbA
          have hS5 := hrr5.c0
          have ss5 := ss4.trans (RStep.of_below hbA)
          have hz5 : W2.heap.size ≤ u5.heap.size := Nat.le_trans hz4 hbA.size
          refine held_value (i := 23) (dst := some 5) rfl (v := .pointer (some ⟨u4.heap.size, 0, none⟩)) (w' := u5) rfl (by kernel_rfl) rfl (by go_simp) hS5 ?_
          go_frame
          obtain ⟨B, hBe⟩ : ∃ B, u4.heap.size = B := ⟨_, rfl⟩
          have hgB : g < B := by have h1 := hlo.out.2.2; omega
          have hdB : d ≠ some B := fun e => by have h1 := hdd.out _ e; omega
          have hgrB : gr < B := by have h1 := hlo.out.2.1; omega
          have hBz : W2.heap.size ≤ B := by omega
          rw [hBe] at hBA ⊢
          have hB5 := hBA
          clear hBA hbA hu5
          obtain ⟨v9, hst9, h9, hg9⟩ := run_storeVar_at (P := Tryz.prog) (ty := 30) (o := 0) (vs := [.int .i64 x0, .int .u64 x1, .int .i64 x2, .int .u64 x3, .int .u64 0, .slice none 0 0, .slice none 0 0, .int .i64 0, .slice none 0 0, .slice none 0 0]) hB5 (sizeRec ⟨x0, x1, x2, x3, 0, none, 0, 0, none, 0, 0, 0, none, 0, 0, none, 0, 0⟩) (Nat.le_refl _) (one_l rfl)
          have h9 : RowV 30 v9 B [.int .i64 x0, .int .u64 x1, .int .i64 x2, .int .u64 x3, .int .u64 0, .slice none 0 0, .slice none 0 0, .int .i64 0, .slice none 0 0, .slice none 0 0] := h9
          have hr9 := hrr5.new hg9 (by omega) (by omega) hdB
          have hs9 := ss5.own hg9 (by omega)
          refine held_skip (i := 24) (dst := none) (w' := v9) rfl rfl (by kernel_rfl) rfl (run_store_op rfl rfl rfl hst9) hr9.c0 ?_
          go_frame
          refine wpAnyH_done (by kernel_rfl) ?_ _
          have hend : Hid (g < B ∧ d ≠ some B ∧ RowV 30 v9 B [.int .i64 x0, .int .u64 x1, .int .i64 x2, .int .u64 x3, .int .u64 0, .slice none 0 0, .slice none 0 0, .int .i64 0, .slice none 0 0, .slice none 0 0] ∧ RStep W2 v9 g gr ∧ RR v9 g gr d b (tailT b)) := ⟨hgB, hdB, h9, hs9, hr9⟩
          clear hst9 h9 hg9 hr9 hs9
          go_wp2_with fail
          go_meet
          exact ⟨B, rfl, hend⟩
        · obtain ⟨u4, hu4⟩ : ∃ y, u3.alloc (.cells #[.int .i64 0, .int .u64 0, .int .i64 0, .int .u64 0, .int .u64 0, .slice none 0 0, .slice none 0 0, .int .i64 0, .slice none 0 0, .slice none 0 0] 30) = y := ⟨_, rfl⟩
          have hbA : Below u3.heap.size u3 u4 := by rw [← hu4]; exact (Below.refl _ _).alloc (Nat.le_refl _) _
          have hBA : RowV 30 u4 u3.heap.size [.int .i64 0, .int .u64 0, .int .i64 0, .int .u64 0, .int .u64 0, .slice none 0 0, .slice none 0 0, .int .i64 0, .slice none 0 0, .slice none 0 0] := by rw [← hu4]; exact RowV.made u3 _
          have hrr4 := hrr3.below hbA
          have hS4 := hrr4.c0
          have ss4 := ss3.trans (RStep.of_below hbA)
          have hz4 : W2.heap.size ≤ u4.heap.size := Nat.le_trans hz3 hbA.size
          refine br_value (i := 23) (dst := some 5) rfl (v := .pointer (some ⟨u3.heap.size, 0, none⟩)) (w' := u4) rfl rfl (by go_simp) ⟨hS4, ?_⟩
          go_frame
          obtain ⟨B, hBe⟩ : ∃ B, u3.heap.size = B := ⟨_, rfl⟩
          have hgB : g < B := by have h1 := hlo.out.2.2; omega
          have hdB : d ≠ some B := fun e => by have h1 := hdd.out _ e; omega
          have hgrB : gr < B := by have h1 := hlo.out.2.1; omega
          have hBz : W2.heap.size ≤ B := by omega
          rw [hBe] at hBA ⊢
          have hB4 := hBA
          clear hBA hbA hu4
          refine held_call (i := 21) (dst := some 34) rfl rfl (by kernel_rfl) rfl (by go_simp) (c64'.out _ hrr4) ?_
          rintro e u5 ⟨rfl, hs5, hrr5⟩
          have hS5 := hrr5.c0
          have ss5 := ss4.trans hs5
          have hz5 : W2.heap.size ≤ u5.heap.size := Nat.le_trans hz4 hs5.size
          have hB5 := hs5.row hB4 (by omega) (by omega)
          refine ⟨_, rfl, hS5, ?_⟩
          go_frame
          refine held_tk (i := 22) (dst := some 35) rfl (v := .agg #[.int .i64 x0, .int .u64 x1, .int .i64 x2, .int .u64 x3, .int .u64 0, .slice none 0 0, .slice none 0 0, .int .i64 0, .slice none 0 0, .slice none 0 0]) rfl (.inl ⟨rfl, fun u hu => by go_simp <;> rfl⟩) hS5 ?_; go_frame
          obtain ⟨v9, hst9, h9, hg9⟩ := run_storeVar_at (P := Tryz.prog) (ty := 30) (o := 0) (vs := [.int .i64 x0, .int .u64 x1, .int .i64 x2, .int .u64 x3, .int .u64 0, .slice none 0 0, .slice none 0 0, .int .i64 0, .slice none 0 0, .slice none 0 0]) hB5 (sizeRec ⟨x0, x1, x2, x3, 0, none, 0, 0, none, 0, 0, 0, none, 0, 0, none, 0, 0⟩) (Nat.le_refl _) (one_l rfl)
          have h9 : RowV 30 v9 B [.int .i64 x0, .int .u64 x1, .int .i64 x2, .int .u64 x3, .int .u64 0, .slice none 0 0, .slice none 0 0, .int .i64 0, .slice none 0 0, .slice none 0 0] := h9
          have hr9 := hrr5.new hg9 (by omega) (by omega) hdB
          have hs9 := ss5.own hg9 (by omega)
          refine held_skip (i := 24) (dst := none) (w' := v9) rfl rfl (by kernel_rfl) rfl (run_store_op rfl rfl rfl hst9) hr9.c0 ?_
          go_frame
          refine wpAnyH_done (by kernel_rfl) ?_ _
          have hend : Hid (g < B ∧ d ≠ some B ∧ RowV 30 v9 B [.int .i64 x0, .int .u64 x1, .int .i64 x2, .int .u64 x3, .int .u64 0, .slice none 0 0, .slice none 0 0, .int .i64 0, .slice none 0 0, .slice none 0 0] ∧ RStep W2 v9 g gr ∧ RR v9 g gr d b (tailT b)) := ⟨hgB, hdB, h9, hs9, hr9⟩
          clear hst9 h9 hg9 hr9 hs9
          go_wp2_with fail
          go_meet
          exact ⟨B, rfl, hend⟩
      · obtain ⟨u3, hu3⟩ : ∃ y, u2.alloc (.cells #[.int .i64 0, .int .u64 0, .int .i64 0, .int .u64 0, .int .u64 0, .slice none 0 0, .slice none 0 0, .int .i64 0, .slice none 0 0, .slice none 0 0] 30) = y := ⟨_, rfl⟩
        have hbA : Below u2.heap.size u2 u3 := by rw [← hu3]; exact (Below.refl _ _).alloc (Nat.le_refl _) _
        have hBA : RowV 30 u3 u2.heap.size [.int .i64 0, .int .u64 0, .int .i64 0, .int .u64 0, .int .u64 0, .slice none 0 0, .slice none 0 0, .int .i64 0, .slice none 0 0, .slice none 0 0] := by rw [← hu3]; exact RowV.made u2 _
        have hrr3 := hrr2.below hbA
        have hS3 := hrr3.c0
        have ss3 := ss2.trans (RStep.of_below hbA)
        have hz3 : W2.heap.size ≤ u3.heap.size := Nat.le_trans hz2 hbA.size
        refine br_value (i := 23) (dst := some 5) rfl (v := .pointer (some ⟨u2.heap.size, 0, none⟩)) (w' := u3) rfl rfl (by go_simp) ⟨hS3, ?_⟩
        go_frame
        obtain ⟨B, hBe⟩ : ∃ B, u2.heap.size = B := ⟨_, rfl⟩
        have hgB : g < B := by have h1 := hlo.out.2.2; omega
        have hdB : d ≠ some B := fun e => by have h1 := hdd.out _ e; omega
        have hgrB : gr < B := by have h1 := hlo.out.2.1; omega
        have hBz : W2.heap.size ≤ B := by omega
        rw [hBe] at hBA ⊢
        have hB3 := hBA
        clear hBA hbA hu3
        refine held_call (i := 15) (dst := some 28) rfl rfl (by kernel_rfl) rfl (by go_simp) (c32.out _ hrr3) ?_
        rintro e u4 ⟨rfl, hs4, hrr4⟩
        have hS4 := hrr4.c0
        have ss4 := ss3.trans hs4
        have hz4 : W2.heap.size ≤ u4.heap.size := Nat.le_trans hz3 hs4.size
        have hB4 := hs4.row hB3 (by omega) (by omega)
        refine ⟨_, rfl, hS4, ?_⟩
        go_frame
        refine tg 16 29 (.int .i64 x2) hS4 ?_; go_frame
        refine held_call (i := 21) (dst := some 34) rfl rfl (by kernel_rfl) rfl (by go_simp) (c64'.out _ hrr4) ?_
        rintro e u5 ⟨rfl, hs5, hrr5⟩
        have hS5 := hrr5.c0
        have ss5 := ss4.trans hs5
        have hz5 : W2.heap.size ≤ u5.heap.size := Nat.le_trans hz4 hs5.size
        have hB5 := hs5.row hB4 (by omega) (by omega)
        refine ⟨_, rfl, hS5, ?_⟩
        go_frame
        refine held_tk (i := 22) (dst := some 35) rfl (v := .agg #[.int .i64 x0, .int .u64 x1, .int .i64 x2, .int .u64 x3, .int .u64 0, .slice none 0 0, .slice none 0 0, .int .i64 0, .slice none 0 0, .slice none 0 0]) rfl (.inl ⟨rfl, fun u hu => by go_simp <;> rfl⟩) hS5 ?_; go_frame
        obtain ⟨v9, hst9, h9, hg9⟩ := run_storeVar_at (P := Tryz.prog) (ty := 30) (o := 0) (vs := [.int .i64 x0, .int .u64 x1, .int .i64 x2, .int .u64 x3, .int .u64 0, .slice none 0 0, .slice none 0 0, .int .i64 0, .slice none 0 0, .slice none 0 0]) hB5 (sizeRec ⟨x0, x1, x2, x3, 0, none, 0, 0, none, 0, 0, 0, none, 0, 0, none, 0, 0⟩) (Nat.le_refl _) (one_l rfl)
        have h9 : RowV 30 v9 B [.int .i64 x0, .int .u64 x1, .int .i64 x2, .int .u64 x3, .int .u64 0, .slice none 0 0, .slice none 0 0, .int .i64 0, .slice none 0 0, .slice none 0 0] := h9
        have hr9 := hrr5.new hg9 (by omega) (by omega) hdB
        have hs9 := ss5.own hg9 (by omega)
        refine held_skip (i := 24) (dst := none) (w' := v9) rfl rfl (by kernel_rfl) rfl (run_store_op rfl rfl rfl hst9) hr9.c0 ?_
        go_frame
        refine wpAnyH_done (by kernel_rfl) ?_ _
        have hend : Hid (g < B ∧ d ≠ some B ∧ RowV 30 v9 B [.int .i64 x0, .int .u64 x1, .int .i64 x2, .int .u64 x3, .int .u64 0, .slice none 0 0, .slice none 0 0, .int .i64 0, .slice none 0 0, .slice none 0 0] ∧ RStep W2 v9 g gr ∧ RR v9 g gr d b (tailT b)) := ⟨hgB, hdB, h9, hs9, hr9⟩
        clear hst9 h9 hg9 hr9 hs9
        go_wp2_with fail
        go_meet
        exact ⟨B, rfl, hend⟩
    · obtain ⟨u2, hu2⟩ : ∃ y, u1.alloc (.cells #[.int .i64 0, .int .u64 0, .int .i64 0, .int .u64 0, .int .u64 0, .slice none 0 0, .slice none 0 0, .int .i64 0, .slice none 0 0, .slice none 0 0] 30) = y := ⟨_, rfl⟩
      have hbA : Below u1.heap.size u1 u2 := by rw [← hu2]; exact (Below.refl _ _).alloc (Nat.le_refl _) _
      have hBA : RowV 30 u2 u1.heap.size [.int .i64 0, .int .u64 0, .int .i64 0, .int .u64 0, .int .u64 0, .slice none 0 0, .slice none 0 0, .int .i64 0, .slice none 0 0, .slice none 0 0] := by rw [← hu2]; exact RowV.made u1 _
      have hrr2 := hrr1.below hbA
      have hS2 := hrr2.c0
      have ss2 := ss1.trans (RStep.of_below hbA)
      have hz2 : W2.heap.size ≤ u2.heap.size := Nat.le_trans hz1 hbA.size
      refine br_value (i := 23) (dst := some 5) rfl (v := .pointer (some ⟨u1.heap.size, 0, none⟩)) (w' := u2) rfl rfl (by go_simp) ⟨hS2, ?_⟩
      go_frame
      obtain ⟨B, hBe⟩ : ∃ B, u1.heap.size = B := ⟨_, rfl⟩
      have hgB : g < B := by have h1 := hlo.out.2.2; omega
      have hdB : d ≠ some B := fun e => by have h1 := hdd.out _ e; omega
      have hgrB : gr < B := by have h1 := hlo.out.2.1; omega
      have hBz : W2.heap.size ≤ B := by omega
      rw [hBe] at hBA ⊢
      have hB2 := hBA
      clear hBA hbA hu2
      refine held_call (i := 10) (dst := some 23) rfl rfl (by kernel_rfl) rfl (by go_simp) (c64.out _ hrr2) ?_
      rintro e u3 ⟨rfl, hs3, hrr3⟩
      have hS3 := hrr3.c0
      have ss3 := ss2.trans hs3
      have hz3 : W2.heap.size ≤ u3.heap.size := Nat.le_trans hz2 hs3.size
      have hB3 := hs3.row hB2 (by omega) (by omega)
      refine ⟨_, rfl, hS3, ?_⟩
      go_frame
      refine held_call (i := 15) (dst := some 28) rfl rfl (by kernel_rfl) rfl (by go_simp) (c32.out _ hrr3) ?_
      rintro e u4 ⟨rfl, hs4, hrr4⟩
      have hS4 := hrr4.c0
      have ss4 := ss3.trans hs4
      have hz4 : W2.heap.size ≤ u4.heap.size := Nat.le_trans hz3 hs4.size
      have hB4 := hs4.row hB3 (by omega) (by omega)
      refine ⟨_, rfl, hS4, ?_⟩
      go_frame
      refine tg 16 29 (.int .i64 x2) hS4 ?_; go_frame
      refine held_call (i := 21) (dst := some 34) rfl rfl (by kernel_rfl) rfl (by go_simp) (c64'.out _ hrr4) ?_
      rintro e u5 ⟨rfl, hs5, hrr5⟩
      have hS5 := hrr5.c0
      have ss5 := ss4.trans hs5
      have hz5 : W2.heap.size ≤ u5.heap.size := Nat.le_trans hz4 hs5.size
      have hB5 := hs5.row hB4 (by omega) (by omega)
      refine ⟨_, rfl, hS5, ?_⟩
      go_frame
      refine held_tk (i := 22) (dst := some 35) rfl (v := .agg #[.int .i64 x0, .int .u64 x1, .int .i64 x2, .int .u64 x3, .int .u64 0, .slice none 0 0, .slice none 0 0, .int .i64 0, .slice none 0 0, .slice none 0 0]) rfl (.inl ⟨rfl, fun u hu => by go_simp <;> rfl⟩) hS5 ?_; go_frame
      obtain ⟨v9, hst9, h9, hg9⟩ := run_storeVar_at (P := Tryz.prog) (ty := 30) (o := 0) (vs := [.int .i64 x0, .int .u64 x1, .int .i64 x2, .int .u64 x3, .int .u64 0, .slice none 0 0, .slice none 0 0, .int .i64 0, .slice none 0 0, .slice none 0 0]) hB5 (sizeRec ⟨x0, x1, x2, x3, 0, none, 0, 0, none, 0, 0, 0, none, 0, 0, none, 0, 0⟩) (Nat.le_refl _) (one_l rfl)
      have h9 : RowV 30 v9 B [.int .i64 x0, .int .u64 x1, .int .i64 x2, .int .u64 x3, .int .u64 0, .slice none 0 0, .slice none 0 0, .int .i64 0, .slice none 0 0, .slice none 0 0] := h9
      have hr9 := hrr5.new hg9 (by omega) (by omega) hdB
      have hs9 := ss5.own hg9 (by omega)
      refine held_skip (i := 24) (dst := none) (w' := v9) rfl rfl (by kernel_rfl) rfl (run_store_op rfl rfl rfl hst9) hr9.c0 ?_
      go_frame
      refine wpAnyH_done (by kernel_rfl) ?_ _
      have hend : Hid (g < B ∧ d ≠ some B ∧ RowV 30 v9 B [.int .i64 x0, .int .u64 x1, .int .i64 x2, .int .u64 x3, .int .u64 0, .slice none 0 0, .slice none 0 0, .int .i64 0, .slice none 0 0, .slice none 0 0] ∧ RStep W2 v9 g gr ∧ RR v9 g gr d b (tailT b)) := ⟨hgB, hdB, h9, hs9, hr9⟩
      clear hst9 h9 hg9 hr9 hs9
      go_wp2_with fail
      go_meet
      exact ⟨B, rfl, hend⟩
  · obtain ⟨u1, hu1⟩ : ∃ y, u0.alloc (.cells #[.int .i64 0, .int .u64 0, .int .i64 0, .int .u64 0, .int .u64 0, .slice none 0 0, .slice none 0 0, .int .i64 0, .slice none 0 0, .slice none 0 0] 30) = y := ⟨_, rfl⟩
    have hbA : Below u0.heap.size u0 u1 := by rw [← hu1]; exact (Below.refl _ _).alloc (Nat.le_refl _) _
    have hBA : RowV 30 u1 u0.heap.size [.int .i64 0, .int .u64 0, .int .i64 0, .int .u64 0, .int .u64 0, .slice none 0 0, .slice none 0 0, .int .i64 0, .slice none 0 0, .slice none 0 0] := by rw [← hu1]; exact RowV.made u0 _
    have hrr1 := hrr0.below hbA
    have hS1 := hrr1.c0
    have ss1 := ss0.trans (RStep.of_below hbA)
    have hz1 : W2.heap.size ≤ u1.heap.size := Nat.le_trans hz0 hbA.size
    refine br_value (i := 23) (dst := some 5) rfl (v := .pointer (some ⟨u0.heap.size, 0, none⟩)) (w' := u1) rfl rfl (by go_simp) ⟨hS1, ?_⟩
    go_frame
    obtain ⟨B, hBe⟩ : ∃ B, u0.heap.size = B := ⟨_, rfl⟩
    have hgB : g < B := by have h1 := hlo.out.2.2; omega
    have hdB : d ≠ some B := fun e => by have h1 := hdd.out _ e; omega
    have hgrB : gr < B := by have h1 := hlo.out.2.1; omega
    have hBz : W2.heap.size ≤ B := by omega
    rw [hBe] at hBA ⊢
    have hB1 := hBA
    clear hBA hbA hu1
    refine held_call (i := 4) (dst := some 17) rfl rfl (by kernel_rfl) rfl (by go_simp) (c8.out _ hrr1) ?_
    rintro e u2 ⟨rfl, hs2, hrr2⟩
    have hS2 := hrr2.c0
    have ss2 := ss1.trans hs2
    have hz2 : W2.heap.size ≤ u2.heap.size := Nat.le_trans hz1 hs2.size
    have hB2 := hs2.row hB1 (by omega) (by omega)
    refine ⟨_, rfl, hS2, ?_⟩
    go_frame
    refine tg 5 18 (.int .i64 x0) hS2 ?_; go_frame
    refine held_call (i := 10) (dst := some 23) rfl rfl (by kernel_rfl) rfl (by go_simp) (c64.out _ hrr2) ?_
    rintro e u3 ⟨rfl, hs3, hrr3⟩
    have hS3 := hrr3.c0
    have ss3 := ss2.trans hs3
    have hz3 : W2.heap.size ≤ u3.heap.size := Nat.le_trans hz2 hs3.size
    have hB3 := hs3.row hB2 (by omega) (by omega)
    refine ⟨_, rfl, hS3, ?_⟩
    go_frame
    refine held_call (i := 15) (dst := some 28) rfl rfl (by kernel_rfl) rfl (by go_simp) (c32.out _ hrr3) ?_
    rintro e u4 ⟨rfl, hs4, hrr4⟩
    have hS4 := hrr4.c0
    have ss4 := ss3.trans hs4
    have hz4 : W2.heap.size ≤ u4.heap.size := Nat.le_trans hz3 hs4.size
    have hB4 := hs4.row hB3 (by omega) (by omega)
    refine ⟨_, rfl, hS4, ?_⟩
    go_frame
    refine tg 16 29 (.int .i64 x2) hS4 ?_; go_frame
    refine held_call (i := 21) (dst := some 34) rfl rfl (by kernel_rfl) rfl (by go_simp) (c64'.out _ hrr4) ?_
    rintro e u5 ⟨rfl, hs5, hrr5⟩
    have hS5 := hrr5.c0
    have ss5 := ss4.trans hs5
    have hz5 : W2.heap.size ≤ u5.heap.size := Nat.le_trans hz4 hs5.size
    have hB5 := hs5.row hB4 (by omega) (by omega)
    refine ⟨_, rfl, hS5, ?_⟩
    go_frame
    refine held_tk (i := 22) (dst := some 35) rfl (v := .agg #[.int .i64 x0, .int .u64 x1, .int .i64 x2, .int .u64 x3, .int .u64 0, .slice none 0 0, .slice none 0 0, .int .i64 0, .slice none 0 0, .slice none 0 0]) rfl (.inl ⟨rfl, fun u hu => by go_simp <;> rfl⟩) hS5 ?_; go_frame
    obtain ⟨v9, hst9, h9, hg9⟩ := run_storeVar_at (P := Tryz.prog) (ty := 30) (o := 0) (vs := [.int .i64 x0, .int .u64 x1, .int .i64 x2, .int .u64 x3, .int .u64 0, .slice none 0 0, .slice none 0 0, .int .i64 0, .slice none 0 0, .slice none 0 0]) hB5 (sizeRec ⟨x0, x1, x2, x3, 0, none, 0, 0, none, 0, 0, 0, none, 0, 0, none, 0, 0⟩) (Nat.le_refl _) (one_l rfl)
    have h9 : RowV 30 v9 B [.int .i64 x0, .int .u64 x1, .int .i64 x2, .int .u64 x3, .int .u64 0, .slice none 0 0, .slice none 0 0, .int .i64 0, .slice none 0 0, .slice none 0 0] := h9
    have hr9 := hrr5.new hg9 (by omega) (by omega) hdB
    have hs9 := ss5.own hg9 (by omega)
    refine held_skip (i := 24) (dst := none) (w' := v9) rfl rfl (by kernel_rfl) rfl (run_store_op rfl rfl rfl hst9) hr9.c0 ?_
    go_frame
    refine wpAnyH_done (by kernel_rfl) ?_ _
    have hend : Hid (g < B ∧ d ≠ some B ∧ RowV 30 v9 B [.int .i64 x0, .int .u64 x1, .int .i64 x2, .int .u64 x3, .int .u64 0, .slice none 0 0, .slice none 0 0, .int .i64 0, .slice none 0 0, .slice none 0 0] ∧ RStep W2 v9 g gr ∧ RR v9 g gr d b (tailT b)) := ⟨hgB, hdB, h9, hs9, hr9⟩
    clear hst9 h9 hg9 hr9 hs9
    go_wp2_with fail
    go_meet
    exact ⟨B, rfl, hend⟩
 case rest =>
  obtain ⟨B, rfl, hcut⟩ := hcut
  have hgB := Lib.hid hcut.out.1
  have hdB := Lib.hid hcut.out.2.1
  have hRB := Lib.hid hcut.out.2.2.1
  have ss := Lib.hid hcut.out.2.2.2.1
  have hrr := Lib.hid hcut.out.2.2.2.2
  have hresc : Hid (RowV 30 wc w.heap.size [.int .i64 0, .int .u64 0, .int .i64 0, .int .u64 0, .int .u64 0, .slice none 0 0, .slice none 0 0, .int .i64 0, .slice none 0 0, .slice none 0 0]) := ss.out.row hres2.out (by have h1 := hlo.out; omega) (by have h1 := hlo.out; omega)
  have hbc : Hid (Below w.heap.size w wc) := hbb.out.trans (ss.out.below (by have h1 := hbb.out.size; omega) (by have h1 := hlo.out; omega) (by have h1 := hlo.out; omega))
  have hgrB := Lib.hid (show gr < B from by have h1 := hlo.out; have h2 := hgB.out; omega)
  clear hcut hr2 hres2 hbb c8 c64 c32 c64' w0 w2' hdd ss
  have hzk : kindsR g x0 = none := by have h1 := hgrp.out; unfold kindsR; rw [if_neg (by omega), if_neg (by omega), if_neg (by omega), if_neg (by omega), if_neg (by omega), if_neg (by omega), if_neg (by omega), if_neg (by omega), if_neg (by omega)]
  have hout : Hid (¬ (1 ≤ x0 ∧ x0 ≤ 9)) := hgrp.out
  go_wp2_with fail
  refine wp_region_held (S := fun u => u.cell? ⟨B, 0, none⟩ = some (.int .i64 x0)) (by kernel_rfl) ?_
  have hdr := below_drew wc
  have hrr0 := hrr.out.below hdr
  have hrb0 := hRB.out.below hdr
  have hrs0 := hresc.out.below hdr
  have hbc0 := hbc.out.trans (hdr.mono hbc.out.size)
  have hS0 : (World.drew wc).cell? ⟨B, 0, none⟩ = some (.int .i64 x0) := hrb0.cell 0
  change wpAnyH _ _ _ _ _ _ _ _ (World.drew wc)
  generalize World.drew wc = u0 at hS0 hrr0 hrb0 hrs0 hbc0 ⊢
  refine tg 0 37 (.pointer (some ⟨g, 0, none⟩)) hS0 ?_; go_frame
  refine tg 2 39 (.pointer (some ⟨B, 0, none⟩)) hS0 ?_; go_frame
  refine held_tk (i := 3) (dst := some 40) rfl (v := .int .i64 x0) rfl (.inl ⟨rfl, fun u hu => by have c0 := hu; go_simp⟩) hS0 ?_; go_frame
  refine held_call (i := 1) (dst := some 38) rfl rfl (by kernel_rfl) rfl (by go_simp) (kindsR_any g u0) ?_
  rintro e u1 ⟨mb, rfl, hmap, hbk⟩
  have hrb1 := hrb0.below hbk
  have hS1 : u1.cell? ⟨B, 0, none⟩ = some (.int .i64 x0) := hrb1.cell 0
  refine ⟨_, rfl, hS1, ?_⟩
  go_frame
  have hrr1 := hrr0.below hbk
  have hrs1 := hrs0.below hbk
  have hbc1 := hbc0.trans (hbk.mono hbc0.size)
  have hzf : (zeroValue 125).run Tryz.prog u1 = .ok (.nilFunc) u1 := by kernel_rfl
  have hlk := (run_lookup_i hmap Tryz.underlying127 Tryz.underlying3 x0 hzf).1
  rw [hzk] at hlk
  have hkf : (none : Option Value).getD .nilFunc = .nilFunc := rfl
  have hks : (none : Option Value).isSome = false := rfl
  rw [hkf, hks] at hlk
  refine held_value (i := 4) (dst := some 41) rfl (v := .tuple #[.nilFunc, .bool false]) (w' := u1) rfl (by kernel_rfl) rfl (by go_simp) hS1 ?_
  go_frame
  refine tg 5 36 (.tuple #[.nilFunc, .bool false]) hS1 ?_; go_frame
  refine tg 6 42 (.nilFunc) hS1 ?_; go_frame
  refine tg 7 43 (.bool false) hS1 ?_; go_frame
  refine tg 8 6 (.nilFunc) hS1 ?_; go_frame
  refine tg 9 7 (.bool false) hS1 ?_; go_frame
  refine wpAnyH_done (by kernel_rfl) ?_ _
  have hrb1 := Lib.hid hrb1
  have hrr1 := Lib.hid hrr1
  have hrs1 := Lib.hid hrs1
  have hbc1 := Lib.hid hbc1
  clear hS0 hrr0 hrb0 hrs0 hbc0 hS1 hmap hzf hlk hkf hks hbk hdr
  have hzv : (Tryz.prog.info? 30).map (·.size) = some ([.int .i64 0, .int .u64 0, .int .i64 0, .int .u64 0, .int .u64 0, .slice none 0 0, .slice none 0 0, .int .i64 0, .slice none 0 0, .slice none 0 0] : List Value).length := sizeRec ⟨0, 0, 0, 0, 0, none, 0, 0, none, 0, 0, 0, none, 0, 0, none, 0, 0⟩
  have hone : ∀ x ∈ ([.int .i64 0, .int .u64 0, .int .i64 0, .int .u64 0, .int .u64 0, .slice none 0 0, .slice none 0 0, .int .i64 0, .slice none 0 0, .slice none 0 0] : List Value), x.oneCell' = true := one_l rfl
  go_wp2_with (first
   | ((with_reducible refine wpList_store_at rfl 30 (.tmp 2) (.tmp 46) rfl (o := 0) (vs := [.int .i64 0, .int .u64 0, .int .i64 0, .int .u64 0, .int .u64 0, .slice none 0 0, .slice none 0 0, .int .i64 0, .slice none 0 0, .slice none 0 0]) rfl rfl hrs1.out hzv (Nat.le_refl _) hone ?_)
      intro wz h9 hg9
      have rz : Hid (RowV 30 wz w.heap.size [.int .i64 0, .int .u64 0, .int .i64 0, .int .u64 0, .int .u64 0, .slice none 0 0, .slice none 0 0, .int .i64 0, .slice none 0 0, .slice none 0 0]) := h9
      have gz := Lib.hid hg9
      clear h9 hg9))
  have m0 : wz.cell? ⟨w.heap.size, 0, none⟩ = some (.int .i64 0) := rz.out.cell 0
  have m1 : wz.cell? ⟨w.heap.size, 1, none⟩ = some (.int .u64 0) := rz.out.cell 1
  have m2 : wz.cell? ⟨w.heap.size, 2, none⟩ = some (.int .i64 0) := rz.out.cell 2
  have m3 : wz.cell? ⟨w.heap.size, 3, none⟩ = some (.int .u64 0) := rz.out.cell 3
  have m4 : wz.cell? ⟨w.heap.size, 4, none⟩ = some (.int .u64 0) := rz.out.cell 4
  have m5 : wz.cell? ⟨w.heap.size, 5, none⟩ = some (.slice none 0 0) := rz.out.cell 5
  have m6 : wz.cell? ⟨w.heap.size, 6, none⟩ = some (.slice none 0 0) := rz.out.cell 6
  have m7 : wz.cell? ⟨w.heap.size, 7, none⟩ = some (.int .i64 0) := rz.out.cell 7
  have m8 : wz.cell? ⟨w.heap.size, 8, none⟩ = some (.slice none 0 0) := rz.out.cell 8
  have m9 : wz.cell? ⟨w.heap.size, 9, none⟩ = some (.slice none 0 0) := rz.out.cell 9
  refine bodyPost_ret (v := .tuple #[.agg #[.int .i64 0, .int .u64 0, .int .i64 0, .int .u64 0, .int .u64 0, .slice none 0 0, .slice none 0 0, .int .i64 0, .slice none 0 0, .slice none 0 0], .bool false]) (by simp [results, Tryz.results45, go_sem, m0, m1, m2, m3, m4, m5, m6, m7, m8, m9]) rfl ?_
  refine ⟨⟨0, 0, 0, 0, 0, none, 0, 0, none, 0, 0, 0, none, 0, 0, none, 0, 0⟩, [], zRec, false, rfl, (fun _ _ => zero_on _), ?_, Gr.below gz.out hbc1.out (Nat.le_refl _)⟩
  unfold ReadR
  rw [hhd.out]
  simp only [headD]
  rw [if_neg hout.out]
  simp
end Go.Proofs.YtocekhckmpkbmaaGreat
namespace Go.Proofs.YtocekhckmpkbmaaGreat
open Go.RowKit Go.ChangeMaps
set_option maxRecDepth 100000 in
theorem read_any2 (p : Option Addr) (n c : Nat) (b : List UInt8) (w : World) (hv : Lib.HoldsBytes w (.slice p n c) b) (hnc : n ≤ c) (hn : n ≤ 140737488355328) (hfar : ∀ a, p = some a → b ≠ [] → a.block < w.heap.size) :
 Calls Tryz.prog 45 #[.slice p n c] w (ReadRPost b w) := by
 by_cases h0 : 1 ≤ (t0R b).nm 1 ∧ (t0R b).nm 1 ≤ 9
 rotate_left
 · exact read_N p n c b w hv hnc hn hfar h0
 by_cases hk : (t0R b).nm 1 = 1
 · refine read_0 102 p n c b w hv hnc hn hfar h0 (fun g => by rw [hk]; rfl) (fun _ _ => rfl) ?_
   rw [hk]
   exact fun w g gr R d all t h lsn txn prev a1 a2 a3 a4 a5 a6 a7 => nothing_rr1 h lsn txn prev a1 a2 a3 a4 a5 a6 a7
 by_cases hk : (t0R b).nm 1 = 2
 · refine read_0 103 p n c b w hv hnc hn hfar h0 (fun g => by rw [hk]; rfl) (fun _ _ => rfl) ?_
   rw [hk]
   exact fun w g gr R d all t h lsn txn prev a1 a2 a3 a4 a5 a6 a7 => change_rr h lsn txn prev a1 a2 a3 a4 a5 a6 a7
 by_cases hk : (t0R b).nm 1 = 3
 · refine read_0 104 p n c b w hv hnc hn hfar h0 (fun g => by rw [hk]; rfl) (fun _ _ => rfl) ?_
   rw [hk]
   exact fun w g gr R d all t h lsn txn prev a1 a2 a3 a4 a5 a6 a7 => nested_rr h lsn txn prev a1 a2 a3 a4 a5 a6 a7
 by_cases hk : (t0R b).nm 1 = 4
 · refine read_0 105 p n c b w hv hnc hn hfar h0 (fun g => by rw [hk]; rfl) (fun _ _ => rfl) ?_
   rw [hk]
   exact fun w g gr R d all t h lsn txn prev a1 a2 a3 a4 a5 a6 a7 => done_rr h lsn txn prev a1 a2 a3 a4 a5 a6 a7
 by_cases hk : (t0R b).nm 1 = 5
 · refine read_0 106 p n c b w hv hnc hn hfar h0 (fun g => by rw [hk]; rfl) (fun _ _ => rfl) ?_
   rw [hk]
   exact fun w g gr R d all t h lsn txn prev a1 a2 a3 a4 a5 a6 a7 => undone_rr h lsn txn prev a1 a2 a3 a4 a5 a6 a7
 by_cases hk : (t0R b).nm 1 = 6
 · refine read_0 102 p n c b w hv hnc hn hfar h0 (fun g => by rw [hk]; rfl) (fun _ _ => rfl) ?_
   rw [hk]
   exact fun w g gr R d all t h lsn txn prev a1 a2 a3 a4 a5 a6 a7 => nothing_rr6 h lsn txn prev a1 a2 a3 a4 a5 a6 a7
 by_cases hk : (t0R b).nm 1 = 7
 · refine read_0 102 p n c b w hv hnc hn hfar h0 (fun g => by rw [hk]; rfl) (fun _ _ => rfl) ?_
   rw [hk]
   exact fun w g gr R d all t h lsn txn prev a1 a2 a3 a4 a5 a6 a7 => nothing_rr7 h lsn txn prev a1 a2 a3 a4 a5 a6 a7
 by_cases hk : (t0R b).nm 1 = 8
 · refine read_0 102 p n c b w hv hnc hn hfar h0 (fun g => by rw [hk]; rfl) (fun _ _ => rfl) ?_
   rw [hk]
   exact fun w g gr R d all t h lsn txn prev a1 a2 a3 a4 a5 a6 a7 => nothing_rr8 h lsn txn prev a1 a2 a3 a4 a5 a6 a7
 have hk : (t0R b).nm 1 = 9 := by omega
 refine read_0 107 p n c b w hv hnc hn hfar h0 (fun g => by rw [hk]; rfl) (fun _ _ => rfl) ?_
 rw [hk]
 exact fun w g gr R d all t h lsn txn prev a1 a2 a3 a4 a5 a6 a7 => ckpt_rr h lsn txn prev a1 a2 a3 a4 a5 a6 a7
end Go.Proofs.YtocekhckmpkbmaaGreat
