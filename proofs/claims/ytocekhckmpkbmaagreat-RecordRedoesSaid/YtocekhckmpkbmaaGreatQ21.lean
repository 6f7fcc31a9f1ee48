/- The reader of record: read. -/
import Derived.Test.YtocekhckmpkbmaaGreatQ20
namespace Go.Proofs.YtocekhckmpkbmaaGreat
open Go.RowKit Go.ChangeMaps
set_option maxRecDepth 100000 in
set_option maxHeartbeats 80000000 in
theorem read_0 (F : Nat) (p : Option Addr) (n c : Nat) (b : List UInt8) (w : World) (hv : Lib.HoldsBytes w (.slice p n c) b) (hnc : n ≤ c) (hn : n ≤ 140737488355328) (hfar : ∀ a, p = some a → b ≠ [] → a.block < w.heap.size) (hgrp : 1 ≤ (t0R b).nm 1 ∧ (t0R b).nm 1 ≤ 9) (hkF : ∀ g, kindsR g ((t0R b).nm 1) = some (.func (.func F) #[.pointer (some ⟨g, 0, none⟩)] #[])) (hcf : ∀ (args : Array Value) (u : World), (callFunc F args).run Tryz.prog u = .ok (.enter F args) u) (hF : KindLaw F ((t0R b).nm 1)) :
 Calls Tryz.prog 45 #[.slice p n c] w (ReadRPost b w) := by
 obtain ⟨W, hW⟩ : ∃ W, w.alloc (.cells #[.int .i64 0, .int .u64 0, .int .i64 0, .int .u64 0, .int .u64 0, .slice none 0 0, .slice none 0 0, .int .i64 0, .slice none 0 0, .slice none 0 0] 30) = W := ⟨_, rfl⟩
 have hbW : Below w.heap.size w W := by rw [← hW]; exact (Below.refl _ _).alloc (Nat.le_refl _) _
 have hrow : RowV 30 W w.heap.size [.int .i64 0, .int .u64 0, .int .i64 0, .int .u64 0, .int .u64 0, .slice none 0 0, .slice none 0 0, .int .i64 0, .slice none 0 0, .slice none 0 0] := by rw [← hW]; exact RowV.made w _
 have hrow := Lib.hid hrow
 have hbW := Lib.hid hbW
 have hv2 := Lib.hid (holds_below hv hbW.out (Nat.le_refl _))
 have hnc := Lib.hid hnc
 have hnh := Lib.hid hn
 have hfar := Lib.hid hfar
 clear hv hn
 go_enter Tryz.func45, Tryz.ntmps45
 go_wp2_with fail
 clear hW
 refine (read_any p n c b W hv2.out hnh.out).mono ?_
 rintro e w1 ⟨gr, d, rfl, hrd, hgr, hd, hb1⟩
 obtain ⟨g, hg⟩ : ∃ g, w1.heap.size = g := ⟨_, rfl⟩
 obtain ⟨W2, hW2⟩ : ∃ y, w1.alloc (.cells #[.pointer (some ⟨gr, 0, none⟩), .slice p n c, .bool false] 120) = y := ⟨_, rfl⟩
 have hb2 : Below w1.heap.size w1 W2 := by rw [← hW2]; exact (Below.refl _ _).alloc (Nat.le_refl _) _
 have hgrl : gr < g := by rw [← hg]; exact RdrS.lt (s := ⟨b, 0⟩) hrd
 have hr2 : Hid (RR W2 g gr d b (t0R b)) := by
  refine ⟨p, n, c, ?_, ?_, ?_, hnc.out, hnh.out, List.suffix_refl _, hgrl, ?_, ?_⟩
  · rw [← hW2, ← hg]; exact RowV.made w1 _
  · exact RdrS.below (s := ⟨b, 0⟩) hrd hb2
  · exact holds_below hv2.out (hb1.trans (hb2.mono hb1.size)) (Nat.le_refl _)
  · intro e; have := RdrS.src (s := ⟨b, 0⟩) hrd _ e; omega
  · intro a ha hne; have h1 := hfar.out a ha hne; have h2 := hbW.out.size; omega
 have hres2 : Hid (RowV 30 W2 w.heap.size [.int .i64 0, .int .u64 0, .int .i64 0, .int .u64 0, .int .u64 0, .slice none 0 0, .slice none 0 0, .int .i64 0, .slice none 0 0, .slice none 0 0]) := (hrow.out.below hb1).below hb2
 have hlo : Hid (w.heap.size < gr ∧ gr < g ∧ g < W2.heap.size) := ⟨by have h1 := hrow.out.lt; omega, hgrl, hr2.out.lt⟩
 have hbb : Hid (Below w.heap.size w W2) := hbW.out.trans ((hb1.trans (hb2.mono hb1.size)).mono hbW.out.size)
 have hdd : Hid (∀ x, d = some x → x < W2.heap.size) := hr2.out.src
 clear hrd hgr hd hb1 hb2 hgrl hrow hv2 hfar
 obtain ⟨x0, hx0⟩ : ∃ x, (t0R b).nm 1 = x := ⟨_, rfl⟩
 rw [hx0] at hgrp hkF hF
 replace hgrp := Lib.hid hgrp
 replace hkF := Lib.hid hkF
 replace hF := Lib.hid hF
 obtain ⟨x1, hx1⟩ : ∃ x, ((t0R b).nx 1).nm 8 = x := ⟨_, rfl⟩
 obtain ⟨x2, hx2⟩ : ∃ x, (((t0R b).nx 1).nx 8).nm 4 = x := ⟨_, rfl⟩
 obtain ⟨x3, hx3⟩ : ∃ x, ((((t0R b).nx 1).nx 8).nx 4).nm 8 = x := ⟨_, rfl⟩
 have q0 := nm1 (t0R b)
 have q2 := nm4 (((t0R b).nx 1).nx 8)
 have q1 := nm8 ((t0R b).nx 1)
 have q3 := nm8 ((((t0R b).nx 1).nx 8).nx 4)
 have c8 := fun (u : World) (h : RR u g gr d b (t0R b)) => rr8 h
 have c64 := fun (u : World) (h : RR u g gr d b ((t0R b).nx 1)) => rr64 h
 have c32 := fun (u : World) (h : RR u g gr d b (((t0R b).nx 1).nx 8)) => rr32 h
 have c64' := fun (u : World) (h : RR u g gr d b ((((t0R b).nx 1).nx 8).nx 4)) => rr64 h
 rw [hx0] at c8 q0
 rw [hx1] at c64 q1
 rw [hx2] at c32 q2
 rw [hx3] at c64' q3
 have hhd : Hid (headR b = headD x0 x1 x2 x3) := by show _ = _; unfold headR; rw [hx0, hx1, hx2, hx3]
 have w0 : IntKind.i64.wrap x0 = x0 := IntWalk.i64_in _ (by omega)
 have w2' : IntKind.i64.wrap x2 = x2 := IntWalk.i64_in _ (by omega)
 have c8 := Lib.hid c8
 have c64 := Lib.hid c64
 have c32 := Lib.hid c32
 have c64' := Lib.hid c64'
 have q0 := Lib.hid q0
 have q1 := Lib.hid q1
 have q2 := Lib.hid q2
 have q3 := Lib.hid q3
 clear hx0 hx1 hx2 hx3
 go_upto_region 2 with fail
 go_cut [5] from 13 to 35 (fun v5 wx => ∃ B : Nat, v5 = .pointer (some ⟨B, 0, none⟩) ∧ Hid (g < B ∧ d ≠ some B ∧ RowV 30 wx B [.int .i64 x0, .int .u64 x1, .int .i64 x2, .int .u64 x3, .int .u64 0, .slice none 0 0, .slice none 0 0, .int .i64 0, .slice none 0 0, .slice none 0 0] ∧ RStep W2 wx g gr ∧ RR wx g gr d b (tailT b)))
 case first =>
  refine wp_region_held (S := fun u => u.cell? ⟨g, 0, none⟩ = some (.pointer (some ⟨gr, 0, none⟩))) (by kernel_rfl) ?_
  have hdr := below_drew W2
  have hrr0 := hr2.out.below hdr
  have ss0 : RStep W2 (World.drew W2) g gr := RStep.of_below hdr
  have hS0 := hrr0.c0
  have hz0 : W2.heap.size ≤ (World.drew W2).heap.size := hdr.size
  change wpAnyH _ _ _ _ _ _ _ _ (World.drew W2)
  generalize World.drew W2 = u0 at hS0 hrr0 ss0 hz0 ⊢
  refine tg 0 13 (.pointer (some ⟨g, 0, none⟩)) hS0 ?_; go_frame
  refine tg 1 14 (.pointer (some ⟨g, 0, none⟩)) hS0 ?_; go_frame
  refine tg 2 15 (.pointer (some ⟨g, 0, none⟩)) hS0 ?_; go_frame
  refine held_tk (i := 3) (dst := some 16) rfl (v := .pointer (some ⟨gr, 0, none⟩)) rfl (.inl ⟨rfl, fun u hu => by have c0 := hu; go_simp⟩) hS0 ?_; go_frame
  refine tg 6 19 (.pointer (some ⟨g, 0, none⟩)) hS0 ?_; go_frame
  refine tg 7 20 (.pointer (some ⟨g, 0, none⟩)) hS0 ?_; go_frame
  refine tg 8 21 (.pointer (some ⟨g, 0, none⟩)) hS0 ?_; go_frame
  refine held_tk (i := 9) (dst := some 22) rfl (v := .pointer (some ⟨gr, 0, none⟩)) rfl (.inl ⟨rfl, fun u hu => by have c0 := hu; go_simp⟩) hS0 ?_; go_frame
  refine tg 11 24 (.pointer (some ⟨g, 0, none⟩)) hS0 ?_; go_frame
  refine tg 12 25 (.pointer (some ⟨g, 0, none⟩)) hS0 ?_; go_frame
  refine tg 13 26 (.pointer (some ⟨g, 0, none⟩)) hS0 ?_; go_frame
  refine held_tk (i := 14) (dst := some 27) rfl (v := .pointer (some ⟨gr, 0, none⟩)) rfl (.inl ⟨rfl, fun u hu => by have c0 := hu; go_simp⟩) hS0 ?_; go_frame
  refine tg 17 30 (.pointer (some ⟨g, 0, none⟩)) hS0 ?_; go_frame
  refine tg 18 31 (.pointer (some ⟨g, 0, none⟩)) hS0 ?_; go_frame
  refine tg 19 32 (.pointer (some ⟨g, 0, none⟩)) hS0 ?_; go_frame
  refine held_tk (i := 20) (dst := some 33) rfl (v := .pointer (some ⟨gr, 0, none⟩)) rfl (.inl ⟨rfl, fun u hu => by have c0 := hu; go_simp⟩) hS0 ?_; go_frame
  refine br_two (i := 4) (j := 23) (by kernel_rfl) ?_ ?_
  · refine br_call (i := 4) (dst := some 17) rfl rfl rfl (by go_simp) (c8.out _ hrr0) ?_
    rintro e u1 ⟨rfl, hs1, hrr1⟩
    have hS1 := hrr1.c0
    have ss1 := ss0.trans hs1
    have hz1 : W2.heap.size ≤ u1.heap.size := Nat.le_trans hz0 hs1.size
    refine ⟨_, rfl, hS1, ?_⟩
    go_frame
    refine tg 5 18 (.int .i64 x0) hS1 ?_; go_frame
    refine br_two (i := 10) (j := 23) (by kernel_rfl) ?_ ?_
    · refine br_call (i := 10) (dst := some 23) rfl rfl rfl (by go_simp) (c64.out _ hrr1) ?_
      rintro e u2 ⟨rfl, hs2, hrr2⟩
      have hS2 := hrr2.c0
      have ss2 := ss1.trans hs2
      have hz2 : W2.heap.size ≤ u2.heap.size := Nat.le_trans hz1 hs2.size
      refine ⟨_, rfl, hS2, ?_⟩
      go_frame
      refine br_two (i := 15) (j := 23) (by kernel_rfl) ?_ ?_
      · refine br_call (i := 15) (dst := some 28) rfl rfl rfl (by go_simp) (c32.out _ hrr2) ?_
        rintro e u3 ⟨rfl, hs3, hrr3⟩
        have hS3 := hrr3.c0
        have ss3 := ss2.trans hs3
        have hz3 : W2.heap.size ≤ u3.heap.size := Nat.le_trans hz2 hs3.size
        refine ⟨_, rfl, hS3, ?_⟩
        go_frame
        refine tg 16 29 (.int .i64 x2) hS3 ?_; go_frame
        refine br_two (i := 21) (j := 23) (by kernel_rfl) ?_ ?_
        · refine br_call (i := 21) (dst := some 34) rfl rfl rfl (by go_simp) (c64'.out _ hrr3) ?_
          rintro e u4 ⟨rfl, hs4, hrr4⟩
          have hS4 := hrr4.c0
          have ss4 := ss3.trans hs4
          have hz4 : W2.heap.size ≤ u4.heap.size := Nat.le_trans hz3 hs4.size
          refine ⟨_, rfl, hS4, ?_⟩
          go_frame
          refine held_tk (i := 22) (dst := some 35) rfl (v := .agg #[.int .i64 x0, .int .u64 x1, .int .i64 x2, .int .u64 x3, .int .u64 0, .slice none 0 0, .slice none 0 0, .int .i64 0, .slice none 0 0, .slice none 0 0]) rfl (.inl ⟨rfl, fun u hu => by go_simp <;> rfl⟩) hS4 ?_; go_frame
          obtain ⟨u5, hu5⟩ : ∃ y, u4.alloc (.cells #[.int .i64 0, .int .u64 0, .int .i64 0, .int .u64 0, .int .u64 0, .slice none 0 0, .slice none 0 0, .int .i64 0, .slice none 0 0, .slice none 0 0] 30) = y := ⟨_, rfl⟩
          have hbA : Below u4.heap.size u4 u5 := by rw [← hu5]; exact (Below.refl _ _).alloc (Nat.le_refl _) _
          have hBA : RowV 30 u5 u4.heap.size [.int .i64 0, .int .u64 0, .int .i64 0, .int .u64 0, .int .u64 0, .slice none 0 0, .slice none 0 0, .int .i64 0, .slice none 0 0, .slice none 0 0] := by rw [← hu5]; exact RowV.made u4 _
          have hrr5 := hrr4.below hbA
          have hS5 := hrr5.c0
          have ss5 := ss4.trans (RStep.of_below hbA)
          have hz5 : W2.heap.size ≤ u5.heap.size := Nat.le_trans hz4 hbA.size
          refine held_value (i := 23) (dst := some 5) rfl (v := .pointer (some ⟨u4.heap.size, 0, none⟩)) (w' := u5) rfl (by kernel_rfl) rfl (by go_simp) hS5 ?_
          go_frame
          obtain ⟨B, hBe⟩ : ∃ B, u4.heap.size = B := ⟨_, rfl⟩
          have hgB : g < B := by have h1 := hlo.out.2.2; omega
          have hdB : d ≠ some B := fun e => by have h1 := hdd.out _ e; omega
          have hgrB : gr < B := by have h1 := hlo.out.2.1; omega
          have hBz : W2.heap.size ≤ B := by omega
          rw [hBe] at hBA ⊢
          have hB5 := hBA
          clear hBA hbA hu5
          obtain ⟨v9, hst9, h9, hg9⟩ := run_storeVar_at (P := Tryz.prog) (ty := 30) (o := 0) (vs := [.int .i64 x0, .int .u64 x1, .int .i64 x2, .int .u64 x3, .int .u64 0, .slice none 0 0, .slice none 0 0, .int .i64 0, .slice none 0 0, .slice none 0 0]) hB5 (sizeRec ⟨x0, x1, x2, x3, 0, none, 0, 0, none, 0, 0, 0, none, 0, 0, none, 0, 0⟩) (Nat.le_refl _) (one_l rfl)
          have h9 : RowV 30 v9 B [.int .i64 x0, .int .u64 x1, .int .i64 x2, .int .u64 x3, .int .u64 0, .slice none 0 0, .slice none 0 0, .int .i64 0, .slice none 0 0, .slice none 0 0] := h9
          have hr9 := hrr5.new hg9 (by omega) (by omega) hdB
          have hs9 := ss5.own hg9 (by omega)
          refine held_skip (i := 24) (dst := none) (w' := v9) rfl rfl (by kernel_rfl) rfl (run_store_op rfl rfl rfl hst9) hr9.c0 ?_
          go_frame
          refine wpAnyH_done (by kernel_rfl) ?_ _
          have hend : Hid (g < B ∧ d ≠ some B ∧ RowV 30 v9 B [.int .i64 x0, .int .u64 x1, .int .i64 x2, .int .u64 x3, .int .u64 0, .slice none 0 0, .slice none 0 0, .int .i64 0, .slice none 0 0, .slice none 0 0] ∧ RStep W2 v9 g gr ∧ RR v9 g gr d b (tailT b)) := ⟨hgB, hdB, h9, hs9, hr9⟩
          clear hst9 h9 hg9 hr9 hs9
          go_wp2_with fail
          go_meet
          exact ⟨B, rfl, hend⟩
        · obtain ⟨u4, hu4⟩ : ∃ y, u3.alloc (.cells #[.int .i64 0, .int .u64 0, .int .i64 0, .int .u64 0, .int .u64 0, .slice none 0 0, .slice none 0 0, .int .i64 0, .slice none 0 0, .slice none 0 0] 30) = y := ⟨_, rfl⟩
          have hbA : Below u3.heap.size u3 u4 := by rw [← hu4]; exact (Below.refl _ _).alloc (Nat.le_refl _) _
          have hBA : RowV 30 u4 u3.heap.size [.int .i64 0, .int .u64 0, .int .i64 0, .int .u64 0, .int .u64 0, .slice none 0 0, .slice none 0 0, .int .i64 0, .slice none 0 0, .slice none 0 0] := by rw [← hu4]; exact RowV.made u3 _
          have hrr4 := hrr3.below hbA
          have hS4 := hrr4.c0
          have ss4 := ss3.trans (RStep.of_below hbA)
          have hz4 : W2.heap.size ≤ u4.heap.size := Nat.le_trans hz3 hbA.size
          refine br_value (i := 23) (dst := some 5) rfl (v := .pointer (some ⟨u3.heap.size, 0, none⟩)) (w' := u4) rfl rfl (by go_simp) ⟨hS4, ?_⟩
          go_frame
          obtain ⟨B, hBe⟩ : ∃ B, u3.heap.size = B := ⟨_, rfl⟩
          have hgB : g < B := by have h1 := hlo.out.2.2; omega
          have hdB : d ≠ some B := fun e => by have h1 := hdd.out _ e; omega
          have hgrB : gr < B := by have h1 := hlo.out.2.1; omega
          have hBz : W2.heap.size ≤ B := by omega
          rw [hBe] at hBA ⊢
          have hB4 := hBA
          clear hBA hbA hu4
          refine held_call (i := 21) (dst := some 34) rfl rfl (by kernel_rfl) rfl (by go_simp) (c64'.out _ hrr4) ?_
          rintro e u5 ⟨rfl, hs5, hrr5⟩
          have hS5 := hrr5.c0
          have ss5 := ss4.trans hs5
          have hz5 : W2.heap.size ≤ u5.heap.size := Nat.le_trans hz4 hs5.size
          have hB5 := hs5.row hB4 (by omega) (by omega)
          refine ⟨_, rfl, hS5, ?_⟩
          go_frame
          refine held_tk (i := 22) (dst := some 35) rfl (v := .agg #[.int .i64 x0, .int .u64 x1, .int .i64 x2, .int .u64 x3, .int .u64 0, .slice none 0 0, .slice none 0 0, .int .i64 0, .slice none 0 0, .slice none 0 0]) rfl (.inl ⟨rfl, fun u hu => by go_simp <;> rfl⟩) hS5 ?_; go_frame
          obtain ⟨v9, hst9, h9, hg9⟩ := run_storeVar_at (P := Tryz.prog) (ty := 30) (o := 0) (vs := [.int .i64 x0, .int .u64 x1, .int .i64 x2, .int .u64 x3, .int .u64 0, .slice none 0 0, .slice none 0 0, .int .i64 0, .slice none 0 0, .slice none 0 0]) hB5 (sizeRec ⟨x0, x1, x2, x3, 0, none, 0, 0, none, 0, 0, 0, none, 0, 0, none, 0, 0⟩) (Nat.le_refl _) (one_l rfl)
          have h9 : RowV 30 v9 B [.int .i64 x0, .int .u64 x1, .int .i64 x2, .int .u64 x3, .int .u64 0, .slice none 0 0, .slice none 0 0, .int .i64 0, .slice none 0 0, .slice none 0 0] := h9
          have hr9 := hrr5.new hg9 (by omega) (by omega) hdB
          have hs9 := ss5.own hg9 (by omega)
          refine held_skip (i := 24) (dst := none) (w' := v9) rfl rfl (by kernel_rfl) rfl (run_store_op rfl rfl rfl hst9) hr9.c0 ?_
          go_frame
          refine wpAnyH_done (by kernel_rfl) ?_ _
          have hend : Hid (g < B ∧ d ≠ some B ∧ RowV 30 v9 B [.int .i64 x0, .int .u64 x1, .int .i64 x2, .int .u64 x3, .int .u64 0, .slice none 0 0, .slice none 0 0, .int .i64 0, .slice none 0 0, .slice none 0 0] ∧ RStep W2 v9 g gr ∧ RR v9 g gr d b (tailT b)) := ⟨hgB, hdB, h9, hs9, hr9⟩
          clear hst9 h9 hg9 hr9 hs9
          go_wp2_with fail
          go_meet
          exact ⟨B, rfl, hend⟩
      · obtain ⟨u3, hu3⟩ : ∃ y, u2.alloc (.cells #[.int .i64 0, .int .u64 0, .int .i64 0, .int .u64 0, .int .u64 0, .slice none 0 0, .slice none 0 0, .int .i64 0, .slice none 0 0, .slice none 0 0] 30) = y := ⟨_, rfl⟩
        have hbA : Below u2.heap.size u2 u3 := by rw [← hu3]; exact (Below.refl _ _).alloc (Nat.le_refl _) _
        have hBA : RowV 30 u3 u2.heap.size [.int .i64 0, .int .u64 0, .int .i64 0, .int .u64 0, .int .u64 0, .slice none 0 0, .slice none 0 0, .int .i64 0, .slice none 0 0, .slice none 0 0] := by rw [← hu3]; exact RowV.made u2 _
        have hrr3 := hrr2.below hbA
        have hS3 := hrr3.c0
        have ss3 := ss2.trans (RStep.of_below hbA)
        have hz3 : W2.heap.size ≤ u3.heap.size := Nat.le_trans hz2 hbA.size
        refine br_value (i := 23) (dst := some 5) rfl (v := .pointer (some ⟨u2.heap.size, 0, none⟩)) (w' := u3) rfl rfl (by go_simp) ⟨hS3, ?_⟩
        go_frame
        obtain ⟨B, hBe⟩ : ∃ B, u2.heap.size = B := ⟨_, rfl⟩
        have hgB : g < B := by have h1 := hlo.out.2.2; omega
        have hdB : d ≠ some B := fun e => by have h1 := hdd.out _ e; omega
        have hgrB : gr < B := by have h1 := hlo.out.2.1; omega
        have hBz : W2.heap.size ≤ B := by omega
        rw [hBe] at hBA ⊢
        have hB3 := hBA
        clear hBA hbA hu3
        refine held_call (i := 15) (dst := some 28) rfl rfl (by kernel_rfl) rfl (by go_simp) (c32.out _ hrr3) ?_
        rintro e u4 ⟨rfl, hs4, hrr4⟩
        have hS4 := hrr4.c0
        have ss4 := ss3.trans hs4
        have hz4 : W2.heap.size ≤ u4.heap.size := Nat.le_trans hz3 hs4.size
        have hB4 := hs4.row hB3 (by omega) (by omega)
        refine ⟨_, rfl, hS4, ?_⟩
        go_frame
        refine tg 16 29 (.int .i64 x2) hS4 ?_; go_frame
        refine held_call (i := 21) (dst := some 34) rfl rfl (by kernel_rfl) rfl (by go_simp) (c64'.out _ hrr4) ?_
        rintro e u5 ⟨rfl, hs5, hrr5⟩
        have hS5 := hrr5.c0
        have ss5 := ss4.trans hs5
        have hz5 : W2.heap.size ≤ u5.heap.size := Nat.le_trans hz4 hs5.size
        have hB5 := hs5.row hB4 (by omega) (by omega)
        refine ⟨_, rfl, hS5, ?_⟩
        go_frame
        refine held_tk (i := 22) (dst := some 35) rfl (v := .agg #[.int .i64 x0, .int .u64 x1, .int .i64 x2, .int .u64 x3, .int .u64 0, .slice none 0 0, .slice none 0 0, .int .i64 0, .slice none 0 0, .slice none 0 0]) rfl (.inl ⟨rfl, fun u hu => by go_simp <;> rfl⟩) hS5 ?_; go_frame
        obtain ⟨v9, hst9, h9, hg9⟩ := run_storeVar_at (P := Tryz.prog) (ty := 30) (o := 0) (vs := [.int .i64 x0, .int .u64 x1, .int .i64 x2, .int .u64 x3, .int .u64 0, .slice none 0 0, .slice none 0 0, .int .i64 0, .slice none 0 0, .slice none 0 0]) hB5 (sizeRec ⟨x0, x1, x2, x3, 0, none, 0, 0, none, 0, 0, 0, none, 0, 0, none, 0, 0⟩) (Nat.le_refl _) (one_l rfl)
        have h9 : RowV 30 v9 B [.int .i64 x0, .int .u64 x1, .int .i64 x2, .int .u64 x3, .int .u64 0, .slice none 0 0, .slice none 0 0, .int .i64 0, .slice none 0 0, .slice none 0 0] := h9
        have hr9 := hrr5.new hg9 (by omega) (by omega) hdB
        have hs9 := ss5.own hg9 (by omega)
        refine held_skip (i := 24) (dst := none) (w' := v9) rfl rfl (by kernel_rfl) rfl (run_store_op rfl rfl rfl hst9) hr9.c0 ?_
        go_frame
        refine wpAnyH_done (by kernel_rfl) ?_ _
        have hend : Hid (g < B ∧ d ≠ some B ∧ RowV 30 v9 B [.int .i64 x0, .int .u64 x1, .int .i64 x2, .int .u64 x3, .int .u64 0, .slice none 0 0, .slice none 0 0, .int .i64 0, .slice none 0 0, .slice none 0 0] ∧ RStep W2 v9 g gr ∧ RR v9 g gr d b (tailT b)) := ⟨hgB, hdB, h9, hs9, hr9⟩
        clear hst9 h9 hg9 hr9 hs9
        go_wp2_with fail
        go_meet
        exact ⟨B, rfl, hend⟩
    · obtain ⟨u2, hu2⟩ : ∃ y, u1.alloc (.cells #[.int .i64 0, .int .u64 0, .int .i64 0, .int .u64 0, .int .u64 0, .slice none 0 0, .slice none 0 0, .int .i64 0, .slice none 0 0, .slice none 0 0] 30) = y := ⟨_, rfl⟩
      have hbA : Below u1.heap.size u1 u2 := by rw [← hu2]; exact (Below.refl _ _).alloc (Nat.le_refl _) _
      have hBA : RowV 30 u2 u1.heap.size [.int .i64 0, .int .u64 0, .int .i64 0, .int .u64 0, .int .u64 0, .slice none 0 0, .slice none 0 0, .int .i64 0, .slice none 0 0, .slice none 0 0] := by rw [← hu2]; exact RowV.made u1 _
      have hrr2 := hrr1.below hbA
      have hS2 := hrr2.c0
      have ss2 := ss1.trans (RStep.of_below hbA)
      have hz2 : W2.heap.size ≤ u2.heap.size := Nat.le_trans hz1 hbA.size
      refine br_value (i := 23) (dst := some 5) rfl (v := .pointer (some ⟨u1.heap.size, 0, none⟩)) (w' := u2) rfl rfl (by go_simp) ⟨hS2, ?_⟩
      go_frame
      obtain ⟨B, hBe⟩ : ∃ B, u1.heap.size = B := ⟨_, rfl⟩
      have hgB : g < B := by have h1 := hlo.out.2.2; omega
      have hdB : d ≠ some B := fun e => by have h1 := hdd.out _ e; omega
      have hgrB : gr < B := by have h1 := hlo.out.2.1; omega
      have hBz : W2.heap.size ≤ B := by omega
      rw [hBe] at hBA ⊢
      have hB2 := hBA
      clear hBA hbA hu2
      refine held_call (i := 10) (dst := some 23) rfl rfl (by kernel_rfl) rfl (by go_simp) (c64.out _ hrr2) ?_
      rintro e u3 ⟨rfl, hs3, hrr3⟩
      have hS3 := hrr3.c0
      have ss3 := ss2.trans hs3
      have hz3 : W2.heap.size ≤ u3.heap.size := Nat.le_trans hz2 hs3.size
      have hB3 := hs3.row hB2 (by omega) (by omega)
      refine ⟨_, rfl, hS3, ?_⟩
      go_frame
      refine held_call (i := 15) (dst := some 28) rfl rfl (by kernel_rfl) rfl (by go_simp) (c32.out _ hrr3) ?_
      rintro e u4 ⟨rfl, hs4, hrr4⟩
      have hS4 := hrr4.c0
      have ss4 := ss3.trans hs4
      have hz4 : W2.heap.size ≤ u4.heap.size := Nat.le_trans hz3 hs4.size
      have hB4 := hs4.row hB3 (by omega) (by omega)
      refine ⟨_, rfl, hS4, ?_⟩
      go_frame
      refine tg 16 29 (.int .i64 x2) hS4 ?_; go_frame
      refine held_call (i := 21) (dst := some 34) rfl rfl (by kernel_rfl) rfl (by go_simp) (c64'.out _ hrr4) ?_
      rintro e u5 ⟨rfl, hs5, hrr5⟩
      have hS5 := hrr5.c0
      have ss5 := ss4.trans hs5
      have hz5 : W2.heap.size ≤ u5.heap.size := Nat.le_trans hz4 hs5.size
      have hB5 := hs5.row hB4 (by omega) (by omega)
      refine ⟨_, rfl, hS5, ?_⟩
      go_frame
      refine held_tk (i := 22) (dst := some 35) rfl (v := .agg #[.int .i64 x0, .int .u64 x1, .int .i64 x2, .int .u64 x3, .int .u64 0, .slice none 0 0, .slice none 0 0, .int .i64 0, .slice none 0 0, .slice none 0 0]) rfl (.inl ⟨rfl, fun u hu => by go_simp <;> rfl⟩) hS5 ?_; go_frame
      obtain ⟨v9, hst9, h9, hg9⟩ := run_storeVar_at (P := Tryz.prog) (ty := 30) (o := 0) (vs := [.int .i64 x0, .int .u64 x1, .int .i64 x2, .int .u64 x3, .int .u64 0, .slice none 0 0, .slice none 0 0, .int .i64 0, .slice none 0 0, .slice none 0 0]) hB5 (sizeRec ⟨x0, x1, x2, x3, 0, none, 0, 0, none, 0, 0, 0, none, 0, 0, none, 0, 0⟩) (Nat.le_refl _) (one_l rfl)
      have h9 : RowV 30 v9 B [.int .i64 x0, .int .u64 x1, .int .i64 x2, .int .u64 x3, .int .u64 0, .slice none 0 0, .slice none 0 0, .int .i64 0, .slice none 0 0, .slice none 0 0] := h9
      have hr9 := hrr5.new hg9 (by omega) (by omega) hdB
      have hs9 := ss5.own hg9 (by omega)
      refine held_skip (i := 24) (dst := none) (w' := v9) rfl rfl (by kernel_rfl) rfl (run_store_op rfl rfl rfl hst9) hr9.c0 ?_
      go_frame
      refine wpAnyH_done (by kernel_rfl) ?_ _
      have hend : Hid (g < B ∧ d ≠ some B ∧ RowV 30 v9 B [.int .i64 x0, .int .u64 x1, .int .i64 x2, .int .u64 x3, .int .u64 0, .slice none 0 0, .slice none 0 0, .int .i64 0, .slice none 0 0, .slice none 0 0] ∧ RStep W2 v9 g gr ∧ RR v9 g gr d b (tailT b)) := ⟨hgB, hdB, h9, hs9, hr9⟩
      clear hst9 h9 hg9 hr9 hs9
      go_wp2_with fail
      go_meet
      exact ⟨B, rfl, hend⟩
  · obtain ⟨u1, hu1⟩ : ∃ y, u0.alloc (.cells #[.int .i64 0, .int .u64 0, .int .i64 0, .int .u64 0, .int .u64 0, .slice none 0 0, .slice none 0 0, .int .i64 0, .slice none 0 0, .slice none 0 0] 30) = y := ⟨_, rfl⟩
    have hbA : Below u0.heap.size u0 u1 := by rw [← hu1]; exact (Below.refl _ _).alloc (Nat.le_refl _) _
    have hBA : RowV 30 u1 u0.heap.size [.int .i64 0, .int .u64 0, .int .i64 0, .int .u64 0, .int .u64 0, .slice none 0 0, .slice none 0 0, .int .i64 0, .slice none 0 0, .slice none 0 0] := by rw [← hu1]; exact RowV.made u0 _
    have hrr1 := hrr0.below hbA
    have hS1 := hrr1.c0
    have ss1 := ss0.trans (RStep.of_below hbA)
    have hz1 : W2.heap.size ≤ u1.heap.size := Nat.le_trans hz0 hbA.size
    refine br_value (i := 23) (dst := some 5) rfl (v := .pointer (some ⟨u0.heap.size, 0, none⟩)) (w' := u1) rfl rfl (by go_simp) ⟨hS1, ?_⟩
    go_frame
    obtain ⟨B, hBe⟩ : ∃ B, u0.heap.size = B := ⟨_, rfl⟩
    have hgB : g < B := by have h1 := hlo.out.2.2; omega
    have hdB : d ≠ some B := fun e => by have h1 := hdd.out _ e; omega
    have hgrB : gr < B := by have h1 := hlo.out.2.1; omega
    have hBz : W2.heap.size ≤ B := by omega
    rw [hBe] at hBA ⊢
    have hB1 := hBA
    clear hBA hbA hu1
    refine held_call (i := 4) (dst := some 17) rfl rfl (by kernel_rfl) rfl (by go_simp) (c8.out _ hrr1) ?_
    rintro e u2 ⟨rfl, hs2, hrr2⟩
    have hS2 := hrr2.c0
    have ss2 := ss1.trans hs2
    have hz2 : W2.heap.size ≤ u2.heap.size := Nat.le_trans hz1 hs2.size
    have hB2 := hs2.row hB1 (by omega) (by omega)
    refine ⟨_, rfl, hS2, ?_⟩
    go_frame
    refine tg 5 18 (.int .i64 x0) hS2 ?_; go_frame
    refine held_call (i := 10) (dst := some 23) rfl rfl (by kernel_rfl) rfl (by go_simp) (c64.out _ hrr2) ?_
    rintro e u3 ⟨rfl, hs3, hrr3⟩
    have hS3 := hrr3.c0
    have ss3 := ss2.trans hs3
    have hz3 : W2.heap.size ≤ u3.heap.size := Nat.le_trans hz2 hs3.size
    have hB3 := hs3.row hB2 (by omega) (by omega)
    refine ⟨_, rfl, hS3, ?_⟩
    go_frame
    refine held_call (i := 15) (dst := some 28) rfl rfl (by kernel_rfl) rfl (by go_simp) (c32.out _ hrr3) ?_
    rintro e u4 ⟨rfl, hs4, hrr4⟩
    have hS4 := hrr4.c0
    have ss4 := ss3.trans hs4
    have hz4 : W2.heap.size ≤ u4.heap.size := Nat.le_trans hz3 hs4.size
    have hB4 := hs4.row hB3 (by omega) (by omega)
    refine ⟨_, rfl, hS4, ?_⟩
    go_frame
    refine tg 16 29 (.int .i64 x2) hS4 ?_; go_frame
    refine held_call (i := 21) (dst := some 34) rfl rfl (by kernel_rfl) rfl (by go_simp) (c64'.out _ hrr4) ?_
    rintro e u5 ⟨rfl, hs5, hrr5⟩
    have hS5 := hrr5.c0
    have ss5 := ss4.trans hs5
    have hz5 : W2.heap.size ≤ u5.heap.size := Nat.le_trans hz4 hs5.size
    have hB5 := hs5.row hB4 (by omega) (by omega)
    refine ⟨_, rfl, hS5, ?_⟩
    go_frame
    refine held_tk (i := 22) (dst := some 35) rfl (v := .agg #[.int .i64 x0, .int .u64 x1, .int .i64 x2, .int .u64 x3, .int .u64 0, .slice none 0 0, .slice none 0 0, .int .i64 0, .slice none 0 0, .slice none 0 0]) rfl (.inl ⟨rfl, fun u hu => by go_simp <;> rfl⟩) hS5 ?_; go_frame
    obtain ⟨v9, hst9, h9, hg9⟩ := run_storeVar_at (P := Tryz.prog) (ty := 30) (o := 0) (vs := [.int .i64 x0, .int .u64 x1, .int .i64 x2, .int .u64 x3, .int .u64 0, .slice none 0 0, .slice none 0 0, .int .i64 0, .slice none 0 0, .slice none 0 0]) hB5 (sizeRec ⟨x0, x1, x2, x3, 0, none, 0, 0, none, 0, 0, 0, none, 0, 0, none, 0, 0⟩) (Nat.le_refl _) (one_l rfl)
    have h9 : RowV 30 v9 B [.int .i64 x0, .int .u64 x1, .int .i64 x2, .int .u64 x3, .int .u64 0, .slice none 0 0, .slice none 0 0, .int .i64 0, .slice none 0 0, .slice none 0 0] := h9
    have hr9 := hrr5.new hg9 (by omega) (by omega) hdB
    have hs9 := ss5.own hg9 (by omega)
    refine held_skip (i := 24) (dst := none) (w' := v9) rfl rfl (by kernel_rfl) rfl (run_store_op rfl rfl rfl hst9) hr9.c0 ?_
    go_frame
    refine wpAnyH_done (by kernel_rfl) ?_ _
    have hend : Hid (g < B ∧ d ≠ some B ∧ RowV 30 v9 B [.int .i64 x0, .int .u64 x1, .int .i64 x2, .int .u64 x3, .int .u64 0, .slice none 0 0, .slice none 0 0, .int .i64 0, .slice none 0 0, .slice none 0 0] ∧ RStep W2 v9 g gr ∧ RR v9 g gr d b (tailT b)) := ⟨hgB, hdB, h9, hs9, hr9⟩
    clear hst9 h9 hg9 hr9 hs9
    go_wp2_with fail
    go_meet
    exact ⟨B, rfl, hend⟩
 case rest =>
  obtain ⟨B, rfl, hcut⟩ := hcut
  have hgB := Lib.hid hcut.out.1
  have hdB := Lib.hid hcut.out.2.1
  have hRB := Lib.hid hcut.out.2.2.1
  have ss := Lib.hid hcut.out.2.2.2.1
  have hrr := Lib.hid hcut.out.2.2.2.2
  have hresc : Hid (RowV 30 wc w.heap.size [.int .i64 0, .int .u64 0, .int .i64 0, .int .u64 0, .int .u64 0, .slice none 0 0, .slice none 0 0, .int .i64 0, .slice none 0 0, .slice none 0 0]) := ss.out.row hres2.out (by have h1 := hlo.out; omega) (by have h1 := hlo.out; omega)
  have hbc : Hid (Below w.heap.size w wc) := hbb.out.trans (ss.out.below (by have h1 := hbb.out.size; omega) (by have h1 := hlo.out; omega) (by have h1 := hlo.out; omega))
  have hgrB := Lib.hid (show gr < B from by have h1 := hlo.out; have h2 := hgB.out; omega)
  clear hcut hr2 hres2 hbb c8 c64 c32 c64' w0 w2' hdd ss
  have hkf : kindsR g x0 = some (.func (.func F) #[.pointer (some ⟨g, 0, none⟩)] #[]) := hkF.out g
  have hkf := Lib.hid hkf
  go_wp2_with fail
  refine wp_region_held (S := fun u => u.cell? ⟨B, 0, none⟩ = some (.int .i64 x0)) (by kernel_rfl) ?_
  have hdr := below_drew wc
  have hrr0 := hrr.out.below hdr
  have hrb0 := hRB.out.below hdr
  have hrs0 := hresc.out.below hdr
  have hbc0 := hbc.out.trans (hdr.mono hbc.out.size)
  have hS0 : (World.drew wc).cell? ⟨B, 0, none⟩ = some (.int .i64 x0) := hrb0.cell 0
  change wpAnyH _ _ _ _ _ _ _ _ (World.drew wc)
  generalize World.drew wc = u0 at hS0 hrr0 hrb0 hrs0 hbc0 ⊢
  refine tg 0 37 (.pointer (some ⟨g, 0, none⟩)) hS0 ?_; go_frame
  refine tg 2 39 (.pointer (some ⟨B, 0, none⟩)) hS0 ?_; go_frame
  refine held_tk (i := 3) (dst := some 40) rfl (v := .int .i64 x0) rfl (.inl ⟨rfl, fun u hu => by have c0 := hu; go_simp⟩) hS0 ?_; go_frame
  refine held_call (i := 1) (dst := some 38) rfl rfl (by kernel_rfl) rfl (by go_simp) (kindsR_any g u0) ?_
  rintro e u1 ⟨mb, rfl, hmap, hbk⟩
  have hrb1 := hrb0.below hbk
  have hS1 : u1.cell? ⟨B, 0, none⟩ = some (.int .i64 x0) := hrb1.cell 0
  refine ⟨_, rfl, hS1, ?_⟩
  go_frame
  have hrr1 := hrr0.below hbk
  have hrs1 := hrs0.below hbk
  have hbc1 := hbc0.trans (hbk.mono hbc0.size)
  have hzf : (zeroValue 125).run Tryz.prog u1 = .ok (.nilFunc) u1 := by kernel_rfl
  have hlk := (run_lookup_i hmap Tryz.underlying127 Tryz.underlying3 x0 hzf).1
  rw [hkf.out] at hlk
  have hkf2 : (some (.func (.func F) #[.pointer (some ⟨g, 0, none⟩)] #[] : Value)).getD .nilFunc = (.func (.func F) #[.pointer (some ⟨g, 0, none⟩)] #[]) := rfl
  have hks : (some (.func (.func F) #[.pointer (some ⟨g, 0, none⟩)] #[] : Value)).isSome = true := rfl
  rw [hkf2, hks] at hlk
  have hkf := hkf2
  refine held_value (i := 4) (dst := some 41) rfl (v := .tuple #[.func (.func F) #[.pointer (some ⟨g, 0, none⟩)] #[], .bool true]) (w' := u1) rfl (by kernel_rfl) rfl (by go_simp) hS1 ?_
  go_frame
  refine tg 5 36 (.tuple #[.func (.func F) #[.pointer (some ⟨g, 0, none⟩)] #[], .bool true]) hS1 ?_; go_frame
  refine tg 6 42 (.func (.func F) #[.pointer (some ⟨g, 0, none⟩)] #[]) hS1 ?_; go_frame
  refine tg 7 43 (.bool true) hS1 ?_; go_frame
  refine tg 8 6 (.func (.func F) #[.pointer (some ⟨g, 0, none⟩)] #[]) hS1 ?_; go_frame
  refine tg 9 7 (.bool true) hS1 ?_; go_frame
  refine wpAnyH_done (by kernel_rfl) ?_ _
  have hrb1 := Lib.hid hrb1
  have hrr1 := Lib.hid hrr1
  have hrs1 := Lib.hid hrs1
  have hbc1 := Lib.hid hbc1
  clear hS0 hrr0 hrb0 hrs0 hbc0 hS1 hmap hzf hlk hkf hks hbk hdr
  go_wp2_with fail
  refine (hF.out _ _ _ _ _ _ _ hrr1.out x1 x2 x3 q1.out (i64_small q2.out.1 q2.out.2) q3.out hrb1.out hgB.out hgrB.out hdB.out).mono ?_
  rintro e u2 ⟨⟨ka, la, xa, va, na, iqa, ima, ica, sqa, sna, sca, ya, tqa, tna, tca, dqa, dna, dca⟩, V, r, t', rfl, hrow2, hon2, hrest, hs2, hrr2⟩
  have hon2 := Lib.hid hon2
  have hrest := Lib.hid hrest
  obtain ⟨qz, nz, cz, hrq⟩ := hrr2
  have hrow2 := Lib.hid hrow2
  have hrq := Lib.hid hrq
  have hrs2 : Hid (RowV 30 u2 w.heap.size [.int .i64 0, .int .u64 0, .int .i64 0, .int .u64 0, .int .u64 0, .slice none 0 0, .slice none 0 0, .int .i64 0, .slice none 0 0, .slice none 0 0]) := hrs1.out.block (hs2.block _ hrs1.out.lt (by have h1 := hlo.out; omega) (by have h1 := hlo.out; omega) (by have h1 := hlo.out; have h2 := hgB.out; omega))
  have hbc2 : Hid (Below w.heap.size w u2) := hbc1.out.trans (hs2.below (by have h1 := hbc1.out.size; omega) (by have h1 := hlo.out; omega) (by have h1 := hlo.out; omega) (by have h1 := hlo.out; have h2 := hgB.out; omega))
  have hlt1 : Hid (w.heap.size < u1.heap.size) := hrs1.out.lt
  have hsz2 : Hid (u1.heap.size ≤ u2.heap.size) := hs2.size
  clear hs2 hrr1 hrb1 hrs1 hbc1
  obtain ⟨⟨tl2, te2⟩, tb2⟩ := t'
  obtain ⟨LL, hLL⟩ : ∃ LL, tl2.length = LL := ⟨_, rfl⟩
  have hLL := Lib.hid hLL
  cases tb2 with
  | true =>
    go_wp2_with fail
    refine wp_region_held (S := fun u => RowV 120 u g [.pointer (some ⟨gr, 0, none⟩), .slice qz nz cz, .bool true] ∧ RowV 30 u B [.int .i64 ka, .int .u64 la, .int .i64 xa, .int .u64 va, .int .u64 na, .slice iqa ima ica, .slice sqa sna sca, .int .i64 ya, .slice tqa tna tca, .slice dqa dna dca]) (by kernel_rfl) ?_
    have hdr := below_drew u2
    have hS0 : RowV 120 (World.drew u2) g [.pointer (some ⟨gr, 0, none⟩), .slice qz nz cz, .bool true] ∧ RowV 30 (World.drew u2) B [.int .i64 ka, .int .u64 la, .int .i64 xa, .int .u64 va, .int .u64 na, .slice iqa ima ica, .slice sqa sna sca, .int .i64 ya, .slice tqa tna tca, .slice dqa dna dca] := ⟨hrq.out.row.below hdr, hrow2.out.below hdr⟩
    have hrq3 := hrq.out.below hdr
    have hrs3 := hrs2.out.below hdr
    have hbc3 := hbc2.out.trans (hdr.mono hbc2.out.size)
    have hu3s : u2.heap.size ≤ (World.drew u2).heap.size := hdr.size
    have hal : ∀ k, k < u2.heap.size → (World.drew u2).heap[k]? = u2.heap[k]? := hdr.block
    change wpAnyH _ _ _ _ _ _ _ _ (World.drew u2)
    generalize World.drew u2 = u3 at hS0 hrs3 hbc3 hrq3 hal hu3s ⊢
    have hzr : (Tryz.prog.info? 30).map (·.size) = some ([.int .i64 ka, .int .u64 la, .int .i64 xa, .int .u64 va, .int .u64 na, .slice iqa ima ica, .slice sqa sna sca, .int .i64 ya, .slice tqa tna tca, .slice dqa dna dca] : List Value).length := sizeRec ⟨ka, la, xa, va, na, iqa, ima, ica, sqa, sna, sca, ya, tqa, tna, tca, dqa, dna, dca⟩
    refine held_tk (i := 0) (dst := some 49) rfl (v := .agg #[.int .i64 ka, .int .u64 la, .int .i64 xa, .int .u64 va, .int .u64 na, .slice iqa ima ica, .slice sqa sna sca, .int .i64 ya, .slice tqa tna tca, .slice dqa dna dca]) rfl (y_load_agg 30 (.tmp 5) rfl rfl rfl (fun u hu => run_loadVar_at Tryz.underlying30 rfl hzr _ hu.2.boxed.all)) hS0 ?_; go_frame
    refine tg 1 50 (.pointer (some ⟨g, 0, none⟩)) hS0 ?_; go_frame
    refine tg 2 51 (.pointer (some ⟨g, 0, none⟩)) hS0 ?_; go_frame
    refine tg 3 52 (.pointer (some ⟨g, 2, none⟩)) hS0 ?_; go_frame
    refine held_tk (i := 4) (dst := some 53) rfl (v := .bool true) rfl (.inl ⟨rfl, fun u hu => by have c2 : u.cell? ⟨g, 2, none⟩ = some (.bool true) := hu.1.cell 2; go_simp⟩) hS0 ?_; go_frame
    refine tg 5 54 (.bool false) hS0 ?_; go_frame
    refine tg 6 55 (.bool false) hS0 ?_; go_frame
    refine tu 7 56 hS0 ?_; go_frame
    refine tu 8 57 hS0 ?_; go_frame
    refine tu 9 58 hS0 ?_; go_frame
    refine tu 10 59 hS0 ?_; go_frame
    refine tu 11 60 hS0 ?_; go_frame
    refine tu 12 61 hS0 ?_; go_frame
    refine tg 13 62 (.bool false) hS0 ?_; go_frame
    refine tg 14 63 (.bool false) hS0 ?_; go_frame
    refine tu 15 64 hS0 ?_; go_frame
    refine tu 16 65 hS0 ?_; go_frame
    refine tu 17 66 hS0 ?_; go_frame
    refine tu 18 67 hS0 ?_; go_frame
    refine tu 19 68 hS0 ?_; go_frame
    refine tu 20 69 hS0 ?_; go_frame
    refine tg 21 70 (.bool false) hS0 ?_; go_frame
    obtain ⟨v9, hst9, h9, hg9⟩ := run_storeVar_at (P := Tryz.prog) (ty := 30) (o := 0) (vs := [.int .i64 ka, .int .u64 la, .int .i64 xa, .int .u64 va, .int .u64 na, .slice iqa ima ica, .slice sqa sna sca, .int .i64 ya, .slice tqa tna tca, .slice dqa dna dca]) hrs3 (sizeRec ⟨ka, la, xa, va, na, iqa, ima, ica, sqa, sna, sca, ya, tqa, tna, tca, dqa, dna, dca⟩) (Nat.le_refl _) (one_l rfl)
    have h9 : RowV 30 v9 w.heap.size [.int .i64 ka, .int .u64 la, .int .i64 xa, .int .u64 va, .int .u64 na, .slice iqa ima ica, .slice sqa sna sca, .int .i64 ya, .slice tqa tna tca, .slice dqa dna dca] := h9
    have hS9 : RowV 120 v9 g [.pointer (some ⟨gr, 0, none⟩), .slice qz nz cz, .bool true] ∧ RowV 30 v9 B [.int .i64 ka, .int .u64 la, .int .i64 xa, .int .u64 va, .int .u64 na, .slice iqa ima ica, .slice sqa sna sca, .int .i64 ya, .slice tqa tna tca, .slice dqa dna dca] := ⟨hS0.1.kept hg9 (by have h1 := hlo.out; omega), hS0.2.kept hg9 (by have h1 := hlo.out; have h2 := hgB.out; omega)⟩
    refine held_skip (i := 22) (dst := none) (w' := v9) rfl rfl (by kernel_rfl) rfl (run_store_op rfl rfl rfl hst9) hS9 ?_
    go_frame
    refine tg 23 3 (.bool false) hS9 ?_; go_frame
    refine wpAnyH_done (by kernel_rfl) ?_ _
    have m0 : v9.cell? ⟨w.heap.size, 0, none⟩ = some (.int .i64 ka) := h9.cell 0
    have m1 : v9.cell? ⟨w.heap.size, 1, none⟩ = some (.int .u64 la) := h9.cell 1
    have m2 : v9.cell? ⟨w.heap.size, 2, none⟩ = some (.int .i64 xa) := h9.cell 2
    have m3 : v9.cell? ⟨w.heap.size, 3, none⟩ = some (.int .u64 va) := h9.cell 3
    have m4 : v9.cell? ⟨w.heap.size, 4, none⟩ = some (.int .u64 na) := h9.cell 4
    have m5 : v9.cell? ⟨w.heap.size, 5, none⟩ = some (.slice iqa ima ica) := h9.cell 5
    have m6 : v9.cell? ⟨w.heap.size, 6, none⟩ = some (.slice sqa sna sca) := h9.cell 6
    have m7 : v9.cell? ⟨w.heap.size, 7, none⟩ = some (.int .i64 ya) := h9.cell 7
    have m8 : v9.cell? ⟨w.heap.size, 8, none⟩ = some (.slice tqa tna tca) := h9.cell 8
    have m9 : v9.cell? ⟨w.heap.size, 9, none⟩ = some (.slice dqa dna dca) := h9.cell 9
    have hbc4 := Lib.hid (Gr.below hg9 hbc3 (Nat.le_refl _))
    have hon4 : Hid (∀ x : World, Alike w.heap.size v9 x → RecV.On ⟨ka, la, xa, va, na, iqa, ima, ica, sqa, sna, sca, ya, tqa, tna, tca, dqa, dna, dca⟩ x V r) := fun x ha => hon2.out x (fun k h1 h2 => (ha k (Nat.le_trans (Nat.le_of_lt hlt1.out) h1) (Nat.lt_of_lt_of_le (Nat.lt_of_lt_of_le h2 hu3s) hg9.size)).trans ((hg9.block k (Nat.lt_of_lt_of_le h2 hu3s) (fun e => by have h3 := hlt1.out; simp at e; omega)).trans (hal k h2)))
    clear hst9 h9 hg9 hS9 hS0 hrs3 hbc3 hrq3 hal hdr hzr
    go_wp2
    refine bodyPost_ret (v := .tuple #[.agg #[.int .i64 ka, .int .u64 la, .int .i64 xa, .int .u64 va, .int .u64 na, .slice iqa ima ica, .slice sqa sna sca, .int .i64 ya, .slice tqa tna tca, .slice dqa dna dca], .bool false]) (by simp [results, Tryz.results45, go_sem, m0, m1, m2, m3, m4, m5, m6, m7, m8, m9]) rfl ?_
    refine ⟨⟨ka, la, xa, va, na, iqa, ima, ica, sqa, sna, sca, ya, tqa, tna, tca, dqa, dna, dca⟩, V, r, _, rfl, hon4.out, ReadR.of hhd.out (show (1 : Int) ≤ x0 ∧ x0 ≤ 9 by have h1 := hgrp.out; omega) hrest.out (by rfl), hbc4.out⟩
  | false =>
    by_cases he : te2 = 0
    rotate_left
    · have de : (te2 == 0) = false := by simpa using he
      have he := Lib.hid he
      go_wp2_with fail
      refine wp_region_held (S := fun u => RowV 120 u g [.pointer (some ⟨gr, 0, none⟩), .slice qz nz cz, .bool false] ∧ RowV 30 u B [.int .i64 ka, .int .u64 la, .int .i64 xa, .int .u64 va, .int .u64 na, .slice iqa ima ica, .slice sqa sna sca, .int .i64 ya, .slice tqa tna tca, .slice dqa dna dca]) (by kernel_rfl) ?_
      have hdr := below_drew u2
      have hS0 : RowV 120 (World.drew u2) g [.pointer (some ⟨gr, 0, none⟩), .slice qz nz cz, .bool false] ∧ RowV 30 (World.drew u2) B [.int .i64 ka, .int .u64 la, .int .i64 xa, .int .u64 va, .int .u64 na, .slice iqa ima ica, .slice sqa sna sca, .int .i64 ya, .slice tqa tna tca, .slice dqa dna dca] := ⟨hrq.out.row.below hdr, hrow2.out.below hdr⟩
      have hrq3 := hrq.out.below hdr
      have hrs3 := hrs2.out.below hdr
      have hbc3 := hbc2.out.trans (hdr.mono hbc2.out.size)
      have hu3s : u2.heap.size ≤ (World.drew u2).heap.size := hdr.size
      have hal : ∀ k, k < u2.heap.size → (World.drew u2).heap[k]? = u2.heap[k]? := hdr.block
      change wpAnyH _ _ _ _ _ _ _ _ (World.drew u2)
      generalize World.drew u2 = u3 at hS0 hrs3 hbc3 hrq3 hal hu3s ⊢
      have hzr : (Tryz.prog.info? 30).map (·.size) = some ([.int .i64 ka, .int .u64 la, .int .i64 xa, .int .u64 va, .int .u64 na, .slice iqa ima ica, .slice sqa sna sca, .int .i64 ya, .slice tqa tna tca, .slice dqa dna dca] : List Value).length := sizeRec ⟨ka, la, xa, va, na, iqa, ima, ica, sqa, sna, sca, ya, tqa, tna, tca, dqa, dna, dca⟩
      refine held_tk (i := 0) (dst := some 49) rfl (v := .agg #[.int .i64 ka, .int .u64 la, .int .i64 xa, .int .u64 va, .int .u64 na, .slice iqa ima ica, .slice sqa sna sca, .int .i64 ya, .slice tqa tna tca, .slice dqa dna dca]) rfl (y_load_agg 30 (.tmp 5) rfl rfl rfl (fun u hu => run_loadVar_at Tryz.underlying30 rfl hzr _ hu.2.boxed.all)) hS0 ?_; go_frame
      refine tg 1 50 (.pointer (some ⟨g, 0, none⟩)) hS0 ?_; go_frame
      refine tg 2 51 (.pointer (some ⟨g, 0, none⟩)) hS0 ?_; go_frame
      refine tg 3 52 (.pointer (some ⟨g, 2, none⟩)) hS0 ?_; go_frame
      refine held_tk (i := 4) (dst := some 53) rfl (v := .bool false) rfl (.inl ⟨rfl, fun u hu => by have c2 : u.cell? ⟨g, 2, none⟩ = some (.bool false) := hu.1.cell 2; go_simp⟩) hS0 ?_; go_frame
      refine tg 5 54 (.bool true) hS0 ?_; go_frame
      refine tg 6 55 (.bool true) hS0 ?_; go_frame
      refine tg 7 56 (.pointer (some ⟨g, 0, none⟩)) hS0 ?_; go_frame
      refine tg 8 57 (.pointer (some ⟨g, 0, none⟩)) hS0 ?_; go_frame
      refine tg 9 58 (.pointer (some ⟨g, 0, none⟩)) hS0 ?_; go_frame
      refine held_tk (i := 10) (dst := some 59) rfl (v := .pointer (some ⟨gr, 0, none⟩)) rfl (.inl ⟨rfl, fun u hu => by have c1 : u.cell? ⟨g, 0, none⟩ = some (.pointer (some ⟨gr, 0, none⟩)) := hu.1.cell 0; go_simp⟩) hS0 ?_; go_frame
      refine held_call (i := 11) (dst := some 60) rfl rfl (by kernel_rfl) rfl (by go_simp) (rrErr (t := ⟨⟨tl2, te2⟩, false⟩) ⟨qz, nz, cz, hrq3⟩) ?_
      rintro e ux ⟨rfl, hux⟩
      obtain rfl := hux
      refine ⟨_, rfl, hS0, ?_⟩
      go_frame
      refine tg 12 61 (.bool false) hS0 ?_; go_frame
      refine tg 13 62 (.bool false) hS0 ?_; go_frame
      refine tg 14 63 (.bool false) hS0 ?_; go_frame
      refine tu 15 64 hS0 ?_; go_frame
      refine tu 16 65 hS0 ?_; go_frame
      refine tu 17 66 hS0 ?_; go_frame
      refine tu 18 67 hS0 ?_; go_frame
      refine tu 19 68 hS0 ?_; go_frame
      refine tu 20 69 hS0 ?_; go_frame
      refine tg 21 70 (.bool false) hS0 ?_; go_frame
      obtain ⟨v9, hst9, h9, hg9⟩ := run_storeVar_at (P := Tryz.prog) (ty := 30) (o := 0) (vs := [.int .i64 ka, .int .u64 la, .int .i64 xa, .int .u64 va, .int .u64 na, .slice iqa ima ica, .slice sqa sna sca, .int .i64 ya, .slice tqa tna tca, .slice dqa dna dca]) hrs3 (sizeRec ⟨ka, la, xa, va, na, iqa, ima, ica, sqa, sna, sca, ya, tqa, tna, tca, dqa, dna, dca⟩) (Nat.le_refl _) (one_l rfl)
      have h9 : RowV 30 v9 w.heap.size [.int .i64 ka, .int .u64 la, .int .i64 xa, .int .u64 va, .int .u64 na, .slice iqa ima ica, .slice sqa sna sca, .int .i64 ya, .slice tqa tna tca, .slice dqa dna dca] := h9
      have hS9 : RowV 120 v9 g [.pointer (some ⟨gr, 0, none⟩), .slice qz nz cz, .bool false] ∧ RowV 30 v9 B [.int .i64 ka, .int .u64 la, .int .i64 xa, .int .u64 va, .int .u64 na, .slice iqa ima ica, .slice sqa sna sca, .int .i64 ya, .slice tqa tna tca, .slice dqa dna dca] := ⟨hS0.1.kept hg9 (by have h1 := hlo.out; omega), hS0.2.kept hg9 (by have h1 := hlo.out; have h2 := hgB.out; omega)⟩
      refine held_skip (i := 22) (dst := none) (w' := v9) rfl rfl (by kernel_rfl) rfl (run_store_op rfl rfl rfl hst9) hS9 ?_
      go_frame
      refine tg 23 3 (.bool false) hS9 ?_; go_frame
      refine wpAnyH_done (by kernel_rfl) ?_ _
      have m0 : v9.cell? ⟨w.heap.size, 0, none⟩ = some (.int .i64 ka) := h9.cell 0
      have m1 : v9.cell? ⟨w.heap.size, 1, none⟩ = some (.int .u64 la) := h9.cell 1
      have m2 : v9.cell? ⟨w.heap.size, 2, none⟩ = some (.int .i64 xa) := h9.cell 2
      have m3 : v9.cell? ⟨w.heap.size, 3, none⟩ = some (.int .u64 va) := h9.cell 3
      have m4 : v9.cell? ⟨w.heap.size, 4, none⟩ = some (.int .u64 na) := h9.cell 4
      have m5 : v9.cell? ⟨w.heap.size, 5, none⟩ = some (.slice iqa ima ica) := h9.cell 5
      have m6 : v9.cell? ⟨w.heap.size, 6, none⟩ = some (.slice sqa sna sca) := h9.cell 6
      have m7 : v9.cell? ⟨w.heap.size, 7, none⟩ = some (.int .i64 ya) := h9.cell 7
      have m8 : v9.cell? ⟨w.heap.size, 8, none⟩ = some (.slice tqa tna tca) := h9.cell 8
      have m9 : v9.cell? ⟨w.heap.size, 9, none⟩ = some (.slice dqa dna dca) := h9.cell 9
      have hbc4 := Lib.hid (Gr.below hg9 hbc3 (Nat.le_refl _))
      have hon4 : Hid (∀ x : World, Alike w.heap.size v9 x → RecV.On ⟨ka, la, xa, va, na, iqa, ima, ica, sqa, sna, sca, ya, tqa, tna, tca, dqa, dna, dca⟩ x V r) := fun x ha => hon2.out x (fun k h1 h2 => (ha k (Nat.le_trans (Nat.le_of_lt hlt1.out) h1) (Nat.lt_of_lt_of_le (Nat.lt_of_lt_of_le h2 hu3s) hg9.size)).trans ((hg9.block k (Nat.lt_of_lt_of_le h2 hu3s) (fun e => by have h3 := hlt1.out; simp at e; omega)).trans (hal k h2)))
      clear hst9 h9 hg9 hS9 hS0 hrs3 hbc3 hrq3 hal hdr hzr
      go_wp2
      refine bodyPost_ret (v := .tuple #[.agg #[.int .i64 ka, .int .u64 la, .int .i64 xa, .int .u64 va, .int .u64 na, .slice iqa ima ica, .slice sqa sna sca, .int .i64 ya, .slice tqa tna tca, .slice dqa dna dca], .bool false]) (by simp [results, Tryz.results45, go_sem, m0, m1, m2, m3, m4, m5, m6, m7, m8, m9]) rfl ?_
      refine ⟨⟨ka, la, xa, va, na, iqa, ima, ica, sqa, sna, sca, ya, tqa, tna, tca, dqa, dna, dca⟩, V, r, _, rfl, hon4.out, ReadR.of hhd.out (show (1 : Int) ≤ x0 ∧ x0 ≤ 9 by have h1 := hgrp.out; omega) hrest.out (by have h1 := he.out; simp only [Bool.not_false, Bool.true_and]; rw [show (te2 == 0) = false by simpa using h1]; rfl), hbc4.out⟩
    subst he
    go_wp2_with fail
    refine wp_region_held (S := fun u => RowV 120 u g [.pointer (some ⟨gr, 0, none⟩), .slice qz nz cz, .bool false] ∧ RowV 30 u B [.int .i64 ka, .int .u64 la, .int .i64 xa, .int .u64 va, .int .u64 na, .slice iqa ima ica, .slice sqa sna sca, .int .i64 ya, .slice tqa tna tca, .slice dqa dna dca]) (by kernel_rfl) ?_
    have hdr := below_drew u2
    have hS0 : RowV 120 (World.drew u2) g [.pointer (some ⟨gr, 0, none⟩), .slice qz nz cz, .bool false] ∧ RowV 30 (World.drew u2) B [.int .i64 ka, .int .u64 la, .int .i64 xa, .int .u64 va, .int .u64 na, .slice iqa ima ica, .slice sqa sna sca, .int .i64 ya, .slice tqa tna tca, .slice dqa dna dca] := ⟨hrq.out.row.below hdr, hrow2.out.below hdr⟩
    have hrq3 := hrq.out.below hdr
    have hrs3 := hrs2.out.below hdr
    have hbc3 := hbc2.out.trans (hdr.mono hbc2.out.size)
    have hu3s : u2.heap.size ≤ (World.drew u2).heap.size := hdr.size
    have hal : ∀ k, k < u2.heap.size → (World.drew u2).heap[k]? = u2.heap[k]? := hdr.block
    change wpAnyH _ _ _ _ _ _ _ _ (World.drew u2)
    generalize World.drew u2 = u3 at hS0 hrs3 hbc3 hrq3 hal hu3s ⊢
    have hzr : (Tryz.prog.info? 30).map (·.size) = some ([.int .i64 ka, .int .u64 la, .int .i64 xa, .int .u64 va, .int .u64 na, .slice iqa ima ica, .slice sqa sna sca, .int .i64 ya, .slice tqa tna tca, .slice dqa dna dca] : List Value).length := sizeRec ⟨ka, la, xa, va, na, iqa, ima, ica, sqa, sna, sca, ya, tqa, tna, tca, dqa, dna, dca⟩
    refine held_tk (i := 0) (dst := some 49) rfl (v := .agg #[.int .i64 ka, .int .u64 la, .int .i64 xa, .int .u64 va, .int .u64 na, .slice iqa ima ica, .slice sqa sna sca, .int .i64 ya, .slice tqa tna tca, .slice dqa dna dca]) rfl (y_load_agg 30 (.tmp 5) rfl rfl rfl (fun u hu => run_loadVar_at Tryz.underlying30 rfl hzr _ hu.2.boxed.all)) hS0 ?_; go_frame
    refine tg 1 50 (.pointer (some ⟨g, 0, none⟩)) hS0 ?_; go_frame
    refine tg 2 51 (.pointer (some ⟨g, 0, none⟩)) hS0 ?_; go_frame
    refine tg 3 52 (.pointer (some ⟨g, 2, none⟩)) hS0 ?_; go_frame
    refine held_tk (i := 4) (dst := some 53) rfl (v := .bool false) rfl (.inl ⟨rfl, fun u hu => by have c2 : u.cell? ⟨g, 2, none⟩ = some (.bool false) := hu.1.cell 2; go_simp⟩) hS0 ?_; go_frame
    refine tg 5 54 (.bool true) hS0 ?_; go_frame
    refine tg 6 55 (.bool true) hS0 ?_; go_frame
    refine tg 7 56 (.pointer (some ⟨g, 0, none⟩)) hS0 ?_; go_frame
    refine tg 8 57 (.pointer (some ⟨g, 0, none⟩)) hS0 ?_; go_frame
    refine tg 9 58 (.pointer (some ⟨g, 0, none⟩)) hS0 ?_; go_frame
    refine held_tk (i := 10) (dst := some 59) rfl (v := .pointer (some ⟨gr, 0, none⟩)) rfl (.inl ⟨rfl, fun u hu => by have c1 : u.cell? ⟨g, 0, none⟩ = some (.pointer (some ⟨gr, 0, none⟩)) := hu.1.cell 0; go_simp⟩) hS0 ?_; go_frame
    refine held_call (i := 11) (dst := some 60) rfl rfl (by kernel_rfl) rfl (by go_simp) (rrErr (t := ⟨⟨tl2, 0⟩, false⟩) ⟨qz, nz, cz, hrq3⟩) ?_
    rintro e ux ⟨rfl, hux⟩
    obtain rfl := hux
    refine ⟨_, rfl, hS0, ?_⟩
    go_frame
    refine tg 12 61 (.bool true) hS0 ?_; go_frame
    refine tg 13 62 (.bool true) hS0 ?_; go_frame
    refine tg 14 63 (.bool true) hS0 ?_; go_frame
    refine tg 15 64 (.pointer (some ⟨g, 0, none⟩)) hS0 ?_; go_frame
    refine tg 16 65 (.pointer (some ⟨g, 0, none⟩)) hS0 ?_; go_frame
    refine tg 17 66 (.pointer (some ⟨g, 0, none⟩)) hS0 ?_; go_frame
    refine held_tk (i := 18) (dst := some 67) rfl (v := .pointer (some ⟨gr, 0, none⟩)) rfl (.inl ⟨rfl, fun u hu => by have c1 : u.cell? ⟨g, 0, none⟩ = some (.pointer (some ⟨gr, 0, none⟩)) := hu.1.cell 0; go_simp⟩) hS0 ?_; go_frame
    refine held_call (i := 19) (dst := some 68) rfl rfl (by kernel_rfl) rfl (by go_simp) (rrLeft (t := ⟨⟨tl2, 0⟩, false⟩) ⟨qz, nz, cz, hrq3⟩) ?_
    rintro e ux ⟨rfl, hux⟩
    obtain rfl := hux
    rw [show ((⟨⟨tl2, 0⟩, false⟩ : RSt).s.l.length : Int) = (LL : Int) from by rw [← hLL.out]]
    refine ⟨_, rfl, hS0, ?_⟩
    go_frame
    refine tg 20 69 (.bool ((LL : Int) == 0)) hS0 ?_; go_frame
    refine tg 21 70 (.bool ((LL : Int) == 0)) hS0 ?_; go_frame
    obtain ⟨v9, hst9, h9, hg9⟩ := run_storeVar_at (P := Tryz.prog) (ty := 30) (o := 0) (vs := [.int .i64 ka, .int .u64 la, .int .i64 xa, .int .u64 va, .int .u64 na, .slice iqa ima ica, .slice sqa sna sca, .int .i64 ya, .slice tqa tna tca, .slice dqa dna dca]) hrs3 (sizeRec ⟨ka, la, xa, va, na, iqa, ima, ica, sqa, sna, sca, ya, tqa, tna, tca, dqa, dna, dca⟩) (Nat.le_refl _) (one_l rfl)
    have h9 : RowV 30 v9 w.heap.size [.int .i64 ka, .int .u64 la, .int .i64 xa, .int .u64 va, .int .u64 na, .slice iqa ima ica, .slice sqa sna sca, .int .i64 ya, .slice tqa tna tca, .slice dqa dna dca] := h9
    have hS9 : RowV 120 v9 g [.pointer (some ⟨gr, 0, none⟩), .slice qz nz cz, .bool false] ∧ RowV 30 v9 B [.int .i64 ka, .int .u64 la, .int .i64 xa, .int .u64 va, .int .u64 na, .slice iqa ima ica, .slice sqa sna sca, .int .i64 ya, .slice tqa tna tca, .slice dqa dna dca] := ⟨hS0.1.kept hg9 (by have h1 := hlo.out; omega), hS0.2.kept hg9 (by have h1 := hlo.out; have h2 := hgB.out; omega)⟩
    refine held_skip (i := 22) (dst := none) (w' := v9) rfl rfl (by kernel_rfl) rfl (run_store_op rfl rfl rfl hst9) hS9 ?_
    go_frame
    refine tg 23 3 (.bool ((LL : Int) == 0)) hS9 ?_; go_frame
    refine wpAnyH_done (by kernel_rfl) ?_ _
    have m0 : v9.cell? ⟨w.heap.size, 0, none⟩ = some (.int .i64 ka) := h9.cell 0
    have m1 : v9.cell? ⟨w.heap.size, 1, none⟩ = some (.int .u64 la) := h9.cell 1
    have m2 : v9.cell? ⟨w.heap.size, 2, none⟩ = some (.int .i64 xa) := h9.cell 2
    have m3 : v9.cell? ⟨w.heap.size, 3, none⟩ = some (.int .u64 va) := h9.cell 3
    have m4 : v9.cell? ⟨w.heap.size, 4, none⟩ = some (.int .u64 na) := h9.cell 4
    have m5 : v9.cell? ⟨w.heap.size, 5, none⟩ = some (.slice iqa ima ica) := h9.cell 5
    have m6 : v9.cell? ⟨w.heap.size, 6, none⟩ = some (.slice sqa sna sca) := h9.cell 6
    have m7 : v9.cell? ⟨w.heap.size, 7, none⟩ = some (.int .i64 ya) := h9.cell 7
    have m8 : v9.cell? ⟨w.heap.size, 8, none⟩ = some (.slice tqa tna tca) := h9.cell 8
    have m9 : v9.cell? ⟨w.heap.size, 9, none⟩ = some (.slice dqa dna dca) := h9.cell 9
    have hbc4 := Lib.hid (Gr.below hg9 hbc3 (Nat.le_refl _))
    have hon4 : Hid (∀ x : World, Alike w.heap.size v9 x → RecV.On ⟨ka, la, xa, va, na, iqa, ima, ica, sqa, sna, sca, ya, tqa, tna, tca, dqa, dna, dca⟩ x V r) := fun x ha => hon2.out x (fun k h1 h2 => (ha k (Nat.le_trans (Nat.le_of_lt hlt1.out) h1) (Nat.lt_of_lt_of_le (Nat.lt_of_lt_of_le h2 hu3s) hg9.size)).trans ((hg9.block k (Nat.lt_of_lt_of_le h2 hu3s) (fun e => by have h3 := hlt1.out; simp at e; omega)).trans (hal k h2)))
    clear hst9 h9 hg9 hS9 hS0 hrs3 hbc3 hrq3 hal hdr hzr
    go_wp2
    refine bodyPost_ret (v := .tuple #[.agg #[.int .i64 ka, .int .u64 la, .int .i64 xa, .int .u64 va, .int .u64 na, .slice iqa ima ica, .slice sqa sna sca, .int .i64 ya, .slice tqa tna tca, .slice dqa dna dca], .bool ((LL : Int) == 0)]) (by simp [results, Tryz.results45, go_sem, m0, m1, m2, m3, m4, m5, m6, m7, m8, m9]) rfl ?_
    refine ⟨⟨ka, la, xa, va, na, iqa, ima, ica, sqa, sna, sca, ya, tqa, tna, tca, dqa, dna, dca⟩, V, r, _, rfl, hon4.out, ReadR.of hhd.out (show (1 : Int) ≤ x0 ∧ x0 ≤ 9 by have h1 := hgrp.out; omega) hrest.out (by rw [← hLL.out]; rfl), hbc4.out⟩
end Go.Proofs.YtocekhckmpkbmaaGreat
