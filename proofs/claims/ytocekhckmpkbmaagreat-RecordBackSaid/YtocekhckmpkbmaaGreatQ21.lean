/- Parts of the proof: The reader of record: rows of which just the key stands, a checkpoint's pages and transactions; A region that draws its order, gone through by its branches: which operation comes next. Nothing of a program is claimed here -/
import Derived.Test.YtocekhckmpkbmaaGreatQ20
import Derived.Test.YtocekhckmpkbmaaGreatQ16
namespace Go.Proofs.YtocekhckmpkbmaaGreat
open Go.RowKit
/-- the reader's first cell, and the result's cells at the block that was new -/
structure RdB (w : World) (g gr : Nat) (T : TypeId) (m : Nat) (u : World) : Prop where
 c0 : u.cell? ⟨g, 0, none⟩ = some (.pointer (some ⟨gr, 0, none⟩))
 res : ∃ vs, vs.length = m ∧ RowV T u w.heap.size vs
theorem RdB.below {w u u' : World} {g gr : Nat} {T : TypeId} {m : Nat} (h : RdB w g gr T m u) (hb : Below u.heap.size u u') : RdB w g gr T m u' :=
 ⟨cell_keeps hb (Nat.le_refl _) h.c0, by obtain ⟨vs, h1, h2⟩ := h.res; exact ⟨vs, h1, h2.below hb⟩⟩
theorem RdB.step {w u u' : World} {g gr : Nat} {T : TypeId} {m : Nat} {d : Option Nat} {all : List UInt8} {t : RSt} (h : RdB w g gr T m u) (hr : RR u' g gr d all t) (hs : RStep u u' g gr) (h1 : g < w.heap.size) (h2 : gr < w.heap.size) : RdB w g gr T m u' :=
 ⟨hr.c0, by obtain ⟨vs, a, b⟩ := h.res; exact ⟨vs, a, hs.row b (by omega) (by omega)⟩⟩
theorem one_l {l : List Value} (h : l.all (fun v => v.oneCell') = true) : ∀ v ∈ l, v.oneCell' = true := fun v hv => List.all_eq_true.1 h v hv
set_option maxRecDepth 100000 in
set_option maxHeartbeats 4000000 in
theorem bare_rr {w : World} {g gr : Nat} {d : Option Nat} {all : List UInt8} {t : RSt} (h : RR w g gr d all t) :
 Calls Tryz.prog 140 #[.pointer (some ⟨g, 0, none⟩)] w (RRP (.agg #[.int .i64 (t.nm 1), .int .u16 ((t.nx 1).nm 2), .int .i64 0, .string ⟨#[]⟩]) w g gr d all ((t.nx 1).nx 2)) := by
 obtain ⟨W, hW⟩ : ∃ W, w.alloc (.cells #[.int .i64 0, .int .u16 0, .int .i64 0, .string ⟨#[]⟩] 68) = W := ⟨_, rfl⟩
 have hbW : Below w.heap.size w W := by rw [← hW]; exact (Below.refl _ _).alloc (Nat.le_refl _) _
 have hrow : RowV 68 W w.heap.size [.int .i64 0, .int .u16 0, .int .i64 0, .string ⟨#[]⟩] := by rw [← hW]; exact RowV.made w _
 have hgs := Lib.hid h.lt
 have hgrs := Lib.hid h.ltr
 have hdn : Hid (d ≠ some w.heap.size) := fun e => by have := h.src _ e; omega
 have hrW := Lib.hid (h.below hbW)
 have stW := Lib.hid (RStep.of_below (g := g) (gr := gr) hbW)
 have hSW : Hid (RdB w g gr 68 4 W) := ⟨hrW.out.c0, _, rfl, hrow⟩
 clear h hrow hbW
 go_enter Tryz.func140, Tryz.ntmps140
 go_wp2_with fail
 clear hW
 refine wp_region_held (S := RdB w g gr 68 4) (by kernel_rfl) ?_
 change wpAnyH _ _ _ _ _ _ _ _ (World.drew W)
 have hS0 : RdB w g gr 68 4 (World.drew W) := hSW.out.below (below_drew W)
 have hr0 := hrW.out.below (below_drew W)
 have st0 := stW.out.trans (RStep.of_below (below_drew W))
 generalize World.drew W = u0 at hS0 hr0 st0 ⊢
 refine tg 0 3 (.pointer (some ⟨g, 0, none⟩)) hS0 ?_; go_frame
 refine tg 1 4 (.pointer (some ⟨g, 0, none⟩)) hS0 ?_; go_frame
 refine tg 2 5 (.pointer (some ⟨g, 0, none⟩)) hS0 ?_; go_frame
 refine held_tk (i := 3) (dst := some 6) rfl (v := .pointer (some ⟨gr, 0, none⟩)) rfl (.inl ⟨rfl, fun u hu => by have c0 := hu.c0; go_simp⟩) hS0 ?_; go_frame
 refine tg 6 9 (.pointer (some ⟨g, 0, none⟩)) hS0 ?_; go_frame
 refine tg 7 10 (.pointer (some ⟨g, 0, none⟩)) hS0 ?_; go_frame
 refine tg 8 11 (.pointer (some ⟨g, 0, none⟩)) hS0 ?_; go_frame
 refine held_tk (i := 9) (dst := some 12) rfl (v := .pointer (some ⟨gr, 0, none⟩)) rfl (.inl ⟨rfl, fun u hu => by have c0 := hu.c0; go_simp⟩) hS0 ?_; go_frame
 refine held_call (i := 4) (dst := some 7) rfl rfl (by kernel_rfl) rfl (by go_simp) (rr8 hr0) ?_
 rintro e u1 ⟨rfl, hs1, hr1⟩
 have st1 := st0.trans hs1
 have hS1 : RdB w g gr 68 4 u1 := hS0.step hr1 hs1 hgs.out hgrs.out
 refine ⟨_, rfl, hS1, ?_⟩
 go_frame
 obtain ⟨b0, b1⟩ := nm1 t
 have e1 : IntKind.i64.wrap (t.nm 1) = t.nm 1 := IntWalk.i64_in _ (by omega)
 refine tg 5 8 (.int .i64 (t.nm 1)) hS1 ?_; go_frame
 refine held_call (i := 10) (dst := some 13) rfl rfl (by kernel_rfl) rfl (by go_simp) (rr16 hr1) ?_
 rintro e u2 ⟨rfl, hs2, hr2⟩
 have st2 := st1.trans hs2
 have hS2 : RdB w g gr 68 4 u2 := hS1.step hr2 hs2 hgs.out hgrs.out
 refine ⟨_, rfl, hS2, ?_⟩
 go_frame
 refine held_tk (i := 11) (dst := some 14) rfl (v := .agg #[.int .i64 (t.nm 1), .int .u16 ((t.nx 1).nm 2)]) rfl (.inl ⟨rfl, fun u hu => by go_simp <;> rfl⟩) hS2 ?_; go_frame
 refine held_tk (i := 12) (dst := some 15) rfl (v := .agg #[.int .i64 (t.nm 1), .int .u16 ((t.nx 1).nm 2), .int .i64 0, .string ⟨#[]⟩]) rfl (.inl ⟨rfl, fun u hu => by go_simp <;> rfl⟩) hS2 ?_; go_frame
 obtain ⟨vz, hvl, hvr⟩ := hS2.res
 obtain ⟨w7, hst7, h7, hg7⟩ := run_storeVar_at (P := Tryz.prog) (ty := 68) (o := 0) (vs := [.int .i64 (t.nm 1), .int .u16 ((t.nx 1).nm 2), .int .i64 0, .string ⟨#[]⟩]) hvr (sizeRow _ _ _ _) (by rw [hvl]; exact Nat.le_refl _) (one_l rfl)
 rw [splice_all _ _ (by rw [hvl]; rfl)] at h7
 have hgsz := hgs.out
 have hgrsz := hgrs.out
 have hr7 := hr2.new hg7 hgrsz (by omega) (fun e => hdn.out e)
 have st7 := st2.own hg7 (Nat.le_refl _)
 have hS7 : RdB w g gr 68 4 w7 := ⟨hr7.c0, _, rfl, h7⟩
 refine held_skip (i := 13) (dst := none) (w' := w7) rfl rfl (by kernel_rfl) rfl (run_store_op rfl rfl rfl hst7) hS7 ?_
 go_frame
 refine wpAnyH_done (by kernel_rfl) ?_ _
 have hr7 := Lib.hid hr7
 have st7 := Lib.hid st7
 have m0 : w7.cell? ⟨w.heap.size, 0, none⟩ = some (.int .i64 (t.nm 1)) := h7.cell 0
 have m1 : w7.cell? ⟨w.heap.size, 1, none⟩ = some (.int .u16 ((t.nx 1).nm 2)) := h7.cell 1
 have m2 : w7.cell? ⟨w.heap.size, 2, none⟩ = some (.int .i64 0) := h7.cell 2
 have m3 : w7.cell? ⟨w.heap.size, 3, none⟩ = some (.string ⟨#[]⟩) := h7.cell 3
 clear hst7 h7 hg7 hS7 hvr hS0 hS1 hS2 hr0 hr1 hr2 st0 st1 st2
 go_wp2
 exact bodyPost_ret (v := .agg #[.int .i64 (t.nm 1), .int .u16 ((t.nx 1).nm 2), .int .i64 0, .string ⟨#[]⟩]) (by simp [results, Tryz.results140, go_sem, m0, m1, m2, m3]) rfl ⟨rfl, st7.out, hr7.out⟩
set_option maxRecDepth 100000 in
set_option maxHeartbeats 4000000 in
theorem dirty_rr {w : World} {g gr : Nat} {d : Option Nat} {all : List UInt8} {t : RSt} (h : RR w g gr d all t) :
 Calls Tryz.prog 128 #[.pointer (some ⟨g, 0, none⟩)] w (RRP (.agg #[.int .i64 (t.nm 1), .int .u64 ((t.nx 1).nm 8)]) w g gr d all ((t.nx 1).nx 8)) := by
 obtain ⟨W, hW⟩ : ∃ W, w.alloc (.cells #[.int .i64 0, .int .u64 0] 85) = W := ⟨_, rfl⟩
 have hbW : Below w.heap.size w W := by rw [← hW]; exact (Below.refl _ _).alloc (Nat.le_refl _) _
 have hrow : RowV 85 W w.heap.size [.int .i64 0, .int .u64 0] := by rw [← hW]; exact RowV.made w _
 have hgs := Lib.hid h.lt
 have hgrs := Lib.hid h.ltr
 have hdn : Hid (d ≠ some w.heap.size) := fun e => by have := h.src _ e; omega
 have hrW := Lib.hid (h.below hbW)
 have stW := Lib.hid (RStep.of_below (g := g) (gr := gr) hbW)
 have hSW : Hid (RdB w g gr 85 2 W) := ⟨hrW.out.c0, _, rfl, hrow⟩
 clear h hrow hbW
 go_enter Tryz.func128, Tryz.ntmps128
 go_wp2_with fail
 clear hW
 refine wp_region_held (S := RdB w g gr 85 2) (by kernel_rfl) ?_
 change wpAnyH _ _ _ _ _ _ _ _ (World.drew W)
 have hS0 : RdB w g gr 85 2 (World.drew W) := hSW.out.below (below_drew W)
 have hr0 := hrW.out.below (below_drew W)
 have st0 := stW.out.trans (RStep.of_below (below_drew W))
 generalize World.drew W = u0 at hS0 hr0 st0 ⊢
 refine tg 0 3 (.pointer (some ⟨g, 0, none⟩)) hS0 ?_; go_frame
 refine tg 2 5 (.pointer (some ⟨g, 0, none⟩)) hS0 ?_; go_frame
 refine tg 3 6 (.pointer (some ⟨g, 0, none⟩)) hS0 ?_; go_frame
 refine tg 4 7 (.pointer (some ⟨g, 0, none⟩)) hS0 ?_; go_frame
 refine held_tk (i := 5) (dst := some 8) rfl (v := .pointer (some ⟨gr, 0, none⟩)) rfl (.inl ⟨rfl, fun u hu => by have c0 := hu.c0; go_simp⟩) hS0 ?_; go_frame
 refine held_call (i := 1) (dst := some 4) rfl rfl (by kernel_rfl) rfl (by go_simp) (page_rr hr0) ?_
 rintro e u1 ⟨rfl, hs1, hr1⟩
 have st1 := st0.trans hs1
 have hS1 : RdB w g gr 85 2 u1 := hS0.step hr1 hs1 hgs.out hgrs.out
 refine ⟨_, rfl, hS1, ?_⟩
 go_frame
 refine held_call (i := 6) (dst := some 9) rfl rfl (by kernel_rfl) rfl (by go_simp) (rr64 hr1) ?_
 rintro e u2 ⟨rfl, hs2, hr2⟩
 have st2 := st1.trans hs2
 have hS2 : RdB w g gr 85 2 u2 := hS1.step hr2 hs2 hgs.out hgrs.out
 refine ⟨_, rfl, hS2, ?_⟩
 go_frame
 refine held_tk (i := 7) (dst := some 10) rfl (v := .agg #[.int .i64 (t.nm 1), .int .u64 ((t.nx 1).nm 8)]) rfl (.inl ⟨rfl, fun u hu => by go_simp <;> rfl⟩) hS2 ?_; go_frame
 obtain ⟨vz, hvl, hvr⟩ := hS2.res
 obtain ⟨w7, hst7, h7, hg7⟩ := run_storeVar_at (P := Tryz.prog) (ty := 85) (o := 0) (vs := [.int .i64 (t.nm 1), .int .u64 ((t.nx 1).nm 8)]) hvr (sizePg ⟨_, _⟩) (by rw [hvl]; exact Nat.le_refl _) (one_l rfl)
 rw [splice_all _ _ (by rw [hvl]; rfl)] at h7
 have hgsz := hgs.out
 have hgrsz := hgrs.out
 have hr7 := hr2.new hg7 hgrsz (by omega) (fun e => hdn.out e)
 have st7 := st2.own hg7 (Nat.le_refl _)
 have hS7 : RdB w g gr 85 2 w7 := ⟨hr7.c0, _, rfl, h7⟩
 refine held_skip (i := 8) (dst := none) (w' := w7) rfl rfl (by kernel_rfl) rfl (run_store_op rfl rfl rfl hst7) hS7 ?_
 go_frame
 refine wpAnyH_done (by kernel_rfl) ?_ _
 have hr7 := Lib.hid hr7
 have st7 := Lib.hid st7
 have m0 : w7.cell? ⟨w.heap.size, 0, none⟩ = some (.int .i64 (t.nm 1)) := h7.cell 0
 have m1 : w7.cell? ⟨w.heap.size, 1, none⟩ = some (.int .u64 ((t.nx 1).nm 8)) := h7.cell 1
 clear hst7 h7 hg7 hS7 hvr hS0 hS1 hS2 hr0 hr1 hr2 st0 st1 st2
 go_wp2
 exact bodyPost_ret (v := .agg #[.int .i64 (t.nm 1), .int .u64 ((t.nx 1).nm 8)]) (by simp [results, Tryz.results128, go_sem, m0, m1]) rfl ⟨rfl, st7.out, hr7.out⟩
set_option maxRecDepth 100000 in
set_option maxHeartbeats 4000000 in
theorem txn_rr {w : World} {g gr : Nat} {d : Option Nat} {all : List UInt8} {t : RSt} (h : RR w g gr d all t) :
 Calls Tryz.prog 126 #[.pointer (some ⟨g, 0, none⟩)] w (RRP (.agg #[.int .i64 (t.nm 4), .int .u64 ((t.nx 4).nm 8), .int .u64 (((t.nx 4).nx 8).nm 8), .int .u64 ((((t.nx 4).nx 8).nx 8).nm 8), .int .i64 (((((t.nx 4).nx 8).nx 8).nx 8).nm 1)]) w g gr d all (((((t.nx 4).nx 8).nx 8).nx 8).nx 1)) := by
 obtain ⟨W, hW⟩ : ∃ W, w.alloc (.cells #[.int .i64 0, .int .u64 0, .int .u64 0, .int .u64 0, .int .i64 0] 82) = W := ⟨_, rfl⟩
 have hbW : Below w.heap.size w W := by rw [← hW]; exact (Below.refl _ _).alloc (Nat.le_refl _) _
 have hrow : RowV 82 W w.heap.size [.int .i64 0, .int .u64 0, .int .u64 0, .int .u64 0, .int .i64 0] := by rw [← hW]; exact RowV.made w _
 have hgs := Lib.hid h.lt
 have hgrs := Lib.hid h.ltr
 have hdn : Hid (d ≠ some w.heap.size) := fun e => by have := h.src _ e; omega
 have hrW := Lib.hid (h.below hbW)
 have stW := Lib.hid (RStep.of_below (g := g) (gr := gr) hbW)
 have hSW : Hid (RdB w g gr 82 5 W) := ⟨hrW.out.c0, _, rfl, hrow⟩
 clear h hrow hbW
 go_enter Tryz.func126, Tryz.ntmps126
 go_wp2_with fail
 clear hW
 refine wp_region_held (S := RdB w g gr 82 5) (by kernel_rfl) ?_
 change wpAnyH _ _ _ _ _ _ _ _ (World.drew W)
 have hS0 : RdB w g gr 82 5 (World.drew W) := hSW.out.below (below_drew W)
 have hr0 := hrW.out.below (below_drew W)
 have st0 := stW.out.trans (RStep.of_below (below_drew W))
 generalize World.drew W = u0 at hS0 hr0 st0 ⊢
 refine tg 0 3 (.pointer (some ⟨g, 0, none⟩)) hS0 ?_; go_frame
 refine tg 1 4 (.pointer (some ⟨g, 0, none⟩)) hS0 ?_; go_frame
 refine tg 2 5 (.pointer (some ⟨g, 0, none⟩)) hS0 ?_; go_frame
 refine held_tk (i := 3) (dst := some 6) rfl (v := .pointer (some ⟨gr, 0, none⟩)) rfl (.inl ⟨rfl, fun u hu => by have c0 := hu.c0; go_simp⟩) hS0 ?_; go_frame
 refine tg 6 9 (.pointer (some ⟨g, 0, none⟩)) hS0 ?_; go_frame
 refine tg 7 10 (.pointer (some ⟨g, 0, none⟩)) hS0 ?_; go_frame
 refine tg 8 11 (.pointer (some ⟨g, 0, none⟩)) hS0 ?_; go_frame
 refine held_tk (i := 9) (dst := some 12) rfl (v := .pointer (some ⟨gr, 0, none⟩)) rfl (.inl ⟨rfl, fun u hu => by have c0 := hu.c0; go_simp⟩) hS0 ?_; go_frame
 refine tg 11 14 (.pointer (some ⟨g, 0, none⟩)) hS0 ?_; go_frame
 refine tg 12 15 (.pointer (some ⟨g, 0, none⟩)) hS0 ?_; go_frame
 refine tg 13 16 (.pointer (some ⟨g, 0, none⟩)) hS0 ?_; go_frame
 refine held_tk (i := 14) (dst := some 17) rfl (v := .pointer (some ⟨gr, 0, none⟩)) rfl (.inl ⟨rfl, fun u hu => by have c0 := hu.c0; go_simp⟩) hS0 ?_; go_frame
 refine tg 16 19 (.pointer (some ⟨g, 0, none⟩)) hS0 ?_; go_frame
 refine tg 17 20 (.pointer (some ⟨g, 0, none⟩)) hS0 ?_; go_frame
 refine tg 18 21 (.pointer (some ⟨g, 0, none⟩)) hS0 ?_; go_frame
 refine held_tk (i := 19) (dst := some 22) rfl (v := .pointer (some ⟨gr, 0, none⟩)) rfl (.inl ⟨rfl, fun u hu => by have c0 := hu.c0; go_simp⟩) hS0 ?_; go_frame
 refine tg 21 24 (.pointer (some ⟨g, 0, none⟩)) hS0 ?_; go_frame
 refine tg 22 25 (.pointer (some ⟨g, 0, none⟩)) hS0 ?_; go_frame
 refine tg 23 26 (.pointer (some ⟨g, 0, none⟩)) hS0 ?_; go_frame
 refine held_tk (i := 24) (dst := some 27) rfl (v := .pointer (some ⟨gr, 0, none⟩)) rfl (.inl ⟨rfl, fun u hu => by have c0 := hu.c0; go_simp⟩) hS0 ?_; go_frame
 refine held_call (i := 4) (dst := some 7) rfl rfl (by kernel_rfl) rfl (by go_simp) (rr32 hr0) ?_
 rintro e u1 ⟨rfl, hs1, hr1⟩
 have st1 := st0.trans hs1
 have hS1 : RdB w g gr 82 5 u1 := hS0.step hr1 hs1 hgs.out hgrs.out
 refine ⟨_, rfl, hS1, ?_⟩
 go_frame
 obtain ⟨b0, b1⟩ := nm4 t
 have e1 : IntKind.i64.wrap (t.nm 4) = t.nm 4 := IntWalk.i64_in _ (by omega)
 refine tg 5 8 (.int .i64 (t.nm 4)) hS1 ?_; go_frame
 refine held_call (i := 10) (dst := some 13) rfl rfl (by kernel_rfl) rfl (by go_simp) (rr64 hr1) ?_
 rintro e u2 ⟨rfl, hs2, hr2⟩
 have st2 := st1.trans hs2
 have hS2 : RdB w g gr 82 5 u2 := hS1.step hr2 hs2 hgs.out hgrs.out
 refine ⟨_, rfl, hS2, ?_⟩
 go_frame
 refine held_call (i := 15) (dst := some 18) rfl rfl (by kernel_rfl) rfl (by go_simp) (rr64 hr2) ?_
 rintro e u3 ⟨rfl, hs3, hr3⟩
 have st3 := st2.trans hs3
 have hS3 : RdB w g gr 82 5 u3 := hS2.step hr3 hs3 hgs.out hgrs.out
 refine ⟨_, rfl, hS3, ?_⟩
 go_frame
 refine held_call (i := 20) (dst := some 23) rfl rfl (by kernel_rfl) rfl (by go_simp) (rr64 hr3) ?_
 rintro e u4 ⟨rfl, hs4, hr4⟩
 have st4 := st3.trans hs4
 have hS4 : RdB w g gr 82 5 u4 := hS3.step hr4 hs4 hgs.out hgrs.out
 refine ⟨_, rfl, hS4, ?_⟩
 go_frame
 refine held_call (i := 25) (dst := some 28) rfl rfl (by kernel_rfl) rfl (by go_simp) (rr8 hr4) ?_
 rintro e u5 ⟨rfl, hs5, hr5⟩
 have st5 := st4.trans hs5
 have hS5 : RdB w g gr 82 5 u5 := hS4.step hr5 hs5 hgs.out hgrs.out
 refine ⟨_, rfl, hS5, ?_⟩
 go_frame
 obtain ⟨b2, b3⟩ := nm1 ((((t.nx 4).nx 8).nx 8).nx 8)
 have e2 : IntKind.i64.wrap (((((t.nx 4).nx 8).nx 8).nx 8).nm 1) = ((((t.nx 4).nx 8).nx 8).nx 8).nm 1 := IntWalk.i64_in _ (by omega)
 refine tg 26 29 (.int .i64 (((((t.nx 4).nx 8).nx 8).nx 8).nm 1)) hS5 ?_; go_frame
 refine held_tk (i := 27) (dst := some 30) rfl (v := .agg #[.int .i64 (t.nm 4), .int .u64 ((t.nx 4).nm 8), .int .u64 (((t.nx 4).nx 8).nm 8), .int .u64 ((((t.nx 4).nx 8).nx 8).nm 8), .int .i64 (((((t.nx 4).nx 8).nx 8).nx 8).nm 1)]) rfl (.inl ⟨rfl, fun u hu => by go_simp <;> rfl⟩) hS5 ?_; go_frame
 obtain ⟨vz, hvl, hvr⟩ := hS5.res
 obtain ⟨w7, hst7, h7, hg7⟩ := run_storeVar_at (P := Tryz.prog) (ty := 82) (o := 0) (vs := [.int .i64 (t.nm 4), .int .u64 ((t.nx 4).nm 8), .int .u64 (((t.nx 4).nx 8).nm 8), .int .u64 ((((t.nx 4).nx 8).nx 8).nm 8), .int .i64 (((((t.nx 4).nx 8).nx 8).nx 8).nm 1)]) hvr (sizeTxn ⟨_, _, _, _, _⟩) (by rw [hvl]; exact Nat.le_refl _) (one_l rfl)
 rw [splice_all _ _ (by rw [hvl]; rfl)] at h7
 have hgsz := hgs.out
 have hgrsz := hgrs.out
 have hr7 := hr5.new hg7 hgrsz (by omega) (fun e => hdn.out e)
 have st7 := st5.own hg7 (Nat.le_refl _)
 have hS7 : RdB w g gr 82 5 w7 := ⟨hr7.c0, _, rfl, h7⟩
 refine held_skip (i := 28) (dst := none) (w' := w7) rfl rfl (by kernel_rfl) rfl (run_store_op rfl rfl rfl hst7) hS7 ?_
 go_frame
 refine wpAnyH_done (by kernel_rfl) ?_ _
 have hr7 := Lib.hid hr7
 have st7 := Lib.hid st7
 have m0 : w7.cell? ⟨w.heap.size, 0, none⟩ = some (.int .i64 (t.nm 4)) := h7.cell 0
 have m1 : w7.cell? ⟨w.heap.size, 1, none⟩ = some (.int .u64 ((t.nx 4).nm 8)) := h7.cell 1
 have m2 : w7.cell? ⟨w.heap.size, 2, none⟩ = some (.int .u64 (((t.nx 4).nx 8).nm 8)) := h7.cell 2
 have m3 : w7.cell? ⟨w.heap.size, 3, none⟩ = some (.int .u64 ((((t.nx 4).nx 8).nx 8).nm 8)) := h7.cell 3
 have m4 : w7.cell? ⟨w.heap.size, 4, none⟩ = some (.int .i64 (((((t.nx 4).nx 8).nx 8).nx 8).nm 1)) := h7.cell 4
 clear hst7 h7 hg7 hS7 hvr hS0 hS1 hS2 hS3 hS4 hS5 hr0 hr1 hr2 hr3 hr4 hr5 st0 st1 st2 st3 st4 st5
 go_wp2
 exact bodyPost_ret (v := .agg #[.int .i64 (t.nm 4), .int .u64 ((t.nx 4).nm 8), .int .u64 (((t.nx 4).nx 8).nm 8), .int .u64 ((((t.nx 4).nx 8).nx 8).nm 8), .int .i64 (((((t.nx 4).nx 8).nx 8).nx 8).nm 1)]) (by simp [results, Tryz.results126, go_sem, m0, m1, m2, m3, m4]) rfl ⟨rfl, st7.out, hr7.out⟩
end Go.Proofs.YtocekhckmpkbmaaGreat
namespace Go.Proofs.YtocekhckmpkbmaaGreat
open Go.RowKit
section
variable {P : Program} {ops : Array Oper} {Q : Exit → Act → World → Prop} {md : Region.Mode} {S : World → Prop}
/-- one of two that are ready comes next -/
theorem br_two {i j : Nat} {fuel : Nat} {listed : Array Bool} {a : Act} {w : World} (hr : Region.ready md ops listed = [i, j])
 (hi : wpOp P ops Q i (fun a' w' => S w' ∧ wpAnyH P md ops Q S fuel (listed.setIfInBounds i true) a' w') a w)
 (hj : wpOp P ops Q j (fun a' w' => S w' ∧ wpAnyH P md ops Q S fuel (listed.setIfInBounds j true) a' w') a w) : wpAnyH P md ops Q S (fuel + 1) listed a w := by
 refine wpAnyH_all hr (by simp) (fun k hk => ?_)
 rcases List.mem_cons.1 hk with rfl | hk
 · exact hi
 · rw [List.mem_singleton.1 hk]; exact hj
theorem br_value {i : Nat} {o : Oper} {dst : Option Tmp} (hd : o.dst = dst) {a : Act} {w w' : World} {v : Value} {K : Act → World → Prop} (hi : ops[i]? = some o) (hw : Region.wanted o (yielded ops a.tmps) = true)
 (hrun : (execOp a.eval o).run P w = .ok (.value v) w') (h : K (a.put dst v) w') : wpOp P ops Q i K a w := by
 subst hd
 unfold wpOp
 simp only [hi, hw, if_true]
 refine .inl ?_
 unfold Oper.wp
 rw [hrun, Oper.upon_value]
 exact h
theorem br_call {i : Nat} {o : Oper} {dst : Option Tmp} (hd : o.dst = dst) {a : Act} {w : World} {f : FuncId} {args : Array Value} {R : Ending → World → Prop} {K : Act → World → Prop} (hi : ops[i]? = some o) (hw : Region.wanted o (yielded ops a.tmps) = true)
 (hrun : (execOp a.eval o).run P w = .ok (.enter f args) w) (hc : Calls P f args w R) (h : ∀ e w', R e w' → ∃ v, e = .returned v ∧ K (a.put dst v) w') : wpOp P ops Q i K a w := by
 subst hd
 unfold wpOp
 simp only [hi, hw, if_true]
 refine .inl ?_
 unfold Oper.wp
 rw [hrun, Oper.upon_enter]
 refine hc.mono fun e w' he => ?_
 obtain ⟨v, rfl, h1⟩ := h e w' he
 exact h1
end
end Go.Proofs.YtocekhckmpkbmaaGreat
