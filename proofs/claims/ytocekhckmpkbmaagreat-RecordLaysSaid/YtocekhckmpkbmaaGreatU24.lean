/- Parts of the proof: The reader of record: images, steps; The reader of record: lists -/
import Derived.Test.YtocekhckmpkbmaaGreatU23
import Derived.Test.YtocekhckmpkbmaaGreatU01
namespace Go.Proofs.YtocekhckmpkbmaaGreat
open Go.RowKit
def ImageR (t : RSt) (x : ImgD) (t' : RSt) : Prop := ∃ t2, x.page = t.nm 1 ∧ TakeCR (t.nx 1) x.bef t2 ∧ TakeCR t2 x.aft t'
def AfterR (t : RSt) (x : ImgD) (t' : RSt) : Prop := x.page = t.nm 1 ∧ x.bef = zeroC ∧ TakeCR (t.nx 1) x.aft t'
structure FarI (B : Nat) (v : ImgV) : Prop where
 a : Far B v.bef.rq
 b : Far B v.bef.kq
 c : Far B v.aft.rq
 d : Far B v.aft.kq
def ImgPost (R : RSt → ImgD → RSt → Prop) (w : World) (g gr : Nat) (d : Option Nat) (all : List UInt8) (t : RSt) (e : Ending) (w' : World) : Prop :=
 ∃ (v : ImgV) (x : ImgD) (t' : RSt), e = .returned (.agg (Cel.cells v).toArray) ∧ ImgOn w' v x ∧ FarI w.heap.size v ∧ R t x t' ∧ RStep w w' g gr ∧ RR w' g gr d all t'
theorem Far.less {B C : Nat} {q : Option Addr} (h : Far B q) (hc : C ≤ B) : Far C q := fun a ha => Nat.le_trans hc (h a ha)
def bareD (t : RSt) : RowD := ⟨⟨t.nm 1, (t.nx 1).nm 2⟩, 0, ⟨#[]⟩⟩
def bareT (t : RSt) : RSt := (t.nx 1).nx 2
def StepR (t : RSt) (x : StepD) (t' : RSt) : Prop :=
 if t.nm 1 = 2 ∨ t.nm 1 = 3 then ∃ r, TakeRR (t.nx 1) r t' ∧ x = ⟨t.nm 1, r, 0⟩
 else if t.nm 1 = 1 then x = ⟨t.nm 1, bareD (t.nx 1), IntKind.i64.wrap ((bareT (t.nx 1)).nm 8)⟩ ∧ t' = (bareT (t.nx 1)).nx 8
 else x = ⟨t.nm 1, bareD (t.nx 1), 0⟩ ∧ t' = bareT (t.nx 1)
def StpPost (w : World) (g gr : Nat) (d : Option Nat) (all : List UInt8) (t : RSt) (e : Ending) (w' : World) : Prop :=
 ∃ (x : StepD) (t' : RSt), e = .returned (.agg (Cel.cells x).toArray) ∧ StepR t x t' ∧ RStep w w' g gr ∧ RR w' g gr d all t'
set_option maxRecDepth 100000 in
set_option maxHeartbeats 4000000 in
theorem step2_rr {w : World} {g gr : Nat} {d : Option Nat} {all : List UInt8} {t : RSt} (h : RR w g gr d all t) (hk : t.nm 1 = 2) :
 Calls Tryz.prog 123 #[.pointer (some ⟨g, 0, none⟩)] w (StpPost w g gr d all t) := by
 obtain ⟨W, hW⟩ : ∃ W, w.alloc (.cells #[.int .i64 0, .int .i64 0, .int .u16 0, .int .i64 0, .string ⟨#[]⟩, .int .i64 0] 70) = W := ⟨_, rfl⟩; have hbW : Below w.heap.size w W := by rw [← hW]; exact (Below.refl _ _).alloc (Nat.le_refl _) _
 have hrow : RowV 70 W w.heap.size [.int .i64 0, .int .i64 0, .int .u16 0, .int .i64 0, .string ⟨#[]⟩, .int .i64 0] := by rw [← hW]; exact RowV.made w _
 have hgs := lh h.lt; have hgrs := lh h.ltr; have hdn : Hid (d ≠ some w.heap.size) := fun e => by have := h.src _ e; omega
 have hrW := lh (h.below hbW); have stW := lh (RStep.of_below (g := g) (gr := gr) hbW); have hWs : Hid (w.heap.size ≤ W.heap.size) := hbW.size; have c0 : W.cell? ⟨g, 0, none⟩ = some (.pointer (some ⟨gr, 0, none⟩)) := hrW.out.c0; have hrow := lh hrow; have hpg := rr8 hrW.out; rw [hk] at hpg; have hpg := lh hpg; have hk := lh hk; clear h hbW; have hWs : Hid (w.heap.size + 1 ≤ W.heap.size) := hrow.out.lt
 go_enter Tryz.func123, Tryz.ntmps123
 go_wp2_with fail
 clear hW; refine hpg.out.mono ?_; clear c0 hpg; rintro e w1 ⟨rfl, hs1, hr1⟩; have st1 := lh hs1; have hr1 := lh hr1; clear hs1
 go_wp2_with fail
 refine (takeR_rr hr1.out).mono ?_; rintro e w3 ⟨⟨⟨rt, ri⟩, rv, rs⟩, t3, rfl, ht, hs, hr⟩; have ta := lh ht; have st3 := lh (st1.out.trans hs); have hr3 := lh hr; clear ht hs hr; have hrv : rowV ⟨⟨rt, ri⟩, rv, rs⟩ = .agg #[.int .i64 rt, .int .u16 ri, .int .i64 rv, .string rs] := rfl; rw [hrv]; clear hrv; have bR : Hid (RowV 70 w3 w.heap.size _) := st3.out.row hrow.out (by have h1 := hgs.out; omega) (by have h1 := hgrs.out; omega); have hzv : (Tryz.prog.info? 70).map (·.size) = some ([.int .i64 2, .int .i64 rt, .int .u16 ri, .int .i64 rv, .string rs, .int .i64 0] : List Value).length := sizeStep ⟨2, ⟨⟨rt, ri⟩, rv, rs⟩, 0⟩; have hone : ∀ x ∈ ([.int .i64 2, .int .i64 rt, .int .u16 ri, .int .i64 rv, .string rs, .int .i64 0] : List Value), x.oneCell' = true := one_l rfl
 go_wp2_with (first
  | ((with_reducible refine wpList_store_at rfl 70 (.tmp 2) (.tmp 17) rfl (o := 0) (vs := [.int .i64 2, .int .i64 rt, .int .u16 ri, .int .i64 rv, .string rs, .int .i64 0]) rfl rfl bR.out hzv (Nat.le_refl _) hone ?_)
     intro wz h9 hg9; have rz : Hid (RowV 70 wz w.heap.size [.int .i64 2, .int .i64 rt, .int .u16 ri, .int .i64 rv, .string rs, .int .i64 0]) := h9; have gz := lh hg9
     clear h9 hg9))
 have m0 := rz.out.cell 0; have m1 := rz.out.cell 1; have m2 := rz.out.cell 2; have m3 := rz.out.cell 3; have m4 := rz.out.cell 4; have m5 := rz.out.cell 5; refine bodyPost_ret (v := .agg #[.int .i64 2, .int .i64 rt, .int .u16 ri, .int .i64 rv, .string rs, .int .i64 0]) (by simp [results, Tryz.results123, go_sem, m0, m1, m2, m3, m4, m5]) rfl ?_; have stz := (stW.out.trans st3.out).own gz.out (Nat.le_refl _); have hrz := hr3.out.new gz.out hgrs.out (by have h1 := hgs.out; omega) hdn.out; exact ⟨⟨2, ⟨⟨rt, ri⟩, rv, rs⟩, 0⟩, _, rfl, by unfold StepR; rw [hk.out]; rw [if_pos (by decide)]; exact ⟨_, ta.out, rfl⟩, stz, hrz⟩
set_option maxRecDepth 100000 in
set_option maxHeartbeats 4000000 in
theorem step3_rr {w : World} {g gr : Nat} {d : Option Nat} {all : List UInt8} {t : RSt} (h : RR w g gr d all t) (hk : t.nm 1 = 3) :
 Calls Tryz.prog 123 #[.pointer (some ⟨g, 0, none⟩)] w (StpPost w g gr d all t) := by
 obtain ⟨W, hW⟩ : ∃ W, w.alloc (.cells #[.int .i64 0, .int .i64 0, .int .u16 0, .int .i64 0, .string ⟨#[]⟩, .int .i64 0] 70) = W := ⟨_, rfl⟩; have hbW : Below w.heap.size w W := by rw [← hW]; exact (Below.refl _ _).alloc (Nat.le_refl _) _
 have hrow : RowV 70 W w.heap.size [.int .i64 0, .int .i64 0, .int .u16 0, .int .i64 0, .string ⟨#[]⟩, .int .i64 0] := by rw [← hW]; exact RowV.made w _
 have hgs := lh h.lt; have hgrs := lh h.ltr; have hdn : Hid (d ≠ some w.heap.size) := fun e => by have := h.src _ e; omega
 have hrW := lh (h.below hbW); have stW := lh (RStep.of_below (g := g) (gr := gr) hbW); have hWs : Hid (w.heap.size ≤ W.heap.size) := hbW.size; have c0 : W.cell? ⟨g, 0, none⟩ = some (.pointer (some ⟨gr, 0, none⟩)) := hrW.out.c0; have hrow := lh hrow; have hpg := rr8 hrW.out; rw [hk] at hpg; have hpg := lh hpg; have hk := lh hk; clear h hbW; have hWs : Hid (w.heap.size + 1 ≤ W.heap.size) := hrow.out.lt
 go_enter Tryz.func123, Tryz.ntmps123
 go_wp2_with fail
 clear hW; refine hpg.out.mono ?_; clear c0 hpg; rintro e w1 ⟨rfl, hs1, hr1⟩; have st1 := lh hs1; have hr1 := lh hr1; clear hs1
 go_wp2_with fail
 refine (takeR_rr hr1.out).mono ?_; rintro e w3 ⟨⟨⟨rt, ri⟩, rv, rs⟩, t3, rfl, ht, hs, hr⟩; have ta := lh ht; have st3 := lh (st1.out.trans hs); have hr3 := lh hr; clear ht hs hr; have hrv : rowV ⟨⟨rt, ri⟩, rv, rs⟩ = .agg #[.int .i64 rt, .int .u16 ri, .int .i64 rv, .string rs] := rfl; rw [hrv]; clear hrv; have bR : Hid (RowV 70 w3 w.heap.size _) := st3.out.row hrow.out (by have h1 := hgs.out; omega) (by have h1 := hgrs.out; omega); have hzv : (Tryz.prog.info? 70).map (·.size) = some ([.int .i64 3, .int .i64 rt, .int .u16 ri, .int .i64 rv, .string rs, .int .i64 0] : List Value).length := sizeStep ⟨3, ⟨⟨rt, ri⟩, rv, rs⟩, 0⟩; have hone : ∀ x ∈ ([.int .i64 3, .int .i64 rt, .int .u16 ri, .int .i64 rv, .string rs, .int .i64 0] : List Value), x.oneCell' = true := one_l rfl
 go_wp2_with (first
  | ((with_reducible refine wpList_store_at rfl 70 (.tmp 2) (.tmp 17) rfl (o := 0) (vs := [.int .i64 3, .int .i64 rt, .int .u16 ri, .int .i64 rv, .string rs, .int .i64 0]) rfl rfl bR.out hzv (Nat.le_refl _) hone ?_)
     intro wz h9 hg9; have rz : Hid (RowV 70 wz w.heap.size [.int .i64 3, .int .i64 rt, .int .u16 ri, .int .i64 rv, .string rs, .int .i64 0]) := h9; have gz := lh hg9
     clear h9 hg9))
 have m0 := rz.out.cell 0; have m1 := rz.out.cell 1; have m2 := rz.out.cell 2; have m3 := rz.out.cell 3; have m4 := rz.out.cell 4; have m5 := rz.out.cell 5; refine bodyPost_ret (v := .agg #[.int .i64 3, .int .i64 rt, .int .u16 ri, .int .i64 rv, .string rs, .int .i64 0]) (by simp [results, Tryz.results123, go_sem, m0, m1, m2, m3, m4, m5]) rfl ?_; have stz := (stW.out.trans st3.out).own gz.out (Nat.le_refl _); have hrz := hr3.out.new gz.out hgrs.out (by have h1 := hgs.out; omega) hdn.out; exact ⟨⟨3, ⟨⟨rt, ri⟩, rv, rs⟩, 0⟩, _, rfl, by unfold StepR; rw [hk.out]; rw [if_pos (by decide)]; exact ⟨_, ta.out, rfl⟩, stz, hrz⟩
set_option maxRecDepth 100000 in
set_option maxHeartbeats 4000000 in
theorem step1_rr {w : World} {g gr : Nat} {d : Option Nat} {all : List UInt8} {t : RSt} (h : RR w g gr d all t) (hk : t.nm 1 = 1) :
 Calls Tryz.prog 123 #[.pointer (some ⟨g, 0, none⟩)] w (StpPost w g gr d all t) := by
 obtain ⟨W, hW⟩ : ∃ W, w.alloc (.cells #[.int .i64 0, .int .i64 0, .int .u16 0, .int .i64 0, .string ⟨#[]⟩, .int .i64 0] 70) = W := ⟨_, rfl⟩; have hbW : Below w.heap.size w W := by rw [← hW]; exact (Below.refl _ _).alloc (Nat.le_refl _) _
 have hrow : RowV 70 W w.heap.size [.int .i64 0, .int .i64 0, .int .u16 0, .int .i64 0, .string ⟨#[]⟩, .int .i64 0] := by rw [← hW]; exact RowV.made w _
 have hgs := lh h.lt; have hgrs := lh h.ltr; have hdn : Hid (d ≠ some w.heap.size) := fun e => by have := h.src _ e; omega
 have hrW := lh (h.below hbW); have stW := lh (RStep.of_below (g := g) (gr := gr) hbW); have hWs : Hid (w.heap.size ≤ W.heap.size) := hbW.size; have c0 : W.cell? ⟨g, 0, none⟩ = some (.pointer (some ⟨gr, 0, none⟩)) := hrW.out.c0; have hrow := lh hrow; have hpg := rr8 hrW.out; rw [hk] at hpg; have hpg := lh hpg; have hk := lh hk; clear h hbW; have hWs : Hid (w.heap.size + 1 ≤ W.heap.size) := hrow.out.lt
 go_enter Tryz.func123, Tryz.ntmps123
 go_wp2_with fail
 clear hW; refine hpg.out.mono ?_; clear c0 hpg; rintro e w1 ⟨rfl, hs1, hr1⟩; have st1 := lh hs1; have hr1 := lh hr1; clear hs1; obtain ⟨y1, hy1⟩ : ∃ y, (t.nx 1).nm 1 = y := ⟨_, rfl⟩; obtain ⟨y2, hy2⟩ : ∃ y, ((t.nx 1).nx 1).nm 2 = y := ⟨_, rfl⟩; obtain ⟨y3, hy3⟩ : ∃ y, (bareT (t.nx 1)).nm 8 = y := ⟨_, rfl⟩; have hba : ∀ u, RR u g gr d all (t.nx 1) → Calls Tryz.prog 140 #[.pointer (some ⟨g, 0, none⟩)] u (RRP (.agg #[.int .i64 y1, .int .u16 y2, .int .i64 0, .string ⟨#[]⟩]) u g gr d all (bareT (t.nx 1))) := fun u hu => by rw [← hy1, ← hy2]; exact bare_rr hu
 have h64 : ∀ u, RR u g gr d all (bareT (t.nx 1)) → Calls Tryz.prog 74 #[.pointer (some ⟨gr, 0, none⟩)] u (RRP (.int .u64 y3) u g gr d all ((bareT (t.nx 1)).nx 8)) := fun u hu => by rw [← hy3]; exact rr64 hu
 have hy := lh (And.intro hy1 (And.intro hy2 hy3)); have hba := lh hba; have h64 := lh h64; clear hy1 hy2 hy3; obtain ⟨y4, hy4⟩ : ∃ y, IntKind.i64.wrap y3 = y := ⟨_, rfl⟩; have hSW : Hid (RdB w g gr 70 6 w1) := ⟨hr1.out.c0, _, rfl, st1.out.row hrow.out (by have h1 := hgs.out; omega) (by have h1 := hgrs.out; omega)⟩; have hrW2 := hr1; have stW2 := lh (stW.out.trans st1.out)
 go_wp2_with fail
 refine wp_region_held (S := RdB w g gr 70 6) (by kernel_rfl) ?_; change wpAnyH _ _ _ _ _ _ _ _ (World.drew w1); have hS0 : RdB w g gr 70 6 (World.drew w1) := hSW.out.below (below_drew w1); have hr0 := hrW2.out.below (below_drew w1); have st0 := stW2.out.trans (RStep.of_below (below_drew w1)); generalize World.drew w1 = u0 at hS0 hr0 st0 ⊢; refine tg 0 20 (.int .i64 1) hS0 ?_; go_frame; refine tg 1 21 (.pointer (some ⟨g, 0, none⟩)) hS0 ?_; go_frame; refine tg 3 23 (.pointer (some ⟨g, 0, none⟩)) hS0 ?_; go_frame; refine tg 4 24 (.pointer (some ⟨g, 0, none⟩)) hS0 ?_; go_frame; refine tg 5 25 (.pointer (some ⟨g, 0, none⟩)) hS0 ?_; go_frame; refine held_tk (i := 6) (dst := some 26) rfl (v := .pointer (some ⟨gr, 0, none⟩)) rfl (.inl ⟨rfl, fun u hu => by have c0 := hu.c0; go_simp⟩) hS0 ?_; go_frame; refine held_call (i := 2) (dst := some 22) rfl rfl (by kernel_rfl) rfl (by go_simp) (hba.out _ hr0) ?_
 rintro e u1 ⟨rfl, hs1, hr1⟩; have st1 := st0.trans hs1; have hS1 : RdB w g gr 70 6 u1 := hS0.step hr1 hs1 hgs.out hgrs.out; refine ⟨_, rfl, hS1, ?_⟩; go_frame; refine held_call (i := 7) (dst := some 27) rfl rfl (by kernel_rfl) rfl (by go_simp) (h64.out _ hr1) ?_; rintro e u2 ⟨rfl, hs2, hr2⟩; have st2 := st1.trans hs2; have hS2 : RdB w g gr 70 6 u2 := hS1.step hr2 hs2 hgs.out hgrs.out; refine ⟨_, rfl, hS2, ?_⟩; go_frame; refine tg 8 28 (.int .i64 y4) hS2 ?_; go_frame; refine held_tk (i := 9) (dst := some 29) rfl (v := .agg #[.int .i64 1, .int .i64 y1, .int .u16 y2, .int .i64 0, .string ⟨#[]⟩, .int .i64 y4]) rfl (.inl ⟨rfl, fun u hu => by go_simp <;> rfl⟩) hS2 ?_; go_frame; obtain ⟨vz, hvl, hvr⟩ := hS2.res; obtain ⟨w7, hst7, h7, hg7⟩ := run_storeVar_at (P := Tryz.prog) (ty := 70) (o := 0) (vs := [.int .i64 1, .int .i64 y1, .int .u16 y2, .int .i64 0, .string ⟨#[]⟩, .int .i64 y4]) hvr (sizeStep ⟨1, ⟨⟨y1, y2⟩, 0, ⟨#[]⟩⟩, y4⟩) (by rw [hvl]; exact Nat.le_refl _) (one_l rfl)
 rw [splice_all _ _ (by rw [hvl]; rfl)] at h7; have hgsz := hgs.out; have hgrsz := hgrs.out; have hr7 := hr2.new hg7 hgrsz (by omega) (fun e => hdn.out e); have st7 := st2.own hg7 (Nat.le_refl _); have hS7 : RdB w g gr 70 6 w7 := ⟨hr7.c0, _, rfl, h7⟩; refine held_skip (i := 10) (dst := none) (w' := w7) rfl rfl (by kernel_rfl) rfl (run_store_op rfl rfl rfl hst7) hS7 ?_; go_frame; refine wpAnyH_done (by kernel_rfl) ?_ _; have hr7 := lh hr7; have st7 := lh st7; have m0 := h7.cell 0; have m1 := h7.cell 1; have m2 := h7.cell 2; have m3 := h7.cell 3; have m4 := h7.cell 4; have m5 := h7.cell 5; clear hst7 h7 hg7 hS7 hvr hS0 hS1 hS2 hr0 hr1 hr2 st0 st1 st2; go_wp2; exact bodyPost_ret (v := .agg #[.int .i64 1, .int .i64 y1, .int .u16 y2, .int .i64 0, .string ⟨#[]⟩, .int .i64 y4]) (by simp [results, Tryz.results123, go_sem, m0, m1, m2, m3, m4, m5]) rfl ⟨⟨1, ⟨⟨y1, y2⟩, 0, ⟨#[]⟩⟩, y4⟩, _, rfl, by unfold StepR; rw [hk.out]; rw [if_neg (by decide), if_pos rfl]; exact ⟨by unfold bareD; rw [hy.out.1, hy.out.2.1, hy.out.2.2, hy4], rfl⟩, st7.out, hr7.out⟩
set_option maxRecDepth 100000 in
set_option maxHeartbeats 4000000 in
theorem stepN_rr {w : World} {g gr : Nat} {d : Option Nat} {all : List UInt8} {t : RSt} (h : RR w g gr d all t) (n2 : t.nm 1 ≠ 2) (n3 : t.nm 1 ≠ 3) (n1 : t.nm 1 ≠ 1) :
 Calls Tryz.prog 123 #[.pointer (some ⟨g, 0, none⟩)] w (StpPost w g gr d all t) := by
 obtain ⟨W, hW⟩ : ∃ W, w.alloc (.cells #[.int .i64 0, .int .i64 0, .int .u16 0, .int .i64 0, .string ⟨#[]⟩, .int .i64 0] 70) = W := ⟨_, rfl⟩; have hbW : Below w.heap.size w W := by rw [← hW]; exact (Below.refl _ _).alloc (Nat.le_refl _) _
 have hrow : RowV 70 W w.heap.size [.int .i64 0, .int .i64 0, .int .u16 0, .int .i64 0, .string ⟨#[]⟩, .int .i64 0] := by rw [← hW]; exact RowV.made w _
 have hgs := lh h.lt; have hgrs := lh h.ltr; have hdn : Hid (d ≠ some w.heap.size) := fun e => by have := h.src _ e; omega
 have hrW := lh (h.below hbW); have stW := lh (RStep.of_below (g := g) (gr := gr) hbW); have hWs : Hid (w.heap.size ≤ W.heap.size) := hbW.size; have c0 : W.cell? ⟨g, 0, none⟩ = some (.pointer (some ⟨gr, 0, none⟩)) := hrW.out.c0; have hrow := lh hrow; obtain ⟨b0, b1⟩ := nm1 t; obtain ⟨z, hk⟩ : ∃ z, t.nm 1 = z := ⟨_, rfl⟩; have hpg := rr8 hrW.out; rw [hk] at hpg n1 n2 n3 b0 b1; have hpg := lh hpg; have hk := lh hk; have hn := lh (And.intro n2 (And.intro n3 n1)); have d2 : (z == 2) = false := by simpa using n2
 have d3 : (z == 3) = false := by simpa using n3
 have d1 : (z == 1) = false := by simpa using n1
 clear n1 n2 n3; clear h hbW; have hWs : Hid (w.heap.size + 1 ≤ W.heap.size) := hrow.out.lt
 go_enter Tryz.func123, Tryz.ntmps123
 go_wp2_with fail
 clear hW; refine hpg.out.mono ?_; clear c0 hpg; rintro e w1 ⟨rfl, hs1, hr1⟩; have st1 := lh hs1; have hr1 := lh hr1; clear hs1; obtain ⟨y1, hy1⟩ : ∃ y, (t.nx 1).nm 1 = y := ⟨_, rfl⟩; obtain ⟨y2, hy2⟩ : ∃ y, ((t.nx 1).nx 1).nm 2 = y := ⟨_, rfl⟩; have hba := bare_rr hr1.out; rw [hy1, hy2] at hba; have hba := lh hba; have hy := lh (And.intro hy1 hy2); clear hy1 hy2
 go_wp2_with fail
 refine hba.out.mono ?_; clear hba; rintro e w3 ⟨rfl, hs, hr⟩; have st3 := lh (st1.out.trans hs); have hr3 := lh hr; clear hs hr; have bR : Hid (RowV 70 w3 w.heap.size _) := st3.out.row hrow.out (by have h1 := hgs.out; omega) (by have h1 := hgrs.out; omega); have hzv : (Tryz.prog.info? 70).map (·.size) = some ([.int .i64 z, .int .i64 y1, .int .u16 y2, .int .i64 0, .string ⟨#[]⟩, .int .i64 0] : List Value).length := sizeStep ⟨z, ⟨⟨y1, y2⟩, 0, ⟨#[]⟩⟩, 0⟩; have hone : ∀ x ∈ ([.int .i64 z, .int .i64 y1, .int .u16 y2, .int .i64 0, .string ⟨#[]⟩, .int .i64 0] : List Value), x.oneCell' = true := one_l rfl
 go_wp2_with (first
  | ((with_reducible refine wpList_store_at rfl 70 (.tmp 2) (.tmp 33) rfl (o := 0) (vs := [.int .i64 z, .int .i64 y1, .int .u16 y2, .int .i64 0, .string ⟨#[]⟩, .int .i64 0]) rfl rfl bR.out hzv (Nat.le_refl _) hone ?_)
     intro wz h9 hg9; have rz : Hid (RowV 70 wz w.heap.size [.int .i64 z, .int .i64 y1, .int .u16 y2, .int .i64 0, .string ⟨#[]⟩, .int .i64 0]) := h9; have gz := lh hg9
     clear h9 hg9))
 have m0 := rz.out.cell 0; have m1 := rz.out.cell 1; have m2 := rz.out.cell 2; have m3 := rz.out.cell 3; have m4 := rz.out.cell 4; have m5 := rz.out.cell 5; refine bodyPost_ret (v := .agg #[.int .i64 z, .int .i64 y1, .int .u16 y2, .int .i64 0, .string ⟨#[]⟩, .int .i64 0]) (by simp [results, Tryz.results123, go_sem, m0, m1, m2, m3, m4, m5]) rfl ?_; have stz := (stW.out.trans st3.out).own gz.out (Nat.le_refl _); have hrz := hr3.out.new gz.out hgrs.out (by have h1 := hgs.out; omega) hdn.out; exact ⟨⟨z, ⟨⟨y1, y2⟩, 0, ⟨#[]⟩⟩, 0⟩, _, rfl, by unfold StepR; rw [hk.out]; rw [if_neg (by have h1 := hn.out; omega), if_neg hn.out.2.2]; exact ⟨by unfold bareD; rw [hy.out.1, hy.out.2], rfl⟩, stz, hrz⟩
theorem step_rr {w : World} {g gr : Nat} {d : Option Nat} {all : List UInt8} {t : RSt} (h : RR w g gr d all t) :
 Calls Tryz.prog 123 #[.pointer (some ⟨g, 0, none⟩)] w (StpPost w g gr d all t) := by
 by_cases h2 : t.nm 1 = 2
 · exact step2_rr h h2
 by_cases h3 : t.nm 1 = 3
 · exact step3_rr h h3
 by_cases h1 : t.nm 1 = 1
 · exact step1_rr h h1
 exact stepN_rr h h2 h3 h1
end Go.Proofs.YtocekhckmpkbmaaGreat
namespace Go.Proofs.YtocekhckmpkbmaaGreat
open Go.RowKit
section
variable {β : Type}
/-- so many things read one behind the other -/
def ListQ (R : RSt → β → RSt → Prop) : Nat → RSt → List β → RSt → Prop
 | 0, t, L, t' => L = [] ∧ t' = t
 | n + 1, t, L, t' => ∃ M x t1, L = M ++ [x] ∧ ListQ R n t M t1 ∧ R t1 x t'
theorem ListQ.len {R : RSt → β → RSt → Prop} : ∀ {n : Nat} {t t' : RSt} {L : List β}, ListQ R n t L t' → L.length = n
 | 0, _, _, _, h => by rw [h.1]; rfl
 | n + 1, _, _, _, h => by obtain ⟨M, x, t1, rfl, h1, _⟩ := h; rw [List.length_append, h1.len]; rfl
def ListW (R : RSt → β → RSt → Prop) (most : Int) (t : RSt) (L : List β) (t' : RSt) : Prop :=
 (most < t.nm 1 ∧ L = [] ∧ t' = ⟨(t.nx 1).s, true⟩) ∨ (t.nm 1 ≤ most ∧ ListQ R (t.nm 1).toNat (t.nx 1) L t')
end
def TxnR (t : RSt) (x : TxnD) (t' : RSt) : Prop := x = ⟨t.nm 4, (t.nx 4).nm 8, ((t.nx 4).nx 8).nm 8, (((t.nx 4).nx 8).nx 8).nm 8, ((((t.nx 4).nx 8).nx 8).nx 8).nm 1⟩ ∧ t' = ((((t.nx 4).nx 8).nx 8).nx 8).nx 1
def PgR (t : RSt) (x : PgD) (t' : RSt) : Prop := x = ⟨t.nm 1, (t.nx 1).nm 8⟩ ∧ t' = (t.nx 1).nx 8
theorem infoImg : (Tryz.prog.info? 62).map (fun i => (i.zero, i.size, i.bytes)) = some (some (.agg #[.int .i64 0, .int .i64 0, .slice none 0 0, .slice none 0 0, .int .i64 0, .slice none 0 0, .slice none 0 0]), 7, 120) := by kernel_rfl
theorem infoStep : (Tryz.prog.info? 70).map (fun i => (i.zero, i.size, i.bytes)) = some (some (.agg #[.int .i64 0, .int .i64 0, .int .u16 0, .int .i64 0, .string ⟨#[]⟩, .int .i64 0]), 6, 56) := by kernel_rfl
theorem infoTxn : (Tryz.prog.info? 82).map (fun i => (i.zero, i.size, i.bytes)) = some (some (.agg #[.int .i64 0, .int .u64 0, .int .u64 0, .int .u64 0, .int .i64 0]), 5, 40) := by kernel_rfl
theorem infoPg : (Tryz.prog.info? 85).map (fun i => (i.zero, i.size, i.bytes)) = some (some (.agg #[.int .i64 0, .int .u64 0]), 2, 16) := by kernel_rfl
/-- images that were read: what each says, in memory above B -/
structure ApI (b : Option Nat) (v : ImgV) : Prop where
 xa : ∀ a, v.bef.rq = some a → v.bef.rn ≠ 0 → b ≠ some a.block
 xb : ∀ a, v.bef.kq = some a → v.bef.kn ≠ 0 → b ≠ some a.block
 xc : ∀ a, v.aft.rq = some a → v.aft.rn ≠ 0 → b ≠ some a.block
 xd : ∀ a, v.aft.kq = some a → v.aft.kn ≠ 0 → b ≠ some a.block
structure ImgsM (w : World) (B : Nat) (o : Option Nat) (V : List ImgV) (L : List ImgD) : Prop where
 len : V.length = L.length
 ap : ∀ v ∈ V, ApI o v
 on : ∀ (i : Nat) v x, V[i]? = some v → L[i]? = some x → ImgOn w v x
 far : ∀ v ∈ V, FarI B v
theorem ContOn.blk {w : World} {k : Int} {rq kq : Option Addr} {rn rc kn kc : Nat} {c : ContD} (h : ContOn w k rq rn rc kq kn kc c) : (∀ a, rq = some a → rn ≠ 0 → a.block < w.heap.size) ∧ (∀ a, kq = some a → kn ≠ 0 → a.block < w.heap.size) := by
 refine ⟨fun a ha hn => ?_, fun a ha hn => ?_⟩
 · obtain ⟨A, r, hA, _, _, hc⟩ := h.rows.at (i := 0) (by omega); rw [ha] at hA; cases hA; have h1 := cell_in (hc 0 _ rfl); have e : ((a.add (0 * 4)).add 0).block = a.block := by unfold Addr.add; (repeat' split) <;> rfl
   rwa [e] at h1
 · obtain ⟨A, r, hA, _, _, hc⟩ := h.kids.at (i := 0) (by omega); rw [ha] at hA; cases hA; have h1 := cell_in (hc 0 _ rfl); have e : ((a.add (0 * 3)).add 0).block = a.block := by unfold Addr.add; (repeat' split) <;> rfl
   rwa [e] at h1
theorem RowsOn.gr0 {w w' : World} {q : Option Addr} {n c : Nat} {r : Option Nat} {l : List RowD} (h : RowsOn w q n c l) (hg : w.grownBy w' r) (hne : ∀ a, q = some a → n ≠ 0 → r ≠ some a.block) : RowsOn w' q n c l :=
 ⟨h.len, h.le, h.cap, h.nil, fun i x hi => by
  obtain ⟨a, rfl, hc⟩ := h.get i x hi; refine ⟨a, rfl, fun j y hj => ?_⟩; have hx := hc j y hj; have e : ((a.add (i * 4)).add j).block = a.block := by unfold Addr.add; (repeat' split) <;> rfl
  have hlt := cell_in hx; rw [e] at hlt; have hn : n ≠ 0 := by have h1 := h.len; have h2 := (List.getElem?_eq_some_iff.1 hi).1; omega
  rw [World.cell?_of_block (w := w) (by rw [e]; exact hg.block _ hlt (fun e2 => hne a rfl hn e2.symm))]
  exact hx, h.ok⟩
theorem KidsOn.gr0 {w w' : World} {q : Option Addr} {n c : Nat} {r : Option Nat} {l : List KidD} (h : KidsOn w q n c l) (hg : w.grownBy w' r) (hne : ∀ a, q = some a → n ≠ 0 → r ≠ some a.block) : KidsOn w' q n c l :=
 ⟨h.len, h.le, h.cap, h.nil, fun i x hi => by
  obtain ⟨a, rfl, hc⟩ := h.get i x hi; refine ⟨a, rfl, fun j y hj => ?_⟩; have hx := hc j y hj; have e : ((a.add (i * 3)).add j).block = a.block := by unfold Addr.add; (repeat' split) <;> rfl
  have hlt := cell_in hx; rw [e] at hlt; have hn : n ≠ 0 := by have h1 := h.len; have h2 := (List.getElem?_eq_some_iff.1 hi).1; omega
  rw [World.cell?_of_block (w := w) (by rw [e]; exact hg.block _ hlt (fun e2 => hne a rfl hn e2.symm))]
  exact hx, h.ok⟩
theorem ImgOn.gr0 {w w' : World} {r : Option Nat} {v : ImgV} {x : ImgD} (h : ImgOn w v x) (hg : w.grownBy w' r) (hne : ApI r v) : ImgOn w' v x :=
 ⟨h.page, h.pok, ⟨h.bef.kind, h.bef.rows.gr0 hg hne.xa, h.bef.kids.gr0 hg hne.xb⟩, ⟨h.aft.kind, h.aft.rows.gr0 hg hne.xc, h.aft.kids.gr0 hg hne.xd⟩⟩
theorem ImgOn.new {w : World} {v : ImgV} {x : ImgD} (h : ImgOn w v x) : ApI (some w.heap.size) v :=
 ⟨fun a ha hn e => by have := (ContOn.blk h.bef).1 a ha hn; simp only [Option.some.injEq] at e; omega, fun a ha hn e => by have := (ContOn.blk h.bef).2 a ha hn; simp only [Option.some.injEq] at e; omega, fun a ha hn e => by have := (ContOn.blk h.aft).1 a ha hn; simp only [Option.some.injEq] at e; omega, fun a ha hn e => by have := (ContOn.blk h.aft).2 a ha hn; simp only [Option.some.injEq] at e; omega⟩
theorem FarI.ap {B : Nat} {b : Option Nat} {v : ImgV} (h : FarI B v) (hb : ∀ k, b = some k → k < B) : ApI b v :=
 ⟨fun a ha _ e => by have h1 := hb _ e; have h2 := h.a a ha; omega, fun a ha _ e => by have h1 := hb _ e; have h2 := h.b a ha; omega, fun a ha _ e => by have h1 := hb _ e; have h2 := h.c a ha; omega, fun a ha _ e => by have h1 := hb _ e; have h2 := h.d a ha; omega⟩
theorem FarI.less {B C : Nat} {v : ImgV} (h : FarI B v) (hc : C ≤ B) : FarI C v := ⟨h.a.less hc, h.b.less hc, h.c.less hc, h.d.less hc⟩
theorem ImgPost.sp {R : RSt → ImgD → RSt → Prop} {w : World} {g gr : Nat} {d : Option Nat} {all : List UInt8} {t : RSt} {e : Ending} {w' : World} (h : ImgPost R w g gr d all t e w') :
 ∃ (p k1 : Int) (q1 : Option Addr) (n1 c1 : Nat) (q2 : Option Addr) (n2 c2 : Nat) (k3 : Int) (q3 : Option Addr) (n3 c3 : Nat) (q4 : Option Addr) (n4 c4 : Nat) (x : ImgD) (t' : RSt), e = .returned (.agg #[.int .i64 p, .int .i64 k1, .slice q1 n1 c1, .slice q2 n2 c2, .int .i64 k3, .slice q3 n3 c3, .slice q4 n4 c4]) ∧ ImgOn w' ⟨p, ⟨k1, q1, n1, c1, q2, n2, c2⟩, ⟨k3, q3, n3, c3, q4, n4, c4⟩⟩ x ∧ FarI w.heap.size ⟨p, ⟨k1, q1, n1, c1, q2, n2, c2⟩, ⟨k3, q3, n3, c3, q4, n4, c4⟩⟩ ∧ R t x t' ∧ RStep w w' g gr ∧ RR w' g gr d all t' := by
 obtain ⟨⟨p, ⟨k1, q1, n1, c1, q2, n2, c2⟩, ⟨k3, q3, n3, c3, q4, n4, c4⟩⟩, x, t', rfl, h⟩ := h; exact ⟨p, k1, q1, n1, c1, q2, n2, c2, k3, q3, n3, c3, q4, n4, c4, x, t', rfl, h⟩
theorem StpPost.sp {w : World} {g gr : Nat} {d : Option Nat} {all : List UInt8} {t : RSt} {e : Ending} {w' : World} (h : StpPost w g gr d all t e w') :
 ∃ (kd ti id v : Int) (s : ByteArray) (by_ : Int) (t' : RSt), e = .returned (.agg #[.int .i64 kd, .int .i64 ti, .int .u16 id, .int .i64 v, .string s, .int .i64 by_]) ∧ StepR t ⟨kd, ⟨⟨ti, id⟩, v, s⟩, by_⟩ t' ∧ RStep w w' g gr ∧ RR w' g gr d all t' := by
 obtain ⟨⟨kd, ⟨⟨ti, id⟩, v, s⟩, by_⟩, t', rfl, h⟩ := h; exact ⟨kd, ti, id, v, s, by_, t', rfl, h⟩
theorem get_snoc {α : Type} {L : List α} {x y : α} {i : Nat} (h : (L ++ [x])[i]? = some y) : (i < L.length ∧ L[i]? = some y) ∨ (i = L.length ∧ y = x) := by
 by_cases hi : i < L.length
 · rw [List.getElem?_append_left hi] at h; exact .inl ⟨hi, h⟩
 · rw [List.getElem?_append_right (by omega)] at h
   have h2 : i - L.length = 0 := by
    by_cases h3 : i - L.length = 0
    · exact h3
    · rw [List.getElem?_eq_none (by simp; omega)] at h; cases h
   rw [h2] at h; exact .inr ⟨by omega, by simpa using h.symm⟩
set_option maxRecDepth 100000 in
set_option maxHeartbeats 8000000 in
theorem liststep_rr {w : World} {g gr : Nat} {d : Option Nat} {all : List UInt8} {t : RSt} (h : RR w g gr d all t) (most : Int) (hm0 : 0 ≤ most) (hm1 : most < 256) :
 Calls Tryz.prog 122 #[.pointer (some ⟨g, 0, none⟩), .int .i64 most, .func (.func 123) #[.pointer (some ⟨g, 0, none⟩)] #[]] w (fun e w' => ∃ (q : Option Addr) (m c : Nat) (V : List StepD) (L : List StepD) (t' : RSt), e = .returned (.slice q m c) ∧ OwnS 70 w' w.heap.size (.slice q m c) V ∧ V = L ∧ ListW StepR most t L t' ∧ RStep w w' g gr ∧ RR w' g gr d all t') := by
 have c0 := h.c0; have hgs := lh h.lt; have hgrs := lh h.ltr; have hds := lh h.src; have hr := lh h; obtain ⟨b0, b1⟩ := nm1 t; obtain ⟨z, hz⟩ : ∃ z, t.nm 1 = z := ⟨_, rfl⟩; have hu := rr8 h; rw [hz] at b0 b1 hu; have hu := lh hu; have hz := lh hz; have hm0 := lh hm0; have hm1 := lh hm1; obtain ⟨N, rfl⟩ : ∃ N : Nat, z = N := ⟨z.toNat, by omega⟩; clear h b0
 go_enter Tryz.func122, Tryz.ntmps122
 go_wp2_with fail
 refine hu.out.mono ?_; clear c0 hu; rintro e w1 ⟨rfl, hs, hr1⟩; have st1 := lh hs; have hr1 := lh hr1; clear hs; have e1 : IntKind.i64.wrap (N : Int) = N := IntWalk.i64_in _ (by omega)
 by_cases hgt : most < (N : Int)
 · have dg : decide ((N : Int) > most) = true := decide_eq_true hgt; obtain ⟨q0, n0, c0', hq⟩ := hr1.out; have c2 := hq.row.cell 2; have f2 : w1.frozen? ⟨g, 2, none⟩ = false := hq.row.free 2; obtain ⟨u8, hu8⟩ : ∃ y, w1.setCell ⟨g, 2, none⟩ (.bool true) = y := ⟨_, rfl⟩; have hw8 := hq.wrong; have hg8 := setCell_grown w1 g 2 (.bool true); rw [hu8] at hw8 hg8; have hw8 := lh hw8; have hg8 := lh hg8; have hgt := lh hgt; clear hq b1; go_wp2; go_ret; exact ⟨none, 0, 0, [], [], _, rfl, OwnS.nil _ _ _, rfl, .inl ⟨by rw [hz.out]; exact hgt.out, rfl, rfl⟩, st1.out.trans (RStep.of_g hg8.out), ⟨q0, n0, c0', hw8.out⟩⟩
 have dg : decide ((N : Int) > most) = false := decide_eq_false hgt; have hle : Hid ((N : Int) ≤ most) := by show (N : Int) ≤ most; omega
 have hN : Hid (N < 256) := by show N < 256; omega
 clear hgt; have h0 : Hid (∃ (V : List StepD) (L : List StepD) (tj : RSt), OwnS 70 w1 w.heap.size (.slice none 0 0) V ∧ V = L ∧ ListQ StepR 0 (t.nx 1) L tj ∧ RStep w w1 g gr ∧ RR w1 g gr d all tj) := ⟨[], [], _, OwnS.nil _ _ _, rfl, ⟨rfl, rfl⟩, st1.out, hr1.out⟩; go_wp2; clear dg e1 b1
 go_loopw [22, 8] (fun v22 v8 wr => ∃ (j : Nat) (q : Option Addr) (c : Nat), j ≤ N ∧ v22 = .int .i64 j ∧ v8 = .slice q j c ∧ Hid (∃ (V : List StepD) (L : List StepD) (tj : RSt), OwnS 70 wr w.heap.size (.slice q j c) V ∧ V = L ∧ ListQ StepR j (t.nx 1) L tj ∧ RStep w wr g gr ∧ RR wr g gr d all tj)) (fun v22 _ _ => N - (RowKit.intOf v22).toNat)
 case atStart => exact ⟨0, none, 0, Nat.zero_le _, rfl, rfl, h0⟩
 case round =>
  obtain ⟨j, q, c, hj, rfl, rfl, hst⟩ := hrel; clear h0
  by_cases hlt : j < N
  · obtain ⟨V, L, tj, hown, hmean, hl, hs, hrj⟩ := hst.out; clear hst; have i0 : (0 : Int) ≤ j := by omega
    have i1 : (j : Int) < N := by omega
    have hown := lh hown; have hmean := lh hmean; have hl := lh hl; have stj := lh hs; have hrj := lh hrj; have hwz : Hid (w.heap.size ≤ wr.heap.size) := hs.size; clear hs; have hc1 := lh (step_rr hrj.out)
    go_wp2_with fail
    refine hc1.out.mono ?_; clear hc1; intro e w2 hpo; obtain ⟨kd, ti, id, v, s, by_, tk, rfl, hR, hs, hrk⟩ := hpo.sp; have hR := lh hR; have s12 := lh hs; have hrk := lh hrk; clear hs; have hown2 : Hid (OwnS 70 w2 w.heap.size (.slice q j c) V) := hown.out.kept (fun a ha => s12.out.block _ (hown.out.far a ha).2 (by have h1 := (hown.out.far a ha).1; have h2 := hgs.out; omega) (by have h1 := (hown.out.far a ha).1; have h2 := hgrs.out; omega)); obtain ⟨w3, hw3⟩ : ∃ y, w2.alloc (.cells #[.int .i64 kd, .int .i64 ti, .int .u16 id, .int .i64 v, .string s, .int .i64 by_] 70) = y := ⟨_, rfl⟩; have hb3 : Hid (Below w2.heap.size w2 w3) := by rw [← hw3]; exact (Below.refl _ _).alloc (Nat.le_refl _) _
    have hro3 : RowV 70 w3 w2.heap.size (Cel.cells (⟨kd, ⟨⟨ti, id⟩, v, s⟩, by_⟩ : StepD)) := by rw [← hw3]; exact RowV.made w2 _
    have hsl3 := lh (OwnS.single hro3).reads; have hown3 := lh (hown2.out.below hb3.out); have hw3s : Hid (w.heap.size ≤ w3.heap.size) := by have h1 := hwz.out; have h2 := s12.out.size; have h3 := hb3.out.size; show _ ≤ _; omega
    clear hro3; have hNv : N < 256 := hN.out
    go_wp2_with (first
     | (at_builtin
        refine wpList_append_l Tryz.underlying26 infoStep rfl rfl (.tmp 24) (.tmp 27) rfl rfl rfl hown3.out hsl3.out (by have h1 := hN.out; omega) (by have h1 := hN.out; omega) hw3s.out ?_; intro q4' c4' w4 h4 hg4 hat; have h4 := lh h4; have hg4 := lh hg4
        have hat := lh hat))
    clear hw3
    have hq4 : Hid (∀ k, q.map (·.block) = some k → w.heap.size ≤ k ∧ k < wr.heap.size) := fun k e => by
     cases q with
     | none => cases e
     | some a => have h1 := hown.out.far a rfl; have e : a.block = k := by simpa using e
                 omega
    have hb4 : Hid (RStep w w4 g gr) := by have h1 := stj.out.trans (s12.out.trans (RStep.of_below hb3.out)); exact ⟨hg4.out.os.trans h1.os, hg4.out.tape.trans h1.tape, hg4.out.output.trans h1.output, Nat.le_trans h1.size hg4.out.size, fun k hk e1 e2 => (hg4.out.block k (Nat.lt_of_lt_of_le hk h1.size) (fun e => by have h2 := (hq4.out k e.symm).1; omega)).trans (h1.block k hk e1 e2)⟩
    have hr4 : Hid (RR w4 g gr d all tk) := by
     have h1 := hrk.out.below hb3.out; cases hqb : q.map (·.block) with
     | none => have h2 := hg4.out; rw [hqb] at h2; exact h1.below (grown_belowN h2 (Nat.le_refl _) (fun k e => by cases e))
     | some b => have h2 := hg4.out; rw [hqb] at h2; have h3 := (hq4.out b hqb).1; exact h1.new h2 (by have h4 := hgrs.out; omega) (by have h4 := hgs.out; omega) (fun e => by have h4 := hds.out _ e; omega)
    have hl4 : Hid (ListQ StepR (j + 1) (t.nx 1) (L ++ [(⟨kd, ⟨⟨ti, id⟩, v, s⟩, by_⟩ : StepD)]) tk) := ⟨L, _, tj, rfl, hl.out, hR.out⟩; clear hR hl; go_wp2
    go_roundw
    case rel => exact ⟨j + 1, q4', c4', by omega, by go_num, rfl, _, _, tk, h4.out, (by rw [hmean.out]), hl4.out, hb4.out, hr4.out⟩
    case measure => simp [RowKit.intOf]; omega
  · obtain rfl : N = j := by omega
    go_wp2; go_ret; obtain ⟨V, L, tj, hown, hmean, hl, hs, hrj⟩ := hst.out; exact ⟨q, N, c, V, L, tj, rfl, hown, hmean, .inr ⟨by rw [hz.out]; exact hle.out, by rw [hz.out]; exact hl⟩, hs, hrj⟩
end Go.Proofs.YtocekhckmpkbmaaGreat
