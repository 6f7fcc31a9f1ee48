/- The reader of record: images, steps. -/
import Derived.Test.YtocekhckmpkbmaaGreatQ22
namespace Go.Proofs.YtocekhckmpkbmaaGreat
open Go.RowKit
def ImageR (t : RSt) (x : ImgD) (t' : RSt) : Prop := ∃ t2, x.page = t.nm 1 ∧ TakeCR (t.nx 1) x.bef t2 ∧ TakeCR t2 x.aft t'
def AfterR (t : RSt) (x : ImgD) (t' : RSt) : Prop := x.page = t.nm 1 ∧ x.bef = zeroC ∧ TakeCR (t.nx 1) x.aft t'
structure FarI (B : Nat) (v : ImgV) : Prop where
 a : Far B v.bef.rq
 b : Far B v.bef.kq
 c : Far B v.aft.rq
 d : Far B v.aft.kq
def ImgPost (R : RSt → ImgD → RSt → Prop) (w : World) (g gr : Nat) (d : Option Nat) (all : List UInt8) (t : RSt) (e : Ending) (w' : World) : Prop :=
 ∃ (v : ImgV) (x : ImgD) (t' : RSt), e = .returned (.agg (Cel.cells v).toArray) ∧ ImgOn w' v x ∧ FarI w.heap.size v ∧ R t x t' ∧ RStep w w' g gr ∧ RR w' g gr d all t'
theorem Far.less {B C : Nat} {q : Option Addr} (h : Far B q) (hc : C ≤ B) : Far C q := fun a ha => Nat.le_trans hc (h a ha)
def bareD (t : RSt) : RowD := ⟨⟨t.nm 1, (t.nx 1).nm 2⟩, 0, ⟨#[]⟩⟩
def bareT (t : RSt) : RSt := (t.nx 1).nx 2
def StepR (t : RSt) (x : StepD) (t' : RSt) : Prop :=
 if t.nm 1 = 2 ∨ t.nm 1 = 3 then ∃ r, TakeRR (t.nx 1) r t' ∧ x = ⟨t.nm 1, r, 0⟩
 else if t.nm 1 = 1 then x = ⟨t.nm 1, bareD (t.nx 1), IntKind.i64.wrap ((bareT (t.nx 1)).nm 8)⟩ ∧ t' = (bareT (t.nx 1)).nx 8
 else x = ⟨t.nm 1, bareD (t.nx 1), 0⟩ ∧ t' = bareT (t.nx 1)
def StpPost (w : World) (g gr : Nat) (d : Option Nat) (all : List UInt8) (t : RSt) (e : Ending) (w' : World) : Prop :=
 ∃ (x : StepD) (t' : RSt), e = .returned (.agg (Cel.cells x).toArray) ∧ StepR t x t' ∧ RStep w w' g gr ∧ RR w' g gr d all t'
set_option maxRecDepth 100000 in
set_option maxHeartbeats 4000000 in
theorem image_rr {w : World} {g gr : Nat} {d : Option Nat} {all : List UInt8} {t : RSt} (h : RR w g gr d all t) :
 Calls Tryz.prog 121 #[.pointer (some ⟨g, 0, none⟩)] w (ImgPost ImageR w g gr d all t) := by
 obtain ⟨W, hW⟩ : ∃ W, w.alloc (.cells #[.int .i64 0, .int .i64 0, .slice none 0 0, .slice none 0 0, .int .i64 0, .slice none 0 0, .slice none 0 0] 62) = W := ⟨_, rfl⟩
 have hbW : Below w.heap.size w W := by rw [← hW]; exact (Below.refl _ _).alloc (Nat.le_refl _) _
 have hrow : RowV 62 W w.heap.size [.int .i64 0, .int .i64 0, .slice none 0 0, .slice none 0 0, .int .i64 0, .slice none 0 0, .slice none 0 0] := by rw [← hW]; exact RowV.made w _
 have hgs := Lib.hid h.lt
 have hgrs := Lib.hid h.ltr
 have hdn : Hid (d ≠ some w.heap.size) := fun e => by have := h.src _ e; omega
 have hrW := Lib.hid (h.below hbW)
 have stW := Lib.hid (RStep.of_below (g := g) (gr := gr) hbW)
 have hWs : Hid (w.heap.size ≤ W.heap.size) := hbW.size
 have c0 : W.cell? ⟨g, 0, none⟩ = some (.pointer (some ⟨gr, 0, none⟩)) := hrW.out.c0
 have hrow := Lib.hid hrow
 obtain ⟨z, hz⟩ : ∃ z, t.nm 1 = z := ⟨_, rfl⟩
 have hpg := page_rr hrW.out
 rw [hz] at hpg
 have hz := Lib.hid hz
 have hpg := Lib.hid hpg
 clear h hbW c0
 go_enter Tryz.func121, Tryz.ntmps121
 go_wp2_with fail
 clear hW
 refine hpg.out.mono ?_
 rintro e w1 ⟨rfl, hs1, hr1⟩
 have st1 := Lib.hid hs1
 have hr1 := Lib.hid hr1
 clear hs1 hpg
 go_wp2_with fail
 refine (takeC_rr hr1.out).mono ?_
 rintro e w2 ⟨cb, k1, q1, n1, c1, q2, n2, c2, t2, rfl, hon, hf1, hf2, ht, hs, hr⟩
 have onb := Lib.hid hon
 have fb1 := Lib.hid hf1
 have fb2 := Lib.hid hf2
 have tb := Lib.hid ht
 have sb := Lib.hid hs
 have st2 := Lib.hid (st1.out.trans hs)
 have hr2 := Lib.hid hr
 clear hon hf1 hf2 ht hs hr
 go_wp2_with fail
 refine (takeC_rr hr2.out).mono ?_
 rintro e w3 ⟨ca, k3, q3, n3, c3, q4, n4, c4, t3, rfl, hon, hf1, hf2, ht, hs, hr⟩
 have ona := Lib.hid hon
 have fa1 := Lib.hid hf1
 have fa2 := Lib.hid hf2
 have ta := Lib.hid ht
 have sa := Lib.hid hs
 have st3 := Lib.hid (st2.out.trans hs)
 have hr3 := Lib.hid hr
 clear hon hf1 hf2 ht hs hr
 have hWs : Hid (w.heap.size + 1 ≤ W.heap.size) := hrow.out.lt
 have i64z : I64 z := by have h1 := nm1 t; rw [hz.out] at h1; unfold I64; omega
 have i64z := Lib.hid i64z
 have bR : Hid (RowV 62 w3 w.heap.size _) := st3.out.row hrow.out (by have h1 := hgs.out; omega) (by have h1 := hgrs.out; omega)
 have hzv : (Tryz.prog.info? 62).map (·.size) = some ([.int .i64 z, .int .i64 k1, .slice q1 n1 c1, .slice q2 n2 c2, .int .i64 k3, .slice q3 n3 c3, .slice q4 n4 c4] : List Value).length := sizeImg ⟨z, ⟨k1, q1, n1, c1, q2, n2, c2⟩, ⟨k3, q3, n3, c3, q4, n4, c4⟩⟩
 have hone : ∀ x ∈ ([.int .i64 z, .int .i64 k1, .slice q1 n1 c1, .slice q2 n2 c2, .int .i64 k3, .slice q3 n3 c3, .slice q4 n4 c4] : List Value), x.oneCell' = true := one_l rfl
 go_wp2_with (first
  | ((with_reducible refine wpList_store_at rfl 62 (.tmp 2) (.tmp 9) rfl (o := 0) (vs := [.int .i64 z, .int .i64 k1, .slice q1 n1 c1, .slice q2 n2 c2, .int .i64 k3, .slice q3 n3 c3, .slice q4 n4 c4]) rfl rfl bR.out hzv (Nat.le_refl _) hone ?_)
     intro wz h9 hg9
     have rz : Hid (RowV 62 wz w.heap.size [.int .i64 z, .int .i64 k1, .slice q1 n1 c1, .slice q2 n2 c2, .int .i64 k3, .slice q3 n3 c3, .slice q4 n4 c4]) := h9
     have gz := Lib.hid hg9
     clear h9 hg9))
 have m0 : wz.cell? ⟨w.heap.size, 0, none⟩ = some (.int .i64 z) := rz.out.cell 0
 have m1 : wz.cell? ⟨w.heap.size, 1, none⟩ = some (.int .i64 k1) := rz.out.cell 1
 have m2 : wz.cell? ⟨w.heap.size, 2, none⟩ = some (.slice q1 n1 c1) := rz.out.cell 2
 have m3 : wz.cell? ⟨w.heap.size, 3, none⟩ = some (.slice q2 n2 c2) := rz.out.cell 3
 have m4 : wz.cell? ⟨w.heap.size, 4, none⟩ = some (.int .i64 k3) := rz.out.cell 4
 have m5 : wz.cell? ⟨w.heap.size, 5, none⟩ = some (.slice q3 n3 c3) := rz.out.cell 5
 have m6 : wz.cell? ⟨w.heap.size, 6, none⟩ = some (.slice q4 n4 c4) := rz.out.cell 6
 refine bodyPost_ret (v := .agg #[.int .i64 z, .int .i64 k1, .slice q1 n1 c1, .slice q2 n2 c2, .int .i64 k3, .slice q3 n3 c3, .slice q4 n4 c4]) (by simp [results, Tryz.results121, go_sem, m0, m1, m2, m3, m4, m5, m6]) rfl ?_
 have stz := (stW.out.trans st3.out).own gz.out (Nat.le_refl _)
 have hrz := hr3.out.new gz.out hgrs.out (by have h1 := hgs.out; omega) hdn.out
 exact ⟨⟨z, ⟨k1, q1, n1, c1, q2, n2, c2⟩, ⟨k3, q3, n3, c3, q4, n4, c4⟩⟩, ⟨z, cb, ca⟩, _, rfl, ⟨rfl, i64z.out, ((onb.out.kept2 sa.out (fun a ha => by have h0 := fb1.out a ha; have h1 := hgs.out; have h2 := hgrs.out; have h3 := hWs.out; have h4 := st1.out.size; have h5 := st2.out.size; omega) (fun a ha => by have h0 := fb2.out a ha; have h1 := hgs.out; have h2 := hgrs.out; have h3 := hWs.out; have h4 := st1.out.size; have h5 := st2.out.size; omega)).gr gz.out (fun a ha => by have h0 := fb1.out a ha; have h1 := hgs.out; have h2 := hgrs.out; have h3 := hWs.out; have h4 := st1.out.size; have h5 := st2.out.size; omega) (fun a ha => by have h0 := fb2.out a ha; have h1 := hgs.out; have h2 := hgrs.out; have h3 := hWs.out; have h4 := st1.out.size; have h5 := st2.out.size; omega)), (ona.out.gr gz.out (fun a ha => by have h0 := fa1.out a ha; have h1 := hgs.out; have h2 := hgrs.out; have h3 := hWs.out; have h4 := st1.out.size; have h5 := st2.out.size; omega) (fun a ha => by have h0 := fa2.out a ha; have h1 := hgs.out; have h2 := hgrs.out; have h3 := hWs.out; have h4 := st1.out.size; have h5 := st2.out.size; omega))⟩, ⟨(fun a ha => by have h0 := fb1.out a ha; have h1 := hgs.out; have h2 := hgrs.out; have h3 := hWs.out; have h4 := st1.out.size; have h5 := st2.out.size; omega), (fun a ha => by have h0 := fb2.out a ha; have h1 := hgs.out; have h2 := hgrs.out; have h3 := hWs.out; have h4 := st1.out.size; have h5 := st2.out.size; omega), (fun a ha => by have h0 := fa1.out a ha; have h1 := hgs.out; have h2 := hgrs.out; have h3 := hWs.out; have h4 := st1.out.size; have h5 := st2.out.size; omega), (fun a ha => by have h0 := fa2.out a ha; have h1 := hgs.out; have h2 := hgrs.out; have h3 := hWs.out; have h4 := st1.out.size; have h5 := st2.out.size; omega)⟩, ⟨t2, hz.out.symm, tb.out, ta.out⟩, stz, hrz⟩
set_option maxRecDepth 100000 in
set_option maxHeartbeats 4000000 in
theorem after_rr {w : World} {g gr : Nat} {d : Option Nat} {all : List UInt8} {t : RSt} (h : RR w g gr d all t) :
 Calls Tryz.prog 124 #[.pointer (some ⟨g, 0, none⟩)] w (ImgPost AfterR w g gr d all t) := by
 obtain ⟨W, hW⟩ : ∃ W, w.alloc (.cells #[.int .i64 0, .int .i64 0, .slice none 0 0, .slice none 0 0, .int .i64 0, .slice none 0 0, .slice none 0 0] 62) = W := ⟨_, rfl⟩
 have hbW : Below w.heap.size w W := by rw [← hW]; exact (Below.refl _ _).alloc (Nat.le_refl _) _
 have hrow : RowV 62 W w.heap.size [.int .i64 0, .int .i64 0, .slice none 0 0, .slice none 0 0, .int .i64 0, .slice none 0 0, .slice none 0 0] := by rw [← hW]; exact RowV.made w _
 have hgs := Lib.hid h.lt
 have hgrs := Lib.hid h.ltr
 have hdn : Hid (d ≠ some w.heap.size) := fun e => by have := h.src _ e; omega
 have hrW := Lib.hid (h.below hbW)
 have stW := Lib.hid (RStep.of_below (g := g) (gr := gr) hbW)
 have hWs : Hid (w.heap.size ≤ W.heap.size) := hbW.size
 have c0 : W.cell? ⟨g, 0, none⟩ = some (.pointer (some ⟨gr, 0, none⟩)) := hrW.out.c0
 have hrow := Lib.hid hrow
 obtain ⟨z, hz⟩ : ∃ z, t.nm 1 = z := ⟨_, rfl⟩
 have hpg := page_rr hrW.out
 rw [hz] at hpg
 have hz := Lib.hid hz
 have hpg := Lib.hid hpg
 clear h hbW c0
 go_enter Tryz.func124, Tryz.ntmps124
 go_wp2_with fail
 clear hW
 refine hpg.out.mono ?_
 rintro e w1 ⟨rfl, hs1, hr1⟩
 have st1 := Lib.hid hs1
 have hr1 := Lib.hid hr1
 clear hs1 hpg
 go_wp2_with fail
 refine (takeC_rr hr1.out).mono ?_
 rintro e w3 ⟨ca, k3, q3, n3, c3, q4, n4, c4, t3, rfl, hon, hf1, hf2, ht, hs, hr⟩
 have ona := Lib.hid hon
 have fa1 := Lib.hid hf1
 have fa2 := Lib.hid hf2
 have ta := Lib.hid ht
 have sa := Lib.hid hs
 have st3 := Lib.hid (st1.out.trans hs)
 have hr3 := Lib.hid hr
 clear hon hf1 hf2 ht hs hr
 have hWs : Hid (w.heap.size + 1 ≤ W.heap.size) := hrow.out.lt
 have i64z : I64 z := by have h1 := nm1 t; rw [hz.out] at h1; unfold I64; omega
 have i64z := Lib.hid i64z
 have bR : Hid (RowV 62 w3 w.heap.size _) := st3.out.row hrow.out (by have h1 := hgs.out; omega) (by have h1 := hgrs.out; omega)
 have hzv : (Tryz.prog.info? 62).map (·.size) = some ([.int .i64 z, .int .i64 0, .slice none 0 0, .slice none 0 0, .int .i64 k3, .slice q3 n3 c3, .slice q4 n4 c4] : List Value).length := sizeImg ⟨z, ⟨0, none, 0, 0, none, 0, 0⟩, ⟨k3, q3, n3, c3, q4, n4, c4⟩⟩
 have hone : ∀ x ∈ ([.int .i64 z, .int .i64 0, .slice none 0 0, .slice none 0 0, .int .i64 k3, .slice q3 n3 c3, .slice q4 n4 c4] : List Value), x.oneCell' = true := one_l rfl
 go_wp2_with (first
  | ((with_reducible refine wpList_store_at rfl 62 (.tmp 2) (.tmp 7) rfl (o := 0) (vs := [.int .i64 z, .int .i64 0, .slice none 0 0, .slice none 0 0, .int .i64 k3, .slice q3 n3 c3, .slice q4 n4 c4]) rfl rfl bR.out hzv (Nat.le_refl _) hone ?_)
     intro wz h9 hg9
     have rz : Hid (RowV 62 wz w.heap.size [.int .i64 z, .int .i64 0, .slice none 0 0, .slice none 0 0, .int .i64 k3, .slice q3 n3 c3, .slice q4 n4 c4]) := h9
     have gz := Lib.hid hg9
     clear h9 hg9))
 have m0 : wz.cell? ⟨w.heap.size, 0, none⟩ = some (.int .i64 z) := rz.out.cell 0
 have m1 : wz.cell? ⟨w.heap.size, 1, none⟩ = some (.int .i64 0) := rz.out.cell 1
 have m2 : wz.cell? ⟨w.heap.size, 2, none⟩ = some (.slice none 0 0) := rz.out.cell 2
 have m3 : wz.cell? ⟨w.heap.size, 3, none⟩ = some (.slice none 0 0) := rz.out.cell 3
 have m4 : wz.cell? ⟨w.heap.size, 4, none⟩ = some (.int .i64 k3) := rz.out.cell 4
 have m5 : wz.cell? ⟨w.heap.size, 5, none⟩ = some (.slice q3 n3 c3) := rz.out.cell 5
 have m6 : wz.cell? ⟨w.heap.size, 6, none⟩ = some (.slice q4 n4 c4) := rz.out.cell 6
 refine bodyPost_ret (v := .agg #[.int .i64 z, .int .i64 0, .slice none 0 0, .slice none 0 0, .int .i64 k3, .slice q3 n3 c3, .slice q4 n4 c4]) (by simp [results, Tryz.results124, go_sem, m0, m1, m2, m3, m4, m5, m6]) rfl ?_
 have stz := (stW.out.trans st3.out).own gz.out (Nat.le_refl _)
 have hrz := hr3.out.new gz.out hgrs.out (by have h1 := hgs.out; omega) hdn.out
 exact ⟨⟨z, ⟨0, none, 0, 0, none, 0, 0⟩, ⟨k3, q3, n3, c3, q4, n4, c4⟩⟩, ⟨z, zeroC, ca⟩, _, rfl, ⟨rfl, i64z.out, ⟨rfl, RowsOn.none_ _, KidsOn.none_ _⟩, (ona.out.gr gz.out (fun a ha => by have h0 := fa1.out a ha; have h1 := hgs.out; have h2 := hgrs.out; have h3 := hWs.out; have h4 := st1.out.size; omega) (fun a ha => by have h0 := fa2.out a ha; have h1 := hgs.out; have h2 := hgrs.out; have h3 := hWs.out; have h4 := st1.out.size; omega))⟩, ⟨(fun a ha => by cases ha), (fun a ha => by cases ha), (fun a ha => by have h0 := fa1.out a ha; have h1 := hgs.out; have h2 := hgrs.out; have h3 := hWs.out; have h4 := st1.out.size; omega), (fun a ha => by have h0 := fa2.out a ha; have h1 := hgs.out; have h2 := hgrs.out; have h3 := hWs.out; have h4 := st1.out.size; omega)⟩, ⟨hz.out.symm, rfl, ta.out⟩, stz, hrz⟩
set_option maxRecDepth 100000 in
set_option maxHeartbeats 4000000 in
theorem step2_rr {w : World} {g gr : Nat} {d : Option Nat} {all : List UInt8} {t : RSt} (h : RR w g gr d all t) (hk : t.nm 1 = 2) :
 Calls Tryz.prog 123 #[.pointer (some ⟨g, 0, none⟩)] w (StpPost w g gr d all t) := by
 obtain ⟨W, hW⟩ : ∃ W, w.alloc (.cells #[.int .i64 0, .int .i64 0, .int .u16 0, .int .i64 0, .string ⟨#[]⟩, .int .i64 0] 70) = W := ⟨_, rfl⟩
 have hbW : Below w.heap.size w W := by rw [← hW]; exact (Below.refl _ _).alloc (Nat.le_refl _) _
 have hrow : RowV 70 W w.heap.size [.int .i64 0, .int .i64 0, .int .u16 0, .int .i64 0, .string ⟨#[]⟩, .int .i64 0] := by rw [← hW]; exact RowV.made w _
 have hgs := Lib.hid h.lt
 have hgrs := Lib.hid h.ltr
 have hdn : Hid (d ≠ some w.heap.size) := fun e => by have := h.src _ e; omega
 have hrW := Lib.hid (h.below hbW)
 have stW := Lib.hid (RStep.of_below (g := g) (gr := gr) hbW)
 have hWs : Hid (w.heap.size ≤ W.heap.size) := hbW.size
 have c0 : W.cell? ⟨g, 0, none⟩ = some (.pointer (some ⟨gr, 0, none⟩)) := hrW.out.c0
 have hrow := Lib.hid hrow
 have hpg := rr8 hrW.out
 rw [hk] at hpg
 have hpg := Lib.hid hpg
 have hk := Lib.hid hk
 clear h hbW
 have hWs : Hid (w.heap.size + 1 ≤ W.heap.size) := hrow.out.lt
 go_enter Tryz.func123, Tryz.ntmps123
 go_wp2_with fail
 clear hW
 refine hpg.out.mono ?_
 clear c0 hpg
 rintro e w1 ⟨rfl, hs1, hr1⟩
 have st1 := Lib.hid hs1
 have hr1 := Lib.hid hr1
 clear hs1
 go_wp2_with fail
 refine (takeR_rr hr1.out).mono ?_
 rintro e w3 ⟨⟨⟨rt, ri⟩, rv, rs⟩, t3, rfl, ht, hs, hr⟩
 have ta := Lib.hid ht
 have st3 := Lib.hid (st1.out.trans hs)
 have hr3 := Lib.hid hr
 clear ht hs hr
 have hrv : rowV ⟨⟨rt, ri⟩, rv, rs⟩ = .agg #[.int .i64 rt, .int .u16 ri, .int .i64 rv, .string rs] := rfl
 rw [hrv]
 clear hrv
 have bR : Hid (RowV 70 w3 w.heap.size _) := st3.out.row hrow.out (by have h1 := hgs.out; omega) (by have h1 := hgrs.out; omega)
 have hzv : (Tryz.prog.info? 70).map (·.size) = some ([.int .i64 2, .int .i64 rt, .int .u16 ri, .int .i64 rv, .string rs, .int .i64 0] : List Value).length := sizeStep ⟨2, ⟨⟨rt, ri⟩, rv, rs⟩, 0⟩
 have hone : ∀ x ∈ ([.int .i64 2, .int .i64 rt, .int .u16 ri, .int .i64 rv, .string rs, .int .i64 0] : List Value), x.oneCell' = true := one_l rfl
 go_wp2_with (first
  | ((with_reducible refine wpList_store_at rfl 70 (.tmp 2) (.tmp 17) rfl (o := 0) (vs := [.int .i64 2, .int .i64 rt, .int .u16 ri, .int .i64 rv, .string rs, .int .i64 0]) rfl rfl bR.out hzv (Nat.le_refl _) hone ?_)
     intro wz h9 hg9
     have rz : Hid (RowV 70 wz w.heap.size [.int .i64 2, .int .i64 rt, .int .u16 ri, .int .i64 rv, .string rs, .int .i64 0]) := h9
     have gz := Lib.hid hg9
     clear h9 hg9))
 have m0 : wz.cell? ⟨w.heap.size, 0, none⟩ = some (.int .i64 2) := rz.out.cell 0
 have m1 : wz.cell? ⟨w.heap.size, 1, none⟩ = some (.int .i64 rt) := rz.out.cell 1
 have m2 : wz.cell? ⟨w.heap.size, 2, none⟩ = some (.int .u16 ri) := rz.out.cell 2
 have m3 : wz.cell? ⟨w.heap.size, 3, none⟩ = some (.int .i64 rv) := rz.out.cell 3
 have m4 : wz.cell? ⟨w.heap.size, 4, none⟩ = some (.string rs) := rz.out.cell 4
 have m5 : wz.cell? ⟨w.heap.size, 5, none⟩ = some (.int .i64 0) := rz.out.cell 5
 refine bodyPost_ret (v := .agg #[.int .i64 2, .int .i64 rt, .int .u16 ri, .int .i64 rv, .string rs, .int .i64 0]) (by simp [results, Tryz.results123, go_sem, m0, m1, m2, m3, m4, m5]) rfl ?_
 have stz := (stW.out.trans st3.out).own gz.out (Nat.le_refl _)
 have hrz := hr3.out.new gz.out hgrs.out (by have h1 := hgs.out; omega) hdn.out
 exact ⟨⟨2, ⟨⟨rt, ri⟩, rv, rs⟩, 0⟩, _, rfl, by unfold StepR; rw [hk.out]; rw [if_pos (by decide)]; exact ⟨_, ta.out, rfl⟩, stz, hrz⟩
set_option maxRecDepth 100000 in
set_option maxHeartbeats 4000000 in
theorem step3_rr {w : World} {g gr : Nat} {d : Option Nat} {all : List UInt8} {t : RSt} (h : RR w g gr d all t) (hk : t.nm 1 = 3) :
 Calls Tryz.prog 123 #[.pointer (some ⟨g, 0, none⟩)] w (StpPost w g gr d all t) := by
 obtain ⟨W, hW⟩ : ∃ W, w.alloc (.cells #[.int .i64 0, .int .i64 0, .int .u16 0, .int .i64 0, .string ⟨#[]⟩, .int .i64 0] 70) = W := ⟨_, rfl⟩
 have hbW : Below w.heap.size w W := by rw [← hW]; exact (Below.refl _ _).alloc (Nat.le_refl _) _
 have hrow : RowV 70 W w.heap.size [.int .i64 0, .int .i64 0, .int .u16 0, .int .i64 0, .string ⟨#[]⟩, .int .i64 0] := by rw [← hW]; exact RowV.made w _
 have hgs := Lib.hid h.lt
 have hgrs := Lib.hid h.ltr
 have hdn : Hid (d ≠ some w.heap.size) := fun e => by have := h.src _ e; omega
 have hrW := Lib.hid (h.below hbW)
 have stW := Lib.hid (RStep.of_below (g := g) (gr := gr) hbW)
 have hWs : Hid (w.heap.size ≤ W.heap.size) := hbW.size
 have c0 : W.cell? ⟨g, 0, none⟩ = some (.pointer (some ⟨gr, 0, none⟩)) := hrW.out.c0
 have hrow := Lib.hid hrow
 have hpg := rr8 hrW.out
 rw [hk] at hpg
 have hpg := Lib.hid hpg
 have hk := Lib.hid hk
 clear h hbW
 have hWs : Hid (w.heap.size + 1 ≤ W.heap.size) := hrow.out.lt
 go_enter Tryz.func123, Tryz.ntmps123
 go_wp2_with fail
 clear hW
 refine hpg.out.mono ?_
 clear c0 hpg
 rintro e w1 ⟨rfl, hs1, hr1⟩
 have st1 := Lib.hid hs1
 have hr1 := Lib.hid hr1
 clear hs1
 go_wp2_with fail
 refine (takeR_rr hr1.out).mono ?_
 rintro e w3 ⟨⟨⟨rt, ri⟩, rv, rs⟩, t3, rfl, ht, hs, hr⟩
 have ta := Lib.hid ht
 have st3 := Lib.hid (st1.out.trans hs)
 have hr3 := Lib.hid hr
 clear ht hs hr
 have hrv : rowV ⟨⟨rt, ri⟩, rv, rs⟩ = .agg #[.int .i64 rt, .int .u16 ri, .int .i64 rv, .string rs] := rfl
 rw [hrv]
 clear hrv
 have bR : Hid (RowV 70 w3 w.heap.size _) := st3.out.row hrow.out (by have h1 := hgs.out; omega) (by have h1 := hgrs.out; omega)
 have hzv : (Tryz.prog.info? 70).map (·.size) = some ([.int .i64 3, .int .i64 rt, .int .u16 ri, .int .i64 rv, .string rs, .int .i64 0] : List Value).length := sizeStep ⟨3, ⟨⟨rt, ri⟩, rv, rs⟩, 0⟩
 have hone : ∀ x ∈ ([.int .i64 3, .int .i64 rt, .int .u16 ri, .int .i64 rv, .string rs, .int .i64 0] : List Value), x.oneCell' = true := one_l rfl
 go_wp2_with (first
  | ((with_reducible refine wpList_store_at rfl 70 (.tmp 2) (.tmp 17) rfl (o := 0) (vs := [.int .i64 3, .int .i64 rt, .int .u16 ri, .int .i64 rv, .string rs, .int .i64 0]) rfl rfl bR.out hzv (Nat.le_refl _) hone ?_)
     intro wz h9 hg9
     have rz : Hid (RowV 70 wz w.heap.size [.int .i64 3, .int .i64 rt, .int .u16 ri, .int .i64 rv, .string rs, .int .i64 0]) := h9
     have gz := Lib.hid hg9
     clear h9 hg9))
 have m0 : wz.cell? ⟨w.heap.size, 0, none⟩ = some (.int .i64 3) := rz.out.cell 0
 have m1 : wz.cell? ⟨w.heap.size, 1, none⟩ = some (.int .i64 rt) := rz.out.cell 1
 have m2 : wz.cell? ⟨w.heap.size, 2, none⟩ = some (.int .u16 ri) := rz.out.cell 2
 have m3 : wz.cell? ⟨w.heap.size, 3, none⟩ = some (.int .i64 rv) := rz.out.cell 3
 have m4 : wz.cell? ⟨w.heap.size, 4, none⟩ = some (.string rs) := rz.out.cell 4
 have m5 : wz.cell? ⟨w.heap.size, 5, none⟩ = some (.int .i64 0) := rz.out.cell 5
 refine bodyPost_ret (v := .agg #[.int .i64 3, .int .i64 rt, .int .u16 ri, .int .i64 rv, .string rs, .int .i64 0]) (by simp [results, Tryz.results123, go_sem, m0, m1, m2, m3, m4, m5]) rfl ?_
 have stz := (stW.out.trans st3.out).own gz.out (Nat.le_refl _)
 have hrz := hr3.out.new gz.out hgrs.out (by have h1 := hgs.out; omega) hdn.out
 exact ⟨⟨3, ⟨⟨rt, ri⟩, rv, rs⟩, 0⟩, _, rfl, by unfold StepR; rw [hk.out]; rw [if_pos (by decide)]; exact ⟨_, ta.out, rfl⟩, stz, hrz⟩
set_option maxRecDepth 100000 in
set_option maxHeartbeats 4000000 in
theorem step1_rr {w : World} {g gr : Nat} {d : Option Nat} {all : List UInt8} {t : RSt} (h : RR w g gr d all t) (hk : t.nm 1 = 1) :
 Calls Tryz.prog 123 #[.pointer (some ⟨g, 0, none⟩)] w (StpPost w g gr d all t) := by
 obtain ⟨W, hW⟩ : ∃ W, w.alloc (.cells #[.int .i64 0, .int .i64 0, .int .u16 0, .int .i64 0, .string ⟨#[]⟩, .int .i64 0] 70) = W := ⟨_, rfl⟩
 have hbW : Below w.heap.size w W := by rw [← hW]; exact (Below.refl _ _).alloc (Nat.le_refl _) _
 have hrow : RowV 70 W w.heap.size [.int .i64 0, .int .i64 0, .int .u16 0, .int .i64 0, .string ⟨#[]⟩, .int .i64 0] := by rw [← hW]; exact RowV.made w _
 have hgs := Lib.hid h.lt
 have hgrs := Lib.hid h.ltr
 have hdn : Hid (d ≠ some w.heap.size) := fun e => by have := h.src _ e; omega
 have hrW := Lib.hid (h.below hbW)
 have stW := Lib.hid (RStep.of_below (g := g) (gr := gr) hbW)
 have hWs : Hid (w.heap.size ≤ W.heap.size) := hbW.size
 have c0 : W.cell? ⟨g, 0, none⟩ = some (.pointer (some ⟨gr, 0, none⟩)) := hrW.out.c0
 have hrow := Lib.hid hrow
 have hpg := rr8 hrW.out
 rw [hk] at hpg
 have hpg := Lib.hid hpg
 have hk := Lib.hid hk
 clear h hbW
 have hWs : Hid (w.heap.size + 1 ≤ W.heap.size) := hrow.out.lt
 go_enter Tryz.func123, Tryz.ntmps123
 go_wp2_with fail
 clear hW
 refine hpg.out.mono ?_
 clear c0 hpg
 rintro e w1 ⟨rfl, hs1, hr1⟩
 have st1 := Lib.hid hs1
 have hr1 := Lib.hid hr1
 clear hs1
 obtain ⟨y1, hy1⟩ : ∃ y, (t.nx 1).nm 1 = y := ⟨_, rfl⟩
 obtain ⟨y2, hy2⟩ : ∃ y, ((t.nx 1).nx 1).nm 2 = y := ⟨_, rfl⟩
 obtain ⟨y3, hy3⟩ : ∃ y, (bareT (t.nx 1)).nm 8 = y := ⟨_, rfl⟩
 have hba : ∀ u, RR u g gr d all (t.nx 1) → Calls Tryz.prog 140 #[.pointer (some ⟨g, 0, none⟩)] u (RRP (.agg #[.int .i64 y1, .int .u16 y2, .int .i64 0, .string ⟨#[]⟩]) u g gr d all (bareT (t.nx 1))) := fun u hu => by rw [← hy1, ← hy2]; exact bare_rr hu
 have h64 : ∀ u, RR u g gr d all (bareT (t.nx 1)) → Calls Tryz.prog 74 #[.pointer (some ⟨gr, 0, none⟩)] u (RRP (.int .u64 y3) u g gr d all ((bareT (t.nx 1)).nx 8)) := fun u hu => by rw [← hy3]; exact rr64 hu
 have hy := Lib.hid (And.intro hy1 (And.intro hy2 hy3))
 have hba := Lib.hid hba
 have h64 := Lib.hid h64
 clear hy1 hy2 hy3
 obtain ⟨y4, hy4⟩ : ∃ y, IntKind.i64.wrap y3 = y := ⟨_, rfl⟩
 have hSW : Hid (RdB w g gr 70 6 w1) := ⟨hr1.out.c0, _, rfl, st1.out.row hrow.out (by have h1 := hgs.out; omega) (by have h1 := hgrs.out; omega)⟩
 have hrW2 := hr1
 have stW2 := Lib.hid (stW.out.trans st1.out)
 go_wp2_with fail
 refine wp_region_held (S := RdB w g gr 70 6) (by kernel_rfl) ?_
 change wpAnyH _ _ _ _ _ _ _ _ (World.drew w1)
 have hS0 : RdB w g gr 70 6 (World.drew w1) := hSW.out.below (below_drew w1)
 have hr0 := hrW2.out.below (below_drew w1)
 have st0 := stW2.out.trans (RStep.of_below (below_drew w1))
 generalize World.drew w1 = u0 at hS0 hr0 st0 ⊢
 refine tg 0 20 (.int .i64 1) hS0 ?_; go_frame
 refine tg 1 21 (.pointer (some ⟨g, 0, none⟩)) hS0 ?_; go_frame
 refine tg 3 23 (.pointer (some ⟨g, 0, none⟩)) hS0 ?_; go_frame
 refine tg 4 24 (.pointer (some ⟨g, 0, none⟩)) hS0 ?_; go_frame
 refine tg 5 25 (.pointer (some ⟨g, 0, none⟩)) hS0 ?_; go_frame
 refine held_tk (i := 6) (dst := some 26) rfl (v := .pointer (some ⟨gr, 0, none⟩)) rfl (.inl ⟨rfl, fun u hu => by have c0 := hu.c0; go_simp⟩) hS0 ?_; go_frame
 refine held_call (i := 2) (dst := some 22) rfl rfl (by kernel_rfl) rfl (by go_simp) (hba.out _ hr0) ?_
 rintro e u1 ⟨rfl, hs1, hr1⟩
 have st1 := st0.trans hs1
 have hS1 : RdB w g gr 70 6 u1 := hS0.step hr1 hs1 hgs.out hgrs.out
 refine ⟨_, rfl, hS1, ?_⟩
 go_frame
 refine held_call (i := 7) (dst := some 27) rfl rfl (by kernel_rfl) rfl (by go_simp) (h64.out _ hr1) ?_
 rintro e u2 ⟨rfl, hs2, hr2⟩
 have st2 := st1.trans hs2
 have hS2 : RdB w g gr 70 6 u2 := hS1.step hr2 hs2 hgs.out hgrs.out
 refine ⟨_, rfl, hS2, ?_⟩
 go_frame
 refine tg 8 28 (.int .i64 y4) hS2 ?_; go_frame
 refine held_tk (i := 9) (dst := some 29) rfl (v := .agg #[.int .i64 1, .int .i64 y1, .int .u16 y2, .int .i64 0, .string ⟨#[]⟩, .int .i64 y4]) rfl (.inl ⟨rfl, fun u hu => by go_simp <;> rfl⟩) hS2 ?_; go_frame
 obtain ⟨vz, hvl, hvr⟩ := hS2.res
 obtain ⟨w7, hst7, h7, hg7⟩ := run_storeVar_at (P := Tryz.prog) (ty := 70) (o := 0) (vs := [.int .i64 1, .int .i64 y1, .int .u16 y2, .int .i64 0, .string ⟨#[]⟩, .int .i64 y4]) hvr (sizeStep ⟨1, ⟨⟨y1, y2⟩, 0, ⟨#[]⟩⟩, y4⟩) (by rw [hvl]; exact Nat.le_refl _) (one_l rfl)
 rw [splice_all _ _ (by rw [hvl]; rfl)] at h7
 have hgsz := hgs.out
 have hgrsz := hgrs.out
 have hr7 := hr2.new hg7 hgrsz (by omega) (fun e => hdn.out e)
 have st7 := st2.own hg7 (Nat.le_refl _)
 have hS7 : RdB w g gr 70 6 w7 := ⟨hr7.c0, _, rfl, h7⟩
 refine held_skip (i := 10) (dst := none) (w' := w7) rfl rfl (by kernel_rfl) rfl (run_store_op rfl rfl rfl hst7) hS7 ?_
 go_frame
 refine wpAnyH_done (by kernel_rfl) ?_ _
 have hr7 := Lib.hid hr7
 have st7 := Lib.hid st7
 have m0 : w7.cell? ⟨w.heap.size, 0, none⟩ = some (.int .i64 1) := h7.cell 0
 have m1 : w7.cell? ⟨w.heap.size, 1, none⟩ = some (.int .i64 y1) := h7.cell 1
 have m2 : w7.cell? ⟨w.heap.size, 2, none⟩ = some (.int .u16 y2) := h7.cell 2
 have m3 : w7.cell? ⟨w.heap.size, 3, none⟩ = some (.int .i64 0) := h7.cell 3
 have m4 : w7.cell? ⟨w.heap.size, 4, none⟩ = some (.string ⟨#[]⟩) := h7.cell 4
 have m5 : w7.cell? ⟨w.heap.size, 5, none⟩ = some (.int .i64 y4) := h7.cell 5
 clear hst7 h7 hg7 hS7 hvr hS0 hS1 hS2 hr0 hr1 hr2 st0 st1 st2
 go_wp2
 exact bodyPost_ret (v := .agg #[.int .i64 1, .int .i64 y1, .int .u16 y2, .int .i64 0, .string ⟨#[]⟩, .int .i64 y4]) (by simp [results, Tryz.results123, go_sem, m0, m1, m2, m3, m4, m5]) rfl ⟨⟨1, ⟨⟨y1, y2⟩, 0, ⟨#[]⟩⟩, y4⟩, _, rfl, by unfold StepR; rw [hk.out]; rw [if_neg (by decide), if_pos rfl]; exact ⟨by unfold bareD; rw [hy.out.1, hy.out.2.1, hy.out.2.2, hy4], rfl⟩, st7.out, hr7.out⟩
set_option maxRecDepth 100000 in
set_option maxHeartbeats 4000000 in
theorem stepN_rr {w : World} {g gr : Nat} {d : Option Nat} {all : List UInt8} {t : RSt} (h : RR w g gr d all t) (n2 : t.nm 1 ≠ 2) (n3 : t.nm 1 ≠ 3) (n1 : t.nm 1 ≠ 1) :
 Calls Tryz.prog 123 #[.pointer (some ⟨g, 0, none⟩)] w (StpPost w g gr d all t) := by
 obtain ⟨W, hW⟩ : ∃ W, w.alloc (.cells #[.int .i64 0, .int .i64 0, .int .u16 0, .int .i64 0, .string ⟨#[]⟩, .int .i64 0] 70) = W := ⟨_, rfl⟩
 have hbW : Below w.heap.size w W := by rw [← hW]; exact (Below.refl _ _).alloc (Nat.le_refl _) _
 have hrow : RowV 70 W w.heap.size [.int .i64 0, .int .i64 0, .int .u16 0, .int .i64 0, .string ⟨#[]⟩, .int .i64 0] := by rw [← hW]; exact RowV.made w _
 have hgs := Lib.hid h.lt
 have hgrs := Lib.hid h.ltr
 have hdn : Hid (d ≠ some w.heap.size) := fun e => by have := h.src _ e; omega
 have hrW := Lib.hid (h.below hbW)
 have stW := Lib.hid (RStep.of_below (g := g) (gr := gr) hbW)
 have hWs : Hid (w.heap.size ≤ W.heap.size) := hbW.size
 have c0 : W.cell? ⟨g, 0, none⟩ = some (.pointer (some ⟨gr, 0, none⟩)) := hrW.out.c0
 have hrow := Lib.hid hrow
 obtain ⟨b0, b1⟩ := nm1 t
 obtain ⟨z, hk⟩ : ∃ z, t.nm 1 = z := ⟨_, rfl⟩
 have hpg := rr8 hrW.out
 rw [hk] at hpg n1 n2 n3 b0 b1
 have hpg := Lib.hid hpg
 have hk := Lib.hid hk
 have hn := Lib.hid (And.intro n2 (And.intro n3 n1))
 have d2 : (z == 2) = false := by simpa using n2
 have d3 : (z == 3) = false := by simpa using n3
 have d1 : (z == 1) = false := by simpa using n1
 clear n1 n2 n3
 clear h hbW
 have hWs : Hid (w.heap.size + 1 ≤ W.heap.size) := hrow.out.lt
 go_enter Tryz.func123, Tryz.ntmps123
 go_wp2_with fail
 clear hW
 refine hpg.out.mono ?_
 clear c0 hpg
 rintro e w1 ⟨rfl, hs1, hr1⟩
 have st1 := Lib.hid hs1
 have hr1 := Lib.hid hr1
 clear hs1
 obtain ⟨y1, hy1⟩ : ∃ y, (t.nx 1).nm 1 = y := ⟨_, rfl⟩
 obtain ⟨y2, hy2⟩ : ∃ y, ((t.nx 1).nx 1).nm 2 = y := ⟨_, rfl⟩
 have hba := bare_rr hr1.out
 rw [hy1, hy2] at hba
 have hba := Lib.hid hba
 have hy := Lib.hid (And.intro hy1 hy2)
 clear hy1 hy2
 go_wp2_with fail
 refine hba.out.mono ?_
 clear hba
 rintro e w3 ⟨rfl, hs, hr⟩
 have st3 := Lib.hid (st1.out.trans hs)
 have hr3 := Lib.hid hr
 clear hs hr
 have bR : Hid (RowV 70 w3 w.heap.size _) := st3.out.row hrow.out (by have h1 := hgs.out; omega) (by have h1 := hgrs.out; omega)
 have hzv : (Tryz.prog.info? 70).map (·.size) = some ([.int .i64 z, .int .i64 y1, .int .u16 y2, .int .i64 0, .string ⟨#[]⟩, .int .i64 0] : List Value).length := sizeStep ⟨z, ⟨⟨y1, y2⟩, 0, ⟨#[]⟩⟩, 0⟩
 have hone : ∀ x ∈ ([.int .i64 z, .int .i64 y1, .int .u16 y2, .int .i64 0, .string ⟨#[]⟩, .int .i64 0] : List Value), x.oneCell' = true := one_l rfl
 go_wp2_with (first
  | ((with_reducible refine wpList_store_at rfl 70 (.tmp 2) (.tmp 33) rfl (o := 0) (vs := [.int .i64 z, .int .i64 y1, .int .u16 y2, .int .i64 0, .string ⟨#[]⟩, .int .i64 0]) rfl rfl bR.out hzv (Nat.le_refl _) hone ?_)
     intro wz h9 hg9
     have rz : Hid (RowV 70 wz w.heap.size [.int .i64 z, .int .i64 y1, .int .u16 y2, .int .i64 0, .string ⟨#[]⟩, .int .i64 0]) := h9
     have gz := Lib.hid hg9
     clear h9 hg9))
 have m0 : wz.cell? ⟨w.heap.size, 0, none⟩ = some (.int .i64 z) := rz.out.cell 0
 have m1 : wz.cell? ⟨w.heap.size, 1, none⟩ = some (.int .i64 y1) := rz.out.cell 1
 have m2 : wz.cell? ⟨w.heap.size, 2, none⟩ = some (.int .u16 y2) := rz.out.cell 2
 have m3 : wz.cell? ⟨w.heap.size, 3, none⟩ = some (.int .i64 0) := rz.out.cell 3
 have m4 : wz.cell? ⟨w.heap.size, 4, none⟩ = some (.string ⟨#[]⟩) := rz.out.cell 4
 have m5 : wz.cell? ⟨w.heap.size, 5, none⟩ = some (.int .i64 0) := rz.out.cell 5
 refine bodyPost_ret (v := .agg #[.int .i64 z, .int .i64 y1, .int .u16 y2, .int .i64 0, .string ⟨#[]⟩, .int .i64 0]) (by simp [results, Tryz.results123, go_sem, m0, m1, m2, m3, m4, m5]) rfl ?_
 have stz := (stW.out.trans st3.out).own gz.out (Nat.le_refl _)
 have hrz := hr3.out.new gz.out hgrs.out (by have h1 := hgs.out; omega) hdn.out
 exact ⟨⟨z, ⟨⟨y1, y2⟩, 0, ⟨#[]⟩⟩, 0⟩, _, rfl, by unfold StepR; rw [hk.out]; rw [if_neg (by have h1 := hn.out; omega), if_neg hn.out.2.2]; exact ⟨by unfold bareD; rw [hy.out.1, hy.out.2], rfl⟩, stz, hrz⟩
theorem step_rr {w : World} {g gr : Nat} {d : Option Nat} {all : List UInt8} {t : RSt} (h : RR w g gr d all t) :
 Calls Tryz.prog 123 #[.pointer (some ⟨g, 0, none⟩)] w (StpPost w g gr d all t) := by
 by_cases h2 : t.nm 1 = 2
 · exact step2_rr h h2
 by_cases h3 : t.nm 1 = 3
 · exact step3_rr h h3
 by_cases h1 : t.nm 1 = 1
 · exact step1_rr h h1
 exact stepN_rr h h2 h3 h1
end Go.Proofs.YtocekhckmpkbmaaGreat
