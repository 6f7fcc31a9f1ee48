/- The reader of record: take. -/
import Derived.Test.YtocekhckmpkbmaaGreatQ17
namespace Go.Proofs.YtocekhckmpkbmaaGreat
open Go.RowKit
/-- what a taker takes of what is ahead -/
def TakeCR (t : RSt) (c : ContD) (t' : RSt) : Prop := ∃ n er, TakeC t.s.l c n er ∧ t' = ⟨t.s.next n, t.b || decide (er ≠ 0)⟩
def TakeRR (t : RSt) (r : RowD) (t' : RSt) : Prop := ∃ n er, TakeR t.s.l r n er ∧ t' = ⟨t.s.next n, t.b || decide (er ≠ 0)⟩
def TakeRPost (w : World) (g gr : Nat) (d : Option Nat) (all : List UInt8) (t : RSt) (e : Ending) (w' : World) : Prop :=
 ∃ r t', e = .returned (rowV r) ∧ TakeRR t r t' ∧ RStep w w' g gr ∧ RR w' g gr d all t'
theorem suf_drop {l all : List UInt8} (h : l <:+ all) : all.drop (all.length - l.length) = l := by
 obtain ⟨p, rfl⟩ := h
 rw [List.length_append, Nat.add_sub_cancel, List.drop_left]
theorem tail_slice (p : Option Addr) (n c k : Nat) (hk : k ≤ n) (u : World) :
 (Instr.slice 36 (.slice p n c) (some (.int .i64 (k : Int))) none none).run Tryz.prog u = .ok (.slice (tl p c k) (n - k) (c - k)) u := slice_tail8 p n c k hk u
/-- the reader's cells, and the result's at the block that was new -/
structure TkB (w : World) (g gr : Nat) (q : Option Addr) (n c : Nat) (b : Bool) (T : TypeId) (m : Nat) (u : World) : Prop where
 row : RowV 120 u g [.pointer (some ⟨gr, 0, none⟩), .slice q n c, .bool b]
 res : ∃ vs, vs.length = m ∧ RowV T u w.heap.size vs
theorem TkB.below {w u u' : World} {g gr : Nat} {q : Option Addr} {n c : Nat} {b : Bool} {T : TypeId} {m : Nat} (h : TkB w g gr q n c b T m u) (hb : Below u.heap.size u u') : TkB w g gr q n c b T m u' :=
 ⟨h.row.below hb, by obtain ⟨vs, h1, h2⟩ := h.res; exact ⟨vs, h1, h2.below hb⟩⟩
theorem TkB.new {w u u' : World} {g gr k : Nat} {q : Option Addr} {n c : Nat} {b : Bool} {T : TypeId} {m : Nat} (h : TkB w g gr q n c b T m u) (hg : u.grownBy u' (some k)) (h1 : g ≠ k) (h2 : w.heap.size ≠ k) : TkB w g gr q n c b T m u' :=
 ⟨h.row.kept hg h1, by obtain ⟨vs, a, b⟩ := h.res; exact ⟨vs, a, b.kept hg h2⟩⟩
theorem takeRow_sp (p : Option Addr) (n c : Nat) (b : List UInt8) (w : World) (hv : Lib.HoldsBytes w (.slice p n c) b) (hnc : n ≤ c) (hc : n ≤ 140737488355328) :
 Calls Tryz.prog 139 #[.slice p n c] w (fun e w' => ∃ rt ri rv rs nn er, TakeR b ⟨⟨rt, ri⟩, rv, rs⟩ nn er ∧ e = .returned (.tuple #[.agg #[.int .i64 rt, .int .u16 ri, .int .i64 rv, .string rs], .int .i64 nn, .int .i64 er]) ∧ Below w.heap.size w w') := by
 refine (takeRow_any p n c b w hv hnc hc).mono ?_
 rintro e w' ⟨⟨⟨rt, ri⟩, rv, rs⟩, nn, er, h, rfl, hb⟩
 exact ⟨rt, ri, rv, rs, nn, er, h, rfl, hb⟩
theorem tk_holds {w : World} {g gr : Nat} {d : Option Nat} {q : Option Addr} {n c lf ko : Nat} {all : List UInt8} {ts : St} {tb : Bool} (h : RRq w g gr d q n c all ⟨ts, tb⟩) (h1 : ts.l.length = lf) (h2 : n - lf = ko) (h3 : n = all.length) : Lib.HoldsBytes w (.slice (tl q c ko) (n - ko) (c - ko)) ts.l := by
 have hd := holds_drop h.held (k := ko) (by omega) h.le
 have e := suf_drop h.suf
 rw [show all.length - ts.l.length = ko by omega] at e
 rwa [e] at hd
set_option maxRecDepth 100000 in
set_option maxHeartbeats 8000000 in
theorem takeR_rr {w : World} {g gr : Nat} {d : Option Nat} {all : List UInt8} {t : RSt} (h : RR w g gr d all t) :
 Calls Tryz.prog 138 #[.pointer (some ⟨g, 0, none⟩), .func (.func 139) #[] #[]] w (TakeRPost w g gr d all t) := by
 obtain ⟨W, hW⟩ : ∃ W, w.alloc (.cells #[.int .i64 0, .int .u16 0, .int .i64 0, .string ⟨#[]⟩] 68) = W := ⟨_, rfl⟩
 have hbW : Below w.heap.size w W := by rw [← hW]; exact (Below.refl _ _).alloc (Nat.le_refl _) _
 have hrow : RowV 68 W w.heap.size [.int .i64 0, .int .u16 0, .int .i64 0, .string ⟨#[]⟩] := by rw [← hW]; exact RowV.made w _
 have hgs := Lib.hid h.lt
 have hgrs := Lib.hid h.ltr
 have hdsrc := Lib.hid h.src
 have hdn : Hid (d ≠ some w.heap.size) := fun e => by have := h.src _ e; omega
 obtain ⟨q, n, c, hq⟩ := h
 have hlen := Lib.hid (holds_len hq.held)
 have hsuf := Lib.hid hq.suf
 have hsl := hq.suf.length_le
 have hbg := Lib.hid hq.big
 obtain ⟨ts, tb⟩ := t
 obtain ⟨lf, hlf⟩ : ∃ lf, ts.l.length = lf := ⟨_, rfl⟩
 obtain ⟨ko, hko⟩ : ∃ ko, n - lf = ko := ⟨_, rfl⟩
 have hnn := hlen.out
 have hbb := hbg.out
 simp only at hsl
 have hle : Hid (ko ≤ n) := by show ko ≤ n; omega
 have hsub : IntKind.i64.wrap ((n : Int) - (lf : Int)) = (ko : Int) := by rw [show (n : Int) - (lf : Int) = (ko : Int) by omega]; exact wrap_small ko (by omega) (by omega)
 have hsl0 := Lib.hid (fun u : World => tail_slice q n c ko hle.out u)
 have hlf := Lib.hid hlf
 have hko := Lib.hid hko
 have hrW := Lib.hid (hq.below hbW)
 have stW := Lib.hid (RStep.of_below (g := g) (gr := gr) hbW)
 have hSW : Hid (TkB w g gr q n c tb 68 4 W) := ⟨hrW.out.row, _, rfl, hrow⟩
 have hWs : Hid (w.heap.size < W.heap.size) := hrow.lt
 clear hq hrow hbW hsl hnn hbb
 go_enter Tryz.func138, Tryz.ntmps138
 go_wp2_with fail
 clear hW
 refine wp_region_held (S := TkB w g gr q n c tb 68 4) (by kernel_rfl) ?_
 change wpAnyH _ _ _ _ _ _ _ _ (World.drew W)
 have hdr := below_drew W
 have hS0 : TkB w g gr q n c tb 68 4 (World.drew W) := hSW.out.below hdr
 have hr0 := hrW.out.below hdr
 have st0 := stW.out.trans (RStep.of_below hdr)
 have hz0 : w.heap.size < (World.drew W).heap.size := Nat.lt_of_lt_of_le hWs.out hdr.size
 generalize World.drew W = u0 at hS0 hr0 st0 hz0 ⊢
 refine tg 0 9 (.func (.func 139) #[] #[]) hS0 ?_; go_frame
 refine tg 1 10 (.pointer (some ⟨g, 0, none⟩)) hS0 ?_; go_frame
 refine tg 2 11 (.pointer (some ⟨g, 0, none⟩)) hS0 ?_; go_frame
 refine tg 3 12 (.pointer (some ⟨g, 1, none⟩)) hS0 ?_; go_frame
 refine held_tk (i := 4) (dst := some 13) rfl (v := .slice q n c) rfl (.inl ⟨rfl, fun u hu => by have c1 : u.cell? ⟨g, 1, none⟩ = some (.slice q n c) := hu.row.cell 1; go_simp⟩) hS0 ?_; go_frame
 refine tg 5 14 (.pointer (some ⟨g, 0, none⟩)) hS0 ?_; go_frame
 refine tg 6 15 (.pointer (some ⟨g, 0, none⟩)) hS0 ?_; go_frame
 refine tg 7 16 (.pointer (some ⟨g, 1, none⟩)) hS0 ?_; go_frame
 refine held_tk (i := 8) (dst := some 17) rfl (v := .slice q n c) rfl (.inl ⟨rfl, fun u hu => by have c1 : u.cell? ⟨g, 1, none⟩ = some (.slice q n c) := hu.row.cell 1; go_simp⟩) hS0 ?_; go_frame
 refine tg 9 18 (.int .i64 n) hS0 ?_; go_frame
 refine tg 10 19 (.pointer (some ⟨g, 0, none⟩)) hS0 ?_; go_frame
 refine tg 11 20 (.pointer (some ⟨g, 0, none⟩)) hS0 ?_; go_frame
 refine tg 12 21 (.pointer (some ⟨g, 0, none⟩)) hS0 ?_; go_frame
 refine held_tk (i := 13) (dst := some 22) rfl (v := .pointer (some ⟨gr, 0, none⟩)) rfl (.inl ⟨rfl, fun u hu => by have c0 : u.cell? ⟨g, 0, none⟩ = some (.pointer (some ⟨gr, 0, none⟩)) := hu.row.cell 0; go_simp⟩) hS0 ?_; go_frame
 refine br_two (i := 14) (j := 22) (by kernel_rfl) ?_ ?_
 · refine br_call (i := 14) (dst := some 23) rfl rfl rfl (by go_simp) (rrLeft (t := ⟨ts, tb⟩) ⟨q, n, c, hr0⟩) ?_
   rintro e ux ⟨rfl, hux⟩
   obtain rfl := hux
   rw [show ((⟨ts, tb⟩ : RSt).s.l.length : Int) = (lf : Int) from by rw [← hlf.out]]
   refine ⟨_, rfl, hS0, ?_⟩
   go_frame
   refine tg 15 24 (.int .i64 ko) hS0 ?_; go_frame
   refine held_tk (i := 16) (dst := some 25) rfl (v := .slice (tl q c ko) (n - ko) (c - ko)) rfl (.inl ⟨rfl, fun u hu => by have hs1 := hsl0.out u; go_simp⟩) hS0 ?_; go_frame
   refine br_two (i := 17) (j := 22) (by kernel_rfl) ?_ ?_
   · refine br_call (i := 17) (dst := some 26) rfl rfl rfl (by go_simp) (takeRow_sp (tl q c ko) (n - ko) (c - ko) ts.l u0 (tk_holds hr0 hlf.out hko.out hlen.out) (by have h1 := hr0.le; omega) (by have h1 := hbg.out; omega)) ?_
     rintro e u1 ⟨rt, ri, rv, rs, nn, er, htk, rfl, hb9⟩
     have hS1 := hS0.below hb9
     have hr1 := hr0.below hb9
     have st1 := st0.trans (RStep.of_below hb9)
     refine ⟨_, rfl, hS1, ?_⟩
     go_frame
     refine tg 18 8 (.tuple #[.agg #[.int .i64 rt, .int .u16 ri, .int .i64 rv, .string rs], .int .i64 nn, .int .i64 er]) hS1 ?_; go_frame
     refine tg 19 27 (.agg #[.int .i64 rt, .int .u16 ri, .int .i64 rv, .string rs]) hS1 ?_; go_frame
     refine tg 20 28 (.int .i64 nn) hS1 ?_; go_frame
     refine tg 21 29 (.int .i64 er) hS1 ?_; go_frame
     obtain ⟨u2, hu2⟩ : ∃ y, u1.alloc (.cells #[.int .i64 0, .int .u16 0, .int .i64 0, .string ⟨#[]⟩] 68) = y := ⟨_, rfl⟩
     have hbu2 : Below u1.heap.size u1 u2 := by rw [← hu2]; exact (Below.refl _ _).alloc (Nat.le_refl _) _
     have hBu2 : RowV 68 u2 u1.heap.size [.int .i64 0, .int .u16 0, .int .i64 0, .string ⟨#[]⟩] := by rw [← hu2]; exact RowV.made u1 _
     have hS2 := hS1.below hbu2
     refine held_value (i := 22) (dst := some 5) rfl (v := .pointer (some ⟨u1.heap.size, 0, none⟩)) (w' := u2) rfl (by kernel_rfl) rfl (by go_simp) hS2 ?_
     go_frame
     have hr2 := hr1.below hbu2
     have st2 := st1.trans (RStep.of_below hbu2)
     obtain ⟨B, hBe⟩ : ∃ B, u1.heap.size = B := ⟨_, rfl⟩
     have hBlo : w.heap.size < B := by rw [← hBe]; exact Nat.lt_of_lt_of_le hz0 hb9.size
     have hBB := hBu2
     rw [hBe] at hBB
     rw [hBe]
     have hrB : gr ≠ B ∧ g ≠ B ∧ d ≠ some B := ⟨by have h1 := hgrs.out; omega, by have h1 := hgs.out; omega, fun e => by have h1 := hdsrc.out _ e; omega⟩
     obtain ⟨u7, hst7, h7, hg7⟩ := run_storeVar_at (P := Tryz.prog) (ty := 68) (o := 0) (vs := [.int .i64 rt, .int .u16 ri, .int .i64 rv, .string rs]) hBB (sizeRow _ _ _ _) (Nat.le_refl _) (one_l rfl)
     have h7 : RowV 68 u7 B [.int .i64 rt, .int .u16 ri, .int .i64 rv, .string rs] := h7
     have hr7 := hr2.new hg7 (by have h1 := hgrs.out; omega) (Ne.symm hrB.2.1) hrB.2.2
     have st7 := st2.own hg7 (by omega)
     have hS7 := hS2.new hg7 hrB.2.1 (by omega)
     refine held_skip (i := 23) (dst := none) (w' := u7) rfl rfl (by kernel_rfl) rfl (run_store_op rfl rfl rfl hst7) hS7 ?_
     go_frame
     refine tg 24 6 (.int .i64 nn) hS7 ?_; go_frame
     refine tg 25 7 (.int .i64 er) hS7 ?_; go_frame
     refine wpAnyH_done (by kernel_rfl) ?_ _
     have hres7 := hS7.res
     have hBB7 := Lib.hid h7
     have hr7 := Lib.hid hr7
     have st7 := Lib.hid st7
     have htk := Lib.hid htk
     have hlo7 : Hid (w.heap.size < u7.heap.size) := by show _ < _; have h1 := h7.lt; omega
     have hBlo := Lib.hid hBlo
     have hrB := Lib.hid hrB
     clear hst7 h7 hg7 hS7 hS2 hr2 st2 hBB hS0 hr0 st0 
     by_cases he : er = 0
     · subst he
       have c0 : u7.cell? ⟨g, 0, none⟩ = some (.pointer (some ⟨gr, 0, none⟩)) := hr7.out.row.cell 0
       go_wp2_with fail
       refine (rrRaw nn ⟨q, n, c, hr7.out⟩).mono ?_
       clear c0
       rintro e u9 ⟨q9, n9, c9, rfl, hs9, hr9⟩
       have bB : Hid (RowV 68 u9 B [.int .i64 rt, .int .u16 ri, .int .i64 rv, .string rs]) := hs9.row hBB7.out (Ne.symm hrB.out.2.1) (Ne.symm hrB.out.1)
       obtain ⟨vz, hvl, hvr⟩ := hres7
       have bR : Hid (RowV 68 u9 w.heap.size vz) := hs9.row hvr (by have h1 := hgs.out; omega) (by have h1 := hgrs.out; omega)
       have hs9 := Lib.hid hs9
       have hr9 := Lib.hid hr9
       have hvl := Lib.hid hvl
       have hzv : (Tryz.prog.info? 68).map (·.size) = some ([.int .i64 rt, .int .u16 ri, .int .i64 rv, .string rs] : List Value).length := (sizeRow _ _ _ _)
       have hfit : 0 + ([.int .i64 rt, .int .u16 ri, .int .i64 rv, .string rs] : List Value).length ≤ vz.length := by rw [hvl.out]; exact Nat.le_refl _
       have hone : ∀ x ∈ ([.int .i64 rt, .int .u16 ri, .int .i64 rv, .string rs] : List Value), x.oneCell' = true := one_l rfl
       clear hvr
       go_wp2_with (first
        | (with_reducible refine wpList_load_at rfl 68 (.tmp 5) rfl Tryz.underlying68 rfl hzv rfl bB.out.boxed.all ?_)
        | ((with_reducible refine wpList_store_at rfl 68 (.tmp 4) (.tmp 41) rfl (o := 0) (vs := [.int .i64 rt, .int .u16 ri, .int .i64 rv, .string rs]) rfl rfl bR.out hzv hfit hone ?_)
           intro wz h9 hg9
           have rz : Hid (RowV 68 wz w.heap.size [.int .i64 rt, .int .u16 ri, .int .i64 rv, .string rs]) := by have h1 := h9; rw [splice_all _ _ (by rw [hvl.out]; rfl)] at h1; exact h1
           have gz := Lib.hid hg9
           clear h9 hg9))
       have m0 : wz.cell? ⟨w.heap.size, 0, none⟩ = some (.int .i64 rt) := rz.out.cell 0
       have m1 : wz.cell? ⟨w.heap.size, 1, none⟩ = some (.int .u16 ri) := rz.out.cell 1
       have m2 : wz.cell? ⟨w.heap.size, 2, none⟩ = some (.int .i64 rv) := rz.out.cell 2
       have m3 : wz.cell? ⟨w.heap.size, 3, none⟩ = some (.string rs) := rz.out.cell 3
       refine bodyPost_ret (v := .agg #[.int .i64 rt, .int .u16 ri, .int .i64 rv, .string rs]) (by simp [results, Tryz.results138, go_sem, m0, m1, m2, m3]) rfl ?_
       exact ⟨⟨⟨rt, ri⟩, rv, rs⟩, _, rfl, ⟨nn, _, htk.out, by rw [show ((⟨ts, tb⟩ : RSt).nx nn) = ⟨ts.next nn, tb⟩ from rfl]; simp⟩, ((st7.out.trans hs9.out).own gz.out (Nat.le_refl _)), (hr9.out.new gz.out hgrs.out (by have h1 := hgs.out; omega) hdn.out)⟩
     · have d2 : (er != 0) = true := by simpa using he
       have c2 : u7.cell? ⟨g, 2, none⟩ = some (.bool tb) := hr7.out.row.cell 2
       have f2 : u7.frozen? ⟨g, 2, none⟩ = false := hr7.out.row.free 2
       obtain ⟨u8, hu8⟩ : ∃ y, u7.setCell ⟨g, 2, none⟩ (.bool true) = y := ⟨_, rfl⟩
       have hw8 := hr7.out.wrong
       have hg8 := setCell_grown u7 g 2 (.bool true)
       rw [hu8] at hw8 hg8
       have c0 : u8.cell? ⟨g, 0, none⟩ = some (.pointer (some ⟨gr, 0, none⟩)) := hw8.row.cell 0
       have hw8 := Lib.hid hw8
       have hg8 := Lib.hid hg8
       have he := Lib.hid he
       go_wp2_with fail
       clear hu8 c2 f2
       refine (rrRaw nn ⟨q, n, c, hw8.out⟩).mono ?_
       clear c0
       rintro e u9 ⟨q9, n9, c9, rfl, hs9', hr9⟩
       have hs9 := (RStep.of_g (gr := gr) hg8.out).trans hs9'
       have bB : Hid (RowV 68 u9 B [.int .i64 rt, .int .u16 ri, .int .i64 rv, .string rs]) := hs9.row hBB7.out (Ne.symm hrB.out.2.1) (Ne.symm hrB.out.1)
       obtain ⟨vz, hvl, hvr⟩ := hres7
       have bR : Hid (RowV 68 u9 w.heap.size vz) := hs9.row hvr (by have h1 := hgs.out; omega) (by have h1 := hgrs.out; omega)
       have hs9 := Lib.hid hs9
       have hr9 := Lib.hid hr9
       have hvl := Lib.hid hvl
       have hzv : (Tryz.prog.info? 68).map (·.size) = some ([.int .i64 rt, .int .u16 ri, .int .i64 rv, .string rs] : List Value).length := (sizeRow _ _ _ _)
       have hfit : 0 + ([.int .i64 rt, .int .u16 ri, .int .i64 rv, .string rs] : List Value).length ≤ vz.length := by rw [hvl.out]; exact Nat.le_refl _
       have hone : ∀ x ∈ ([.int .i64 rt, .int .u16 ri, .int .i64 rv, .string rs] : List Value), x.oneCell' = true := one_l rfl
       clear hvr
       go_wp2_with (first
        | (with_reducible refine wpList_load_at rfl 68 (.tmp 5) rfl Tryz.underlying68 rfl hzv rfl bB.out.boxed.all ?_)
        | ((with_reducible refine wpList_store_at rfl 68 (.tmp 4) (.tmp 41) rfl (o := 0) (vs := [.int .i64 rt, .int .u16 ri, .int .i64 rv, .string rs]) rfl rfl bR.out hzv hfit hone ?_)
           intro wz h9 hg9
           have rz : Hid (RowV 68 wz w.heap.size [.int .i64 rt, .int .u16 ri, .int .i64 rv, .string rs]) := by have h1 := h9; rw [splice_all _ _ (by rw [hvl.out]; rfl)] at h1; exact h1
           have gz := Lib.hid hg9
           clear h9 hg9))
       have m0 : wz.cell? ⟨w.heap.size, 0, none⟩ = some (.int .i64 rt) := rz.out.cell 0
       have m1 : wz.cell? ⟨w.heap.size, 1, none⟩ = some (.int .u16 ri) := rz.out.cell 1
       have m2 : wz.cell? ⟨w.heap.size, 2, none⟩ = some (.int .i64 rv) := rz.out.cell 2
       have m3 : wz.cell? ⟨w.heap.size, 3, none⟩ = some (.string rs) := rz.out.cell 3
       refine bodyPost_ret (v := .agg #[.int .i64 rt, .int .u16 ri, .int .i64 rv, .string rs]) (by simp [results, Tryz.results138, go_sem, m0, m1, m2, m3]) rfl ?_
       exact ⟨⟨⟨rt, ri⟩, rv, rs⟩, _, rfl, ⟨nn, _, htk.out, by rw [show ((⟨ts, true⟩ : RSt).nx nn) = ⟨ts.next nn, true⟩ from rfl]; simp [he.out]⟩, ((st7.out.trans hs9.out).own gz.out (Nat.le_refl _)), (hr9.out.new gz.out hgrs.out (by have h1 := hgs.out; omega) hdn.out)⟩
   · obtain ⟨u1, hu1⟩ : ∃ y, u0.alloc (.cells #[.int .i64 0, .int .u16 0, .int .i64 0, .string ⟨#[]⟩] 68) = y := ⟨_, rfl⟩
     have hbu1 : Below u0.heap.size u0 u1 := by rw [← hu1]; exact (Below.refl _ _).alloc (Nat.le_refl _) _
     have hBu1 : RowV 68 u1 u0.heap.size [.int .i64 0, .int .u16 0, .int .i64 0, .string ⟨#[]⟩] := by rw [← hu1]; exact RowV.made u0 _
     have hS1 := hS0.below hbu1
     have hr1 := hr0.below hbu1
     have st1 := st0.trans (RStep.of_below hbu1)
     refine br_value (i := 22) (dst := some 5) rfl (v := .pointer (some ⟨u0.heap.size, 0, none⟩)) (w' := u1) rfl rfl (by go_simp) ⟨hS1, ?_⟩
     go_frame
     refine held_call (i := 17) (dst := some 26) rfl rfl (by kernel_rfl) rfl (by go_simp) (takeRow_sp (tl q c ko) (n - ko) (c - ko) ts.l u1 (tk_holds hr1 hlf.out hko.out hlen.out) (by have h1 := hr1.le; omega) (by have h1 := hbg.out; omega)) ?_
     rintro e u2 ⟨rt, ri, rv, rs, nn, er, htk, rfl, hb9⟩
     have hS2 := hS1.below hb9
     have hr2 := hr1.below hb9
     have st2 := st1.trans (RStep.of_below hb9)
     refine ⟨_, rfl, hS2, ?_⟩
     go_frame
     obtain ⟨B, hBe⟩ : ∃ B, u0.heap.size = B := ⟨_, rfl⟩
     have hBlo : w.heap.size < B := by rw [← hBe]; exact hz0
     have hBB := hBu1.below hb9
     rw [hBe] at hBB
     rw [hBe]
     have hrB : gr ≠ B ∧ g ≠ B ∧ d ≠ some B := ⟨by have h1 := hgrs.out; omega, by have h1 := hgs.out; omega, fun e => by have h1 := hdsrc.out _ e; omega⟩
     refine tg 18 8 (.tuple #[.agg #[.int .i64 rt, .int .u16 ri, .int .i64 rv, .string rs], .int .i64 nn, .int .i64 er]) hS2 ?_; go_frame
     refine tg 19 27 (.agg #[.int .i64 rt, .int .u16 ri, .int .i64 rv, .string rs]) hS2 ?_; go_frame
     refine tg 20 28 (.int .i64 nn) hS2 ?_; go_frame
     refine tg 21 29 (.int .i64 er) hS2 ?_; go_frame
     obtain ⟨u7, hst7, h7, hg7⟩ := run_storeVar_at (P := Tryz.prog) (ty := 68) (o := 0) (vs := [.int .i64 rt, .int .u16 ri, .int .i64 rv, .string rs]) hBB (sizeRow _ _ _ _) (Nat.le_refl _) (one_l rfl)
     have h7 : RowV 68 u7 B [.int .i64 rt, .int .u16 ri, .int .i64 rv, .string rs] := h7
     have hr7 := hr2.new hg7 (by have h1 := hgrs.out; omega) (Ne.symm hrB.2.1) hrB.2.2
     have st7 := st2.own hg7 (by omega)
     have hS7 := hS2.new hg7 hrB.2.1 (by omega)
     refine held_skip (i := 23) (dst := none) (w' := u7) rfl rfl (by kernel_rfl) rfl (run_store_op rfl rfl rfl hst7) hS7 ?_
     go_frame
     refine tg 24 6 (.int .i64 nn) hS7 ?_; go_frame
     refine tg 25 7 (.int .i64 er) hS7 ?_; go_frame
     refine wpAnyH_done (by kernel_rfl) ?_ _
     have hres7 := hS7.res
     have hBB7 := Lib.hid h7
     have hr7 := Lib.hid hr7
     have st7 := Lib.hid st7
     have htk := Lib.hid htk
     have hlo7 : Hid (w.heap.size < u7.heap.size) := by show _ < _; have h1 := h7.lt; omega
     have hBlo := Lib.hid hBlo
     have hrB := Lib.hid hrB
     clear hst7 h7 hg7 hS7 hS2 hr2 st2 hBB hS0 hr0 st0 
     by_cases he : er = 0
     · subst he
       have c0 : u7.cell? ⟨g, 0, none⟩ = some (.pointer (some ⟨gr, 0, none⟩)) := hr7.out.row.cell 0
       go_wp2_with fail
       refine (rrRaw nn ⟨q, n, c, hr7.out⟩).mono ?_
       clear c0
       rintro e u9 ⟨q9, n9, c9, rfl, hs9, hr9⟩
       have bB : Hid (RowV 68 u9 B [.int .i64 rt, .int .u16 ri, .int .i64 rv, .string rs]) := hs9.row hBB7.out (Ne.symm hrB.out.2.1) (Ne.symm hrB.out.1)
       obtain ⟨vz, hvl, hvr⟩ := hres7
       have bR : Hid (RowV 68 u9 w.heap.size vz) := hs9.row hvr (by have h1 := hgs.out; omega) (by have h1 := hgrs.out; omega)
       have hs9 := Lib.hid hs9
       have hr9 := Lib.hid hr9
       have hvl := Lib.hid hvl
       have hzv : (Tryz.prog.info? 68).map (·.size) = some ([.int .i64 rt, .int .u16 ri, .int .i64 rv, .string rs] : List Value).length := (sizeRow _ _ _ _)
       have hfit : 0 + ([.int .i64 rt, .int .u16 ri, .int .i64 rv, .string rs] : List Value).length ≤ vz.length := by rw [hvl.out]; exact Nat.le_refl _
       have hone : ∀ x ∈ ([.int .i64 rt, .int .u16 ri, .int .i64 rv, .string rs] : List Value), x.oneCell' = true := one_l rfl
       clear hvr
       go_wp2_with (first
        | (with_reducible refine wpList_load_at rfl 68 (.tmp 5) rfl Tryz.underlying68 rfl hzv rfl bB.out.boxed.all ?_)
        | ((with_reducible refine wpList_store_at rfl 68 (.tmp 4) (.tmp 41) rfl (o := 0) (vs := [.int .i64 rt, .int .u16 ri, .int .i64 rv, .string rs]) rfl rfl bR.out hzv hfit hone ?_)
           intro wz h9 hg9
           have rz : Hid (RowV 68 wz w.heap.size [.int .i64 rt, .int .u16 ri, .int .i64 rv, .string rs]) := by have h1 := h9; rw [splice_all _ _ (by rw [hvl.out]; rfl)] at h1; exact h1
           have gz := Lib.hid hg9
           clear h9 hg9))
       have m0 : wz.cell? ⟨w.heap.size, 0, none⟩ = some (.int .i64 rt) := rz.out.cell 0
       have m1 : wz.cell? ⟨w.heap.size, 1, none⟩ = some (.int .u16 ri) := rz.out.cell 1
       have m2 : wz.cell? ⟨w.heap.size, 2, none⟩ = some (.int .i64 rv) := rz.out.cell 2
       have m3 : wz.cell? ⟨w.heap.size, 3, none⟩ = some (.string rs) := rz.out.cell 3
       refine bodyPost_ret (v := .agg #[.int .i64 rt, .int .u16 ri, .int .i64 rv, .string rs]) (by simp [results, Tryz.results138, go_sem, m0, m1, m2, m3]) rfl ?_
       exact ⟨⟨⟨rt, ri⟩, rv, rs⟩, _, rfl, ⟨nn, _, htk.out, by rw [show ((⟨ts, tb⟩ : RSt).nx nn) = ⟨ts.next nn, tb⟩ from rfl]; simp⟩, ((st7.out.trans hs9.out).own gz.out (Nat.le_refl _)), (hr9.out.new gz.out hgrs.out (by have h1 := hgs.out; omega) hdn.out)⟩
     · have d2 : (er != 0) = true := by simpa using he
       have c2 : u7.cell? ⟨g, 2, none⟩ = some (.bool tb) := hr7.out.row.cell 2
       have f2 : u7.frozen? ⟨g, 2, none⟩ = false := hr7.out.row.free 2
       obtain ⟨u8, hu8⟩ : ∃ y, u7.setCell ⟨g, 2, none⟩ (.bool true) = y := ⟨_, rfl⟩
       have hw8 := hr7.out.wrong
       have hg8 := setCell_grown u7 g 2 (.bool true)
       rw [hu8] at hw8 hg8
       have c0 : u8.cell? ⟨g, 0, none⟩ = some (.pointer (some ⟨gr, 0, none⟩)) := hw8.row.cell 0
       have hw8 := Lib.hid hw8
       have hg8 := Lib.hid hg8
       have he := Lib.hid he
       go_wp2_with fail
       clear hu8 c2 f2
       refine (rrRaw nn ⟨q, n, c, hw8.out⟩).mono ?_
       clear c0
       rintro e u9 ⟨q9, n9, c9, rfl, hs9', hr9⟩
       have hs9 := (RStep.of_g (gr := gr) hg8.out).trans hs9'
       have bB : Hid (RowV 68 u9 B [.int .i64 rt, .int .u16 ri, .int .i64 rv, .string rs]) := hs9.row hBB7.out (Ne.symm hrB.out.2.1) (Ne.symm hrB.out.1)
       obtain ⟨vz, hvl, hvr⟩ := hres7
       have bR : Hid (RowV 68 u9 w.heap.size vz) := hs9.row hvr (by have h1 := hgs.out; omega) (by have h1 := hgrs.out; omega)
       have hs9 := Lib.hid hs9
       have hr9 := Lib.hid hr9
       have hvl := Lib.hid hvl
       have hzv : (Tryz.prog.info? 68).map (·.size) = some ([.int .i64 rt, .int .u16 ri, .int .i64 rv, .string rs] : List Value).length := (sizeRow _ _ _ _)
       have hfit : 0 + ([.int .i64 rt, .int .u16 ri, .int .i64 rv, .string rs] : List Value).length ≤ vz.length := by rw [hvl.out]; exact Nat.le_refl _
       have hone : ∀ x ∈ ([.int .i64 rt, .int .u16 ri, .int .i64 rv, .string rs] : List Value), x.oneCell' = true := one_l rfl
       clear hvr
       go_wp2_with (first
        | (with_reducible refine wpList_load_at rfl 68 (.tmp 5) rfl Tryz.underlying68 rfl hzv rfl bB.out.boxed.all ?_)
        | ((with_reducible refine wpList_store_at rfl 68 (.tmp 4) (.tmp 41) rfl (o := 0) (vs := [.int .i64 rt, .int .u16 ri, .int .i64 rv, .string rs]) rfl rfl bR.out hzv hfit hone ?_)
           intro wz h9 hg9
           have rz : Hid (RowV 68 wz w.heap.size [.int .i64 rt, .int .u16 ri, .int .i64 rv, .string rs]) := by have h1 := h9; rw [splice_all _ _ (by rw [hvl.out]; rfl)] at h1; exact h1
           have gz := Lib.hid hg9
           clear h9 hg9))
       have m0 : wz.cell? ⟨w.heap.size, 0, none⟩ = some (.int .i64 rt) := rz.out.cell 0
       have m1 : wz.cell? ⟨w.heap.size, 1, none⟩ = some (.int .u16 ri) := rz.out.cell 1
       have m2 : wz.cell? ⟨w.heap.size, 2, none⟩ = some (.int .i64 rv) := rz.out.cell 2
       have m3 : wz.cell? ⟨w.heap.size, 3, none⟩ = some (.string rs) := rz.out.cell 3
       refine bodyPost_ret (v := .agg #[.int .i64 rt, .int .u16 ri, .int .i64 rv, .string rs]) (by simp [results, Tryz.results138, go_sem, m0, m1, m2, m3]) rfl ?_
       exact ⟨⟨⟨rt, ri⟩, rv, rs⟩, _, rfl, ⟨nn, _, htk.out, by rw [show ((⟨ts, true⟩ : RSt).nx nn) = ⟨ts.next nn, true⟩ from rfl]; simp [he.out]⟩, ((st7.out.trans hs9.out).own gz.out (Nat.le_refl _)), (hr9.out.new gz.out hgrs.out (by have h1 := hgs.out; omega) hdn.out)⟩
 · obtain ⟨u1, hu1⟩ : ∃ y, u0.alloc (.cells #[.int .i64 0, .int .u16 0, .int .i64 0, .string ⟨#[]⟩] 68) = y := ⟨_, rfl⟩
   have hbu1 : Below u0.heap.size u0 u1 := by rw [← hu1]; exact (Below.refl _ _).alloc (Nat.le_refl _) _
   have hBu1 : RowV 68 u1 u0.heap.size [.int .i64 0, .int .u16 0, .int .i64 0, .string ⟨#[]⟩] := by rw [← hu1]; exact RowV.made u0 _
   have hS1 := hS0.below hbu1
   have hr1 := hr0.below hbu1
   have st1 := st0.trans (RStep.of_below hbu1)
   refine br_value (i := 22) (dst := some 5) rfl (v := .pointer (some ⟨u0.heap.size, 0, none⟩)) (w' := u1) rfl rfl (by go_simp) ⟨hS1, ?_⟩
   go_frame
   refine held_call (i := 14) (dst := some 23) rfl rfl (by kernel_rfl) rfl (by go_simp) (rrLeft (t := ⟨ts, tb⟩) ⟨q, n, c, hr1⟩) ?_
   rintro e ux ⟨rfl, hux⟩
   obtain rfl := hux
   rw [show ((⟨ts, tb⟩ : RSt).s.l.length : Int) = (lf : Int) from by rw [← hlf.out]]
   refine ⟨_, rfl, hS1, ?_⟩
   go_frame
   refine tg 15 24 (.int .i64 ko) hS1 ?_; go_frame
   refine held_tk (i := 16) (dst := some 25) rfl (v := .slice (tl q c ko) (n - ko) (c - ko)) rfl (.inl ⟨rfl, fun u hu => by have hs1 := hsl0.out u; go_simp⟩) hS1 ?_; go_frame
   refine held_call (i := 17) (dst := some 26) rfl rfl (by kernel_rfl) rfl (by go_simp) (takeRow_sp (tl q c ko) (n - ko) (c - ko) ts.l u1 (tk_holds hr1 hlf.out hko.out hlen.out) (by have h1 := hr1.le; omega) (by have h1 := hbg.out; omega)) ?_
   rintro e u2 ⟨rt, ri, rv, rs, nn, er, htk, rfl, hb9⟩
   have hS2 := hS1.below hb9
   have hr2 := hr1.below hb9
   have st2 := st1.trans (RStep.of_below hb9)
   refine ⟨_, rfl, hS2, ?_⟩
   go_frame
   obtain ⟨B, hBe⟩ : ∃ B, u0.heap.size = B := ⟨_, rfl⟩
   have hBlo : w.heap.size < B := by rw [← hBe]; exact hz0
   have hBB := hBu1.below hb9
   rw [hBe] at hBB
   rw [hBe]
   have hrB : gr ≠ B ∧ g ≠ B ∧ d ≠ some B := ⟨by have h1 := hgrs.out; omega, by have h1 := hgs.out; omega, fun e => by have h1 := hdsrc.out _ e; omega⟩
   refine tg 18 8 (.tuple #[.agg #[.int .i64 rt, .int .u16 ri, .int .i64 rv, .string rs], .int .i64 nn, .int .i64 er]) hS2 ?_; go_frame
   refine tg 19 27 (.agg #[.int .i64 rt, .int .u16 ri, .int .i64 rv, .string rs]) hS2 ?_; go_frame
   refine tg 20 28 (.int .i64 nn) hS2 ?_; go_frame
   refine tg 21 29 (.int .i64 er) hS2 ?_; go_frame
   obtain ⟨u7, hst7, h7, hg7⟩ := run_storeVar_at (P := Tryz.prog) (ty := 68) (o := 0) (vs := [.int .i64 rt, .int .u16 ri, .int .i64 rv, .string rs]) hBB (sizeRow _ _ _ _) (Nat.le_refl _) (one_l rfl)
   have h7 : RowV 68 u7 B [.int .i64 rt, .int .u16 ri, .int .i64 rv, .string rs] := h7
   have hr7 := hr2.new hg7 (by have h1 := hgrs.out; omega) (Ne.symm hrB.2.1) hrB.2.2
   have st7 := st2.own hg7 (by omega)
   have hS7 := hS2.new hg7 hrB.2.1 (by omega)
   refine held_skip (i := 23) (dst := none) (w' := u7) rfl rfl (by kernel_rfl) rfl (run_store_op rfl rfl rfl hst7) hS7 ?_
   go_frame
   refine tg 24 6 (.int .i64 nn) hS7 ?_; go_frame
   refine tg 25 7 (.int .i64 er) hS7 ?_; go_frame
   refine wpAnyH_done (by kernel_rfl) ?_ _
   have hres7 := hS7.res
   have hBB7 := Lib.hid h7
   have hr7 := Lib.hid hr7
   have st7 := Lib.hid st7
   have htk := Lib.hid htk
   have hlo7 : Hid (w.heap.size < u7.heap.size) := by show _ < _; have h1 := h7.lt; omega
   have hBlo := Lib.hid hBlo
   have hrB := Lib.hid hrB
   clear hst7 h7 hg7 hS7 hS2 hr2 st2 hBB hS0 hr0 st0 
   by_cases he : er = 0
   · subst he
     have c0 : u7.cell? ⟨g, 0, none⟩ = some (.pointer (some ⟨gr, 0, none⟩)) := hr7.out.row.cell 0
     go_wp2_with fail
     refine (rrRaw nn ⟨q, n, c, hr7.out⟩).mono ?_
     clear c0
     rintro e u9 ⟨q9, n9, c9, rfl, hs9, hr9⟩
     have bB : Hid (RowV 68 u9 B [.int .i64 rt, .int .u16 ri, .int .i64 rv, .string rs]) := hs9.row hBB7.out (Ne.symm hrB.out.2.1) (Ne.symm hrB.out.1)
     obtain ⟨vz, hvl, hvr⟩ := hres7
     have bR : Hid (RowV 68 u9 w.heap.size vz) := hs9.row hvr (by have h1 := hgs.out; omega) (by have h1 := hgrs.out; omega)
     have hs9 := Lib.hid hs9
     have hr9 := Lib.hid hr9
     have hvl := Lib.hid hvl
     have hzv : (Tryz.prog.info? 68).map (·.size) = some ([.int .i64 rt, .int .u16 ri, .int .i64 rv, .string rs] : List Value).length := (sizeRow _ _ _ _)
     have hfit : 0 + ([.int .i64 rt, .int .u16 ri, .int .i64 rv, .string rs] : List Value).length ≤ vz.length := by rw [hvl.out]; exact Nat.le_refl _
     have hone : ∀ x ∈ ([.int .i64 rt, .int .u16 ri, .int .i64 rv, .string rs] : List Value), x.oneCell' = true := one_l rfl
     clear hvr
     go_wp2_with (first
      | (with_reducible refine wpList_load_at rfl 68 (.tmp 5) rfl Tryz.underlying68 rfl hzv rfl bB.out.boxed.all ?_)
      | ((with_reducible refine wpList_store_at rfl 68 (.tmp 4) (.tmp 41) rfl (o := 0) (vs := [.int .i64 rt, .int .u16 ri, .int .i64 rv, .string rs]) rfl rfl bR.out hzv hfit hone ?_)
         intro wz h9 hg9
         have rz : Hid (RowV 68 wz w.heap.size [.int .i64 rt, .int .u16 ri, .int .i64 rv, .string rs]) := by have h1 := h9; rw [splice_all _ _ (by rw [hvl.out]; rfl)] at h1; exact h1
         have gz := Lib.hid hg9
         clear h9 hg9))
     have m0 : wz.cell? ⟨w.heap.size, 0, none⟩ = some (.int .i64 rt) := rz.out.cell 0
     have m1 : wz.cell? ⟨w.heap.size, 1, none⟩ = some (.int .u16 ri) := rz.out.cell 1
     have m2 : wz.cell? ⟨w.heap.size, 2, none⟩ = some (.int .i64 rv) := rz.out.cell 2
     have m3 : wz.cell? ⟨w.heap.size, 3, none⟩ = some (.string rs) := rz.out.cell 3
     refine bodyPost_ret (v := .agg #[.int .i64 rt, .int .u16 ri, .int .i64 rv, .string rs]) (by simp [results, Tryz.results138, go_sem, m0, m1, m2, m3]) rfl ?_
     exact ⟨⟨⟨rt, ri⟩, rv, rs⟩, _, rfl, ⟨nn, _, htk.out, by rw [show ((⟨ts, tb⟩ : RSt).nx nn) = ⟨ts.next nn, tb⟩ from rfl]; simp⟩, ((st7.out.trans hs9.out).own gz.out (Nat.le_refl _)), (hr9.out.new gz.out hgrs.out (by have h1 := hgs.out; omega) hdn.out)⟩
   · have d2 : (er != 0) = true := by simpa using he
     have c2 : u7.cell? ⟨g, 2, none⟩ = some (.bool tb) := hr7.out.row.cell 2
     have f2 : u7.frozen? ⟨g, 2, none⟩ = false := hr7.out.row.free 2
     obtain ⟨u8, hu8⟩ : ∃ y, u7.setCell ⟨g, 2, none⟩ (.bool true) = y := ⟨_, rfl⟩
     have hw8 := hr7.out.wrong
     have hg8 := setCell_grown u7 g 2 (.bool true)
     rw [hu8] at hw8 hg8
     have c0 : u8.cell? ⟨g, 0, none⟩ = some (.pointer (some ⟨gr, 0, none⟩)) := hw8.row.cell 0
     have hw8 := Lib.hid hw8
     have hg8 := Lib.hid hg8
     have he := Lib.hid he
     go_wp2_with fail
     clear hu8 c2 f2
     refine (rrRaw nn ⟨q, n, c, hw8.out⟩).mono ?_
     clear c0
     rintro e u9 ⟨q9, n9, c9, rfl, hs9', hr9⟩
     have hs9 := (RStep.of_g (gr := gr) hg8.out).trans hs9'
     have bB : Hid (RowV 68 u9 B [.int .i64 rt, .int .u16 ri, .int .i64 rv, .string rs]) := hs9.row hBB7.out (Ne.symm hrB.out.2.1) (Ne.symm hrB.out.1)
     obtain ⟨vz, hvl, hvr⟩ := hres7
     have bR : Hid (RowV 68 u9 w.heap.size vz) := hs9.row hvr (by have h1 := hgs.out; omega) (by have h1 := hgrs.out; omega)
     have hs9 := Lib.hid hs9
     have hr9 := Lib.hid hr9
     have hvl := Lib.hid hvl
     have hzv : (Tryz.prog.info? 68).map (·.size) = some ([.int .i64 rt, .int .u16 ri, .int .i64 rv, .string rs] : List Value).length := (sizeRow _ _ _ _)
     have hfit : 0 + ([.int .i64 rt, .int .u16 ri, .int .i64 rv, .string rs] : List Value).length ≤ vz.length := by rw [hvl.out]; exact Nat.le_refl _
     have hone : ∀ x ∈ ([.int .i64 rt, .int .u16 ri, .int .i64 rv, .string rs] : List Value), x.oneCell' = true := one_l rfl
     clear hvr
     go_wp2_with (first
      | (with_reducible refine wpList_load_at rfl 68 (.tmp 5) rfl Tryz.underlying68 rfl hzv rfl bB.out.boxed.all ?_)
      | ((with_reducible refine wpList_store_at rfl 68 (.tmp 4) (.tmp 41) rfl (o := 0) (vs := [.int .i64 rt, .int .u16 ri, .int .i64 rv, .string rs]) rfl rfl bR.out hzv hfit hone ?_)
         intro wz h9 hg9
         have rz : Hid (RowV 68 wz w.heap.size [.int .i64 rt, .int .u16 ri, .int .i64 rv, .string rs]) := by have h1 := h9; rw [splice_all _ _ (by rw [hvl.out]; rfl)] at h1; exact h1
         have gz := Lib.hid hg9
         clear h9 hg9))
     have m0 : wz.cell? ⟨w.heap.size, 0, none⟩ = some (.int .i64 rt) := rz.out.cell 0
     have m1 : wz.cell? ⟨w.heap.size, 1, none⟩ = some (.int .u16 ri) := rz.out.cell 1
     have m2 : wz.cell? ⟨w.heap.size, 2, none⟩ = some (.int .i64 rv) := rz.out.cell 2
     have m3 : wz.cell? ⟨w.heap.size, 3, none⟩ = some (.string rs) := rz.out.cell 3
     refine bodyPost_ret (v := .agg #[.int .i64 rt, .int .u16 ri, .int .i64 rv, .string rs]) (by simp [results, Tryz.results138, go_sem, m0, m1, m2, m3]) rfl ?_
     exact ⟨⟨⟨rt, ri⟩, rv, rs⟩, _, rfl, ⟨nn, _, htk.out, by rw [show ((⟨ts, true⟩ : RSt).nx nn) = ⟨ts.next nn, true⟩ from rfl]; simp [he.out]⟩, ((st7.out.trans hs9.out).own gz.out (Nat.le_refl _)), (hr9.out.new gz.out hgrs.out (by have h1 := hgs.out; omega) hdn.out)⟩
end Go.Proofs.YtocekhckmpkbmaaGreat
