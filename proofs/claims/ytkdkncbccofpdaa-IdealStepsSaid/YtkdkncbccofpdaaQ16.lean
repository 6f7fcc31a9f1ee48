/- done of ideal: a transaction behind a request that may be. -/
import Derived.Test.YtkdkncbccofpdaaQ15
namespace Go.Proofs.Ytkdkncbccofpdaa
open Go.RowKit Go.ChangeMaps
set_option maxRecDepth 100000
def DonePost (r : SerD × AnsD) (w : World) (e : Ending) (w' : World) : Prop :=
 ∃ (v : SV) (u : AV), e = .returned (.tuple #[.agg v.cells.toArray, .agg u.cells.toArray]) ∧ v.Own w' r.1 ∧ u.Own w' r.2 ∧ Below w.heap.size w w'
set_option maxHeartbeats 8000000 in
theorem done_any (tq : Option Addr) (tn tc : Nat) (rq : Option Addr) (rn rc : Nat) (bq : Option Addr) (bn bc : Nat) (mq : Option Addr) (mn mc : Nat) (o : Bool) (qk kt ki tt ti qv : Int) (qs : ByteArray) (qn : Int) (x : SerD) (w : World) (hx : (⟨tq, tn, tc, rq, rn, rc, bq, bn, bc, mq, mn, mc, o⟩ : SV).On w x) (hd : DoOk x ⟨qk, ⟨kt, ki⟩, ⟨tt, ti⟩, qv, qs, qn⟩) :
 Calls Try.prog 38 #[.agg #[.slice tq tn tc, .slice rq rn rc, .slice bq bn bc, .slice mq mn mc, .bool o], .agg #[.int .i64 qk, .int .i64 kt, .int .u16 ki, .int .i64 tt, .int .u16 ti, .int .i64 qv, .string qs, .int .i64 qn]] w (DonePost (stepW x ⟨qk, ⟨kt, ki⟩, ⟨tt, ti⟩, qv, qs, qn⟩) w) := by
 obtain ⟨W, hW⟩ : ∃ W, (((w.alloc (.cells #[.slice tq tn tc, .slice rq rn rc, .slice bq bn bc, .slice mq mn mc, .bool o] 46)).alloc (.cells #[.int .i64 qk, .int .i64 kt, .int .u16 ki, .int .i64 tt, .int .u16 ti, .int .i64 qv, .string qs, .int .i64 qn] 30)).alloc (.cells #[.slice none 0 0, .slice none 0 0, .slice none 0 0, .slice none 0 0, .bool false] 46)).alloc (.cells #[.int .i64 0, .slice none 0 0, .int .i64 0] 35) = W := ⟨_, rfl⟩
 have hbx := Lib.hid (four_rowsI (xs := [.slice tq tn tc, .slice rq rn rc, .slice bq bn bc, .slice mq mn mc, .bool o]) (ys := [.int .i64 qk, .int .i64 kt, .int .u16 ki, .int .i64 tt, .int .u16 ti, .int .i64 qv, .string qs, .int .i64 qn]) (zs := [.slice none 0 0, .slice none 0 0, .slice none 0 0, .slice none 0 0, .bool false]) (us := [.int .i64 0, .slice none 0 0, .int .i64 0]) hW)
 have b0 := Lib.hid hbx.out.1
 have s0 := Lib.hid hbx.out.2.1
 have q0 := Lib.hid hbx.out.2.2.1
 have z0 : Hid (RowV 46 W (w.heap.size + 1 + 1) [.slice none 0 0, .slice none 0 0, .slice none 0 0, .slice none 0 0, .bool false]) := hbx.out.2.2.2.1
 have a0 : Hid (RowV 35 W (w.heap.size + 1 + 1 + 1) [.int .i64 0, .slice none 0 0, .int .i64 0]) := hbx.out.2.2.2.2.1
 have hsz := Lib.hid hbx.out.2.2.2.2.2
 have hx' := Lib.hid hx
 have hd' := Lib.hid hd
 have hs1 := sizeSer (.slice tq tn tc) (.slice rq rn rc) (.slice bq bn bc) (.slice mq mn mc) (.bool o)
 have hs2 := sizeReq (.int .i64 qk) (.int .i64 kt) (.int .u16 ki) (.int .i64 tt) (.int .u16 ti) (.int .i64 qv) (.string qs) (.int .i64 qn)
 clear hx hd hbx
 go_enter Try.func38, Try.ntmps38
 go_wp2
 refine wp_region_held (S := fun u => RowV 46 u w.heap.size [.slice tq tn tc, .slice rq rn rc, .slice bq bn bc, .slice mq mn mc, .bool o] ∧ RowV 30 u (w.heap.size + 1) [.int .i64 qk, .int .i64 kt, .int .u16 ki, .int .i64 tt, .int .u16 ti, .int .i64 qv, .string qs, .int .i64 qn]) (by kernel_rfl) ?_
 change wpAnyH _ _ _ _ _ _ _ _ (World.drew W)
 have hX0 : Hid ((fun u : World => RowV 46 u w.heap.size [.slice tq tn tc, .slice rq rn rc, .slice bq bn bc, .slice mq mn mc, .bool o] ∧ RowV 30 u (w.heap.size + 1) [.int .i64 qk, .int .i64 kt, .int .u16 ki, .int .i64 tt, .int .u16 ti, .int .i64 qv, .string qs, .int .i64 qn]) W.drew) := ⟨s0.out, q0.out⟩
 refine held_tk (i := 0) (dst := some 8) (v := .agg #[.slice tq tn tc, .slice rq rn rc, .slice bq bn bc, .slice mq mn mc, .bool o]) rfl rfl (y_load_agg 46 (.tmp 2) rfl rfl rfl (fun u hu => run_loadVar_at Try.underlying46 rfl hs1 _ hu.1.boxed.all)) hX0.out ?_
 go_frame
 refine held_tk (i := 2) (dst := some 10) (v := .agg #[.int .i64 qk, .int .i64 kt, .int .u16 ki, .int .i64 tt, .int .u16 ti, .int .i64 qv, .string qs, .int .i64 qn]) rfl rfl (y_load_agg 30 (.tmp 3) rfl rfl rfl (fun u hu => run_loadVar_at Try.underlying30 rfl hs2 _ hu.2.boxed.all)) hX0.out ?_
 go_frame
 have hcp : Calls Try.prog 50 #[.agg #[.slice tq tn tc, .slice rq rn rc, .slice bq bn bc, .slice mq mn mc, .bool o]] W.drew (SerPost W.drew x) := copied_any ⟨tq, tn, tc, rq, rn, rc, bq, bn, bc, mq, mn, mc, o⟩ x W.drew ((hx'.out.below b0.out (Nat.le_refl _)).below (below_drew _) (Nat.le_refl _)) hd'.out.few
 refine held_call (i := 1) (dst := some 9) rfl rfl (by kernel_rfl) rfl (by go_simp) hcp ?_
 rintro e u1 ⟨⟨vt, vtn, vtc, vr, vrn, vrc, vb, vbn, vbc, vm, vmn, vmc, vo⟩, he, ho, hb⟩
 have he' : e = .returned (.agg #[.slice vt vtn vtc, .slice vr vrn vrc, .slice vb vbn vbc, .slice vm vmn vmc, .bool vo]) := he
 subst he'
 have hb1 : Below W.heap.size W u1 := (below_drew W).trans hb
 have hX1 : Hid ((fun u : World => RowV 46 u w.heap.size [.slice tq tn tc, .slice rq rn rc, .slice bq bn bc, .slice mq mn mc, .bool o] ∧ RowV 30 u (w.heap.size + 1) [.int .i64 qk, .int .i64 kt, .int .u16 ki, .int .i64 tt, .int .u16 ti, .int .i64 qv, .string qs, .int .i64 qn]) u1) := ⟨s0.out.below hb1, q0.out.below hb1⟩
 refine ⟨_, rfl, hX1.out, ?_⟩
 go_frame
 refine held_tk (i := 3) (dst := some 11) (v := .agg #[.slice vt vtn vtc, .slice vr vrn vrc, .slice vb vbn vbc, .slice vm vmn vmc, .bool vo, .int .i64 qk, .int .i64 kt, .int .u16 ki, .int .i64 tt, .int .u16 ti, .int .i64 qv, .string qs, .int .i64 qn]) rfl rfl (.inl ⟨rfl, fun u _ => by go_simp⟩) hX1.out ?_
 go_frame
 obtain ⟨u2, hu2⟩ : ∃ u2, u1.alloc (.cells #[.slice vt vtn vtc, .slice vr vrn vrc, .slice vb vbn vbc, .slice vm vmn vmc, .bool vo, .int .i64 qk, .int .i64 kt, .int .u16 ki, .int .i64 tt, .int .u16 ti, .int .i64 qv, .string qs, .int .i64 qn] 94) = u2 := ⟨_, rfl⟩
 have hbx2 := one_rowI (xs := [.slice vt vtn vtc, .slice vr vrn vrc, .slice vb vbn vbc, .slice vm vmn vmc, .bool vo, .int .i64 qk, .int .i64 kt, .int .u16 ki, .int .i64 tt, .int .u16 ti, .int .i64 qv, .string qs, .int .i64 qn]) hu2
 have hb2 : Below W.heap.size W u2 := hb1.trans (hbx2.1.mono hb1.size)
 have hX2 : Hid ((fun u : World => RowV 46 u w.heap.size [.slice tq tn tc, .slice rq rn rc, .slice bq bn bc, .slice mq mn mc, .bool o] ∧ RowV 30 u (w.heap.size + 1) [.int .i64 qk, .int .i64 kt, .int .u16 ki, .int .i64 tt, .int .u16 ti, .int .i64 qv, .string qs, .int .i64 qn]) u2) := ⟨s0.out.below hb2, q0.out.below hb2⟩
 refine held_value (i := 4) (dst := some 12) (w' := u2) (v := .pointer (some ⟨u1.heap.size, 0, none⟩)) rfl rfl (by kernel_rfl) rfl (by rw [← hu2]; go_simp) hX2.out ?_
 go_frame
 refine held_tk (i := 5) (dst := some 6) (v := .pointer (some ⟨u1.heap.size, 0, none⟩)) rfl rfl (.inl ⟨rfl, fun u _ => by go_simp⟩) hX2.out ?_
 go_frame
 refine wpAnyH_done (by kernel_rfl) ?_ _
 have o2 : Hid ((⟨vt, vtn, vtc, vr, vrn, vrc, vb, vbn, vbc, vm, vmn, vmc, vo⟩ : SV).Own u2 x) := ho.below hbx2.1
 obtain ⟨G, hG⟩ : ∃ G, u1.heap.size = G := ⟨_, rfl⟩
 rw [hG] at hbx2
 rw [hG]
 have hGlow : W.heap.size ≤ G := by rw [← hG]; exact hb1.size
 have g2 : Hid (RowV 94 u2 G [.slice vt vtn vtc, .slice vr vrn vrc, .slice vb vbn vbc, .slice vm vmn vmc, .bool vo, .int .i64 qk, .int .i64 kt, .int .u16 ki, .int .i64 tt, .int .u16 ti, .int .i64 qv, .string qs, .int .i64 qn]) := hbx2.2.1
 have b2 := Lib.hid (b0.out.trans (hb2.mono b0.out.size))
 have q2 := Lib.hid hX2.out.2
 have z2 := Lib.hid (z0.out.below hb2)
 have a2 := Lib.hid (a0.out.below hb2)
 have hGlt : G < u2.heap.size := g2.out.lt
 have hWw : w.heap.size + 4 ≤ G := by have h1 := hsz.out; omega
 clear hX0 hX1 hX2 hb hb1 hb2 hbx2 ho he hcp s0 q0 z0 a0 hu2 hG hW b0 hx'
 obtain ⟨FF, hkf, hcf, hcall⟩ := meth_any G ⟨vt, vtn, vtc, vr, vrn, vrc, vb, vbn, vbc, vm, vmn, vmc, vo⟩ x ⟨qk, ⟨kt, ki⟩, ⟨tt, ti⟩, qv, qs, qn⟩ hd'.out
 have hkf' : Hid (kindsF G qk = some (fnW FF G)) := hkf
 have hcall' := Lib.hid hcall
 obtain ⟨res, hres⟩ : ∃ res, stepW x ⟨qk, ⟨kt, ki⟩, ⟨tt, ti⟩, qv, qs, qn⟩ = res := ⟨_, rfl⟩
 rw [hres] at hcall'
 have hres' := Lib.hid hres
 have y0 : u2.cell? ⟨w.heap.size + 1, 0, none⟩ = some (.int .i64 qk) := q2.out.cell 0
 clear hkf hcall hres
 go_wp2
 refine wp_region_held (S := fun u => u.cell? ⟨w.heap.size + 1, 0, none⟩ = some (.int .i64 qk)) (by kernel_rfl) ?_
 change wpAnyH _ _ _ _ _ _ _ _ (World.drew u2)
 have hX0 : Hid ((fun u : World => u.cell? ⟨w.heap.size + 1, 0, none⟩ = some (.int .i64 qk)) u2.drew) := y0
 refine held_tk (i := 0) (dst := some 13) (v := .pointer (some ⟨G, 0, none⟩)) rfl rfl (y_move (.tmp 6) rfl rfl rfl) hX0.out ?_
 go_frame
 refine held_tk (i := 2) (dst := some 15) (v := .pointer (some ⟨w.heap.size + 1, 0, none⟩)) rfl rfl (.inl ⟨rfl, fun u _ => by go_simp⟩) hX0.out ?_
 go_frame
 refine tg 3 16 (.int .i64 qk) hX0.out ?_
 go_frame
 have hlk : ∀ (u : World) (mb nn : Nat), IMap .i64 u mb nn (kindsF G) → (Instr.lookup 96 (.map (some mb)) (.int .i64 qk) false).run Try.prog u = .ok (.func (.func FF) #[.pointer (some ⟨G, 0, none⟩)] #[]) u := fun u mb nn hm => by
  have hz : (zeroValue 95).run Try.prog u = .ok (.nilFunc) u := by kernel_rfl
  have h := (run_lookup_i hm Try.underlying96 Try.underlying3 qk hz).2
  rw [hkf'.out] at h
  exact h
 refine any_two (i := 1) (j := 6) (by kernel_rfl) ?_ ?_
 · refine call_op (dst := some 14) rfl rfl rfl (by go_simp) (kinds_any G u2.drew) ?_
   rintro e u3 ⟨mb, nn, rfl, hmap, hmb, hb⟩
   have hb3 : Below u2.heap.size u2 u3 := (below_drew u2).trans hb
   have g3 := Lib.hid (g2.out.below hb3)
   have q3 := Lib.hid (q2.out.below hb3)
   have z3 := Lib.hid (z2.out.below hb3)
   have a3 := Lib.hid (a2.out.below hb3)
   have o3 := Lib.hid (o2.out.below hb3)
   have b3 := Lib.hid (b2.out.trans (hb3.mono b2.out.size))
   have hmp := Lib.hid hmap
   have l3 : u2.heap.size ≤ u3.heap.size := hb3.size
   have h3 := hlk u3 mb nn hmap
   clear hmap hb hb3
   refine ⟨_, rfl, q3.out.cell 0, ?_⟩
   go_frame
   refine any_two (i := 4) (j := 6) (by kernel_rfl) ?_ ?_
   · refine value_op (dst := some 17) (w' := u3) (v := .func (.func FF) #[.pointer (some ⟨G, 0, none⟩)] #[]) rfl rfl rfl (by go_simp) ⟨q3.out.cell 0, ?_⟩
     go_frame
     clear h3
     refine any_two (i := 5) (j := 6) (by kernel_rfl) ?_ ?_
     · refine call_op (dst := some 18) rfl rfl rfl (by go_simp) (hcall'.out u3 g3.out o3.out) ?_
       rintro e u5 ⟨⟨pt, ptn, ptc, pr, prn, prc, pb, pbn, pbc, pm, pmn, pmc, po⟩, ⟨ae, aq, an, ac, ak⟩, he, h1, h2, h3, h4⟩
       have he' : e = .returned (.agg #[.int .i64 ae, .slice aq an ac, .int .i64 ak]) := he
       subst he'
       have g5 : Hid (RowV 94 u5 G [.slice pt ptn ptc, .slice pr prn prc, .slice pb pbn pbc, .slice pm pmn pmc, .bool po, .int .i64 qk, .int .i64 kt, .int .u16 ki, .int .i64 tt, .int .u16 ti, .int .i64 qv, .string qs, .int .i64 qn]) := h1
       have o5 := Lib.hid h2
       have n5 := Lib.hid h3
       have q5 := Lib.hid (q3.out.kept h4 (by omega))
       have z5 := Lib.hid (z3.out.kept h4 (by omega))
       have a5 := Lib.hid (a3.out.kept h4 (by omega))
       have b5 := Lib.hid (b3.out.grown h4 b3.out.size (fun k hk => by cases hk; omega))
       refine ⟨_, rfl, q5.out.cell 0, ?_⟩
       go_frame
       clear he h1 h2 h3 h4
       have l5 : G < u5.heap.size := g5.out.lt
       obtain ⟨ua, hua⟩ : ∃ u, u5.alloc (.cells #[.int .i64 0, .slice none 0 0, .int .i64 0] 35) = u := ⟨_, rfl⟩
       have hbxua := one_rowI (xs := [.int .i64 0, .slice none 0 0, .int .i64 0]) hua
       have g5 := Lib.hid (g5.out.below hbxua.1)
       have q5 := Lib.hid (q5.out.below hbxua.1)
       have z5 := Lib.hid (z5.out.below hbxua.1)
       have a5 := Lib.hid (a5.out.below hbxua.1)
       have o5 := Lib.hid (o5.out.below hbxua.1)
       have n5 := Lib.hid (n5.out.below hbxua.1)
       have b5 := Lib.hid (b5.out.trans (hbxua.1.mono b5.out.size))
       have x5 := Lib.hid hbxua.2.1
       refine held_value (i := 6) (dst := some 7) (w' := ua) (v := .pointer (some ⟨u5.heap.size, 0, none⟩)) rfl rfl (by kernel_rfl) rfl (by rw [← hua]; go_simp) (q5.out.cell 0) ?_
       go_frame
       clear hbxua hua
       have hRG : G < u5.heap.size := by omega
       obtain ⟨u6, hst, h4, hg4⟩ := run_storeVar_at (P := Try.prog) (ty := 35) (o := 0) (vs := [.int .i64 ae, .slice aq an ac, .int .i64 ak]) x5.out (sizeAns _ _ _) (Nat.le_refl _) (ans_one _ _ _ _ _)
       have x6 : Hid (RowV 35 u6 (u5.heap.size) [.int .i64 ae, .slice aq an ac, .int .i64 ak]) := h4
       have g6 := Lib.hid (g5.out.kept hg4 (by omega))
       have q6 := Lib.hid (q5.out.kept hg4 (by omega))
       have z6 := Lib.hid (z5.out.kept hg4 (by omega))
       have a6 := Lib.hid (a5.out.kept hg4 (by omega))
       have o6 := Lib.hid (o5.out.ga hg4 x5.out)
       have n6 := Lib.hid (n5.out.ga hg4 x5.out)
       have b6 := Lib.hid (b5.out.grown hg4 b5.out.size (fun k hk => by cases hk; omega))
       refine held_skip (i := 7) (dst := none) (w' := u6) rfl rfl (by kernel_rfl) rfl (run_store_op rfl rfl rfl hst) (q6.out.cell 0) ?_
       go_frame
       refine wpAnyH_done (by kernel_rfl) ?_ _
       clear hst h4 hg4 x5 g5 q5 z5 a5 o5 n5 b5 hX0 y0
       go_wp2
       refine wp_region_x (by kernel_rfl) 6 (fun u => RowV 94 u G [.slice pt ptn ptc, .slice pr prn prc, .slice pb pbn pbc, .slice pm pmn pmc, .bool po, .int .i64 qk, .int .i64 kt, .int .u16 ki, .int .i64 tt, .int .u16 ti, .int .i64 qv, .string qs, .int .i64 qn] ∧ RowV 35 u (u5.heap.size) [.int .i64 ae, .slice aq an ac, .int .i64 ak]) ?_
       change wpAnyX _ _ _ _ _ _ _ _ _ (World.drew u6)
       have hX6 : Hid ((fun u : World => RowV 94 u G [.slice pt ptn ptc, .slice pr prn prc, .slice pb pbn pbc, .slice pm pmn pmc, .bool po, .int .i64 qk, .int .i64 kt, .int .u16 ki, .int .i64 tt, .int .u16 ti, .int .i64 qv, .string qs, .int .i64 qn] ∧ RowV 35 u (u5.heap.size) [.int .i64 ae, .slice aq an ac, .int .i64 ak]) u6.drew) := ⟨g6.out, x6.out⟩
       refine x_pu (i := 0) (dst := some 19) (v := .pointer (some ⟨G, 0, none⟩)) rfl rfl (y_move (.tmp 6) rfl rfl rfl) (fun _ => hX6.out) ?_
       go_frame
       refine x_pu (i := 1) (dst := some 20) (v := .pointer (some ⟨G, 0, none⟩)) rfl rfl (.inl ⟨rfl, fun u _ => by go_simp⟩) (fun _ => hX6.out) ?_
       go_frame
       refine x_pu (i := 2) (dst := some 21) (v := .pointer (some ⟨G, 0, none⟩)) rfl rfl (.inl ⟨rfl, fun u _ => by go_simp⟩) (fun _ => hX6.out) ?_
       go_frame
       refine x_tk (i := 3) (dst := some 22) (v := .agg #[.slice pt ptn ptc, .slice pr prn prc, .slice pb pbn pbc, .slice pm pmn pmc, .bool po]) rfl rfl (y_load_agg 46 (.tmp 21) rfl rfl rfl (fun u hu => run_loadVar_at Try.underlying46 rfl (sizeSer _ _ _ _ _) _ (hu.1.part (pre := []) (vs := [.slice pt ptn ptc, .slice pr prn prc, .slice pb pbn pbc, .slice pm pmn pmc, .bool po]) (rest := [.int .i64 qk, .int .i64 kt, .int .u16 ki, .int .i64 tt, .int .u16 ti, .int .i64 qv, .string qs, .int .i64 qn]) rfl rfl))) hX6.out ?_
       go_frame
       refine x_tk (i := 4) (dst := some 23) (v := .agg #[.int .i64 ae, .slice aq an ac, .int .i64 ak]) rfl rfl (y_load_agg 35 (.tmp 7) rfl rfl rfl (fun u hu => run_loadVar_at Try.underlying35 rfl (sizeAns _ _ _) _ hu.2.boxed.all)) hX6.out ?_
       go_frame
       obtain ⟨u7, hst7, h7, hg70⟩ := run_storeVar_at (P := Try.prog) (w := u6.drew) (ty := 46) (o := 0) (vs := [.slice pt ptn ptc, .slice pr prn prc, .slice pb pbn pbc, .slice pm pmn pmc, .bool po]) z6.out (sizeSer _ _ _ _ _) (Nat.le_refl _) (ser_one' _ _ _ _ _ _ _ _ _ _ _ _ _)
       have hg7 : u6.grownBy u7 (some (w.heap.size + 1 + 1)) := ⟨hg70.os, hg70.tape, hg70.output, hg70.size, hg70.block⟩
       have z7 : Hid (RowV 46 u7 (w.heap.size + 1 + 1) [.slice pt ptn ptc, .slice pr prn prc, .slice pb pbn pbc, .slice pm pmn pmc, .bool po]) := h7
       have hX7 : Hid ((fun u : World => RowV 94 u G [.slice pt ptn ptc, .slice pr prn prc, .slice pb pbn pbc, .slice pm pmn pmc, .bool po, .int .i64 qk, .int .i64 kt, .int .u16 ki, .int .i64 tt, .int .u16 ti, .int .i64 qv, .string qs, .int .i64 qn] ∧ RowV 35 u (u5.heap.size) [.int .i64 ae, .slice aq an ac, .int .i64 ak]) u7) := ⟨g6.out.kept hg7 (by omega), x6.out.kept hg7 (by omega)⟩
       have a7 := Lib.hid (a6.out.kept hg7 (by omega))
       have o7 := Lib.hid (o6.out.gs hg7 z6.out)
       have n7 := Lib.hid (n6.out.gs hg7 z6.out)
       have b7 := Lib.hid (b6.out.grown hg7 b6.out.size (fun k hk => by cases hk; omega))
       refine x_skip (i := 5) (dst := none) (w' := u7) rfl rfl (by kernel_rfl) rfl (run_store_op rfl rfl rfl hst7) (fun _ => hX7.out) ?_
       go_frame
       obtain ⟨u8, hst8, h8, hg8⟩ := run_storeVar_at (P := Try.prog) (ty := 35) (o := 0) (vs := [.int .i64 ae, .slice aq an ac, .int .i64 ak]) a7.out (sizeAns _ _ _) (Nat.le_refl _) (ans_one _ _ _ _ _)
       have z8 := Lib.hid (z7.out.kept hg8 (by omega))
       have a8 : Hid (RowV 35 u8 (w.heap.size + 1 + 1 + 1) [.int .i64 ae, .slice aq an ac, .int .i64 ak]) := h8
       have o8 := Lib.hid (o7.out.ga hg8 a7.out)
       have n8 := Lib.hid (n7.out.ga hg8 a7.out)
       have b8 := Lib.hid (b7.out.grown hg8 b7.out.size (fun k hk => by cases hk; omega))
       refine x_skip (i := 6) (dst := none) (w' := u8) rfl rfl (by kernel_rfl) rfl (run_store_op rfl rfl rfl hst8) (x_gone (by kernel_rfl)) ?_
       go_frame
       refine x_done (by kernel_rfl) ?_
       clear hst7 h7 hg7 hg70 hst8 h8 hg8 hX6 hX7 z7 a7 o7 n7 b7 z6 a6 o6 n6 b6 x6 g6 q6
       go_wp2
       have m0 := z8.out.cell 0
       have m1 := z8.out.cell 1
       have m2 := z8.out.cell 2
       have m3 := z8.out.cell 3
       have m4 := z8.out.cell 4
       have k0 := a8.out.cell 0
       have k1 := a8.out.cell 1
       have k2 := a8.out.cell 2
       simp only [List.getElem?_cons_zero, List.getElem?_cons_succ] at m0 m1 m2 m3 m4 k0 k1 k2
       refine bodyPost_ret (v := .tuple #[.agg #[.slice pt ptn ptc, .slice pr prn prc, .slice pb pbn pbc, .slice pm pmn pmc, .bool po], .agg #[.int .i64 ae, .slice aq an ac, .int .i64 ak]]) (by simp [results, Try.results38, go_sem, m0, m1, m2, m3, m4, k0, k1, k2]) rfl ?_
       exact ⟨⟨pt, ptn, ptc, pr, prn, prc, pb, pbn, pbc, pm, pmn, pmc, po⟩, ⟨ae, aq, an, ac, ak⟩, rfl, (by rw [hres'.out]; exact o8.out), (by rw [hres'.out]; exact n8.out), b8.out⟩
     · obtain ⟨ua, hua⟩ : ∃ u, u3.alloc (.cells #[.int .i64 0, .slice none 0 0, .int .i64 0] 35) = u := ⟨_, rfl⟩
       have hbxua := one_rowI (xs := [.int .i64 0, .slice none 0 0, .int .i64 0]) hua
       have g4 := Lib.hid (g3.out.below hbxua.1)
       have q4 := Lib.hid (q3.out.below hbxua.1)
       have z4 := Lib.hid (z3.out.below hbxua.1)
       have a4 := Lib.hid (a3.out.below hbxua.1)
       have o4 := Lib.hid (o3.out.below hbxua.1)
       have b4 := Lib.hid (b3.out.trans (hbxua.1.mono b3.out.size))
       have x4 := Lib.hid hbxua.2.1
       refine value_op (dst := some 7) (w' := ua) (v := .pointer (some ⟨u3.heap.size, 0, none⟩)) rfl rfl rfl (by rw [← hua]; go_simp) ⟨q4.out.cell 0, ?_⟩
       go_frame
       clear hbxua hua
       refine held_call (i := 5) (dst := some 18) rfl rfl (by kernel_rfl) rfl (by go_simp) (hcall'.out ua g4.out o4.out) ?_
       rintro e u5 ⟨⟨pt, ptn, ptc, pr, prn, prc, pb, pbn, pbc, pm, pmn, pmc, po⟩, ⟨ae, aq, an, ac, ak⟩, he, h1, h2, h3, h4⟩
       have he' : e = .returned (.agg #[.int .i64 ae, .slice aq an ac, .int .i64 ak]) := he
       subst he'
       have g5 : Hid (RowV 94 u5 G [.slice pt ptn ptc, .slice pr prn prc, .slice pb pbn pbc, .slice pm pmn pmc, .bool po, .int .i64 qk, .int .i64 kt, .int .u16 ki, .int .i64 tt, .int .u16 ti, .int .i64 qv, .string qs, .int .i64 qn]) := h1
       have o5 := Lib.hid h2
       have n5 := Lib.hid h3
       have q5 := Lib.hid (q4.out.kept h4 (by omega))
       have z5 := Lib.hid (z4.out.kept h4 (by omega))
       have a5 := Lib.hid (a4.out.kept h4 (by omega))
       have b5 := Lib.hid (b4.out.grown h4 b4.out.size (fun k hk => by cases hk; omega))
       refine ⟨_, rfl, q5.out.cell 0, ?_⟩
       go_frame
       have x5 := Lib.hid (x4.out.kept h4 (by omega))
       clear he h1 h2 h3 h4
       have hRG : G < u3.heap.size := by omega
       obtain ⟨u6, hst, h4, hg4⟩ := run_storeVar_at (P := Try.prog) (ty := 35) (o := 0) (vs := [.int .i64 ae, .slice aq an ac, .int .i64 ak]) x5.out (sizeAns _ _ _) (Nat.le_refl _) (ans_one _ _ _ _ _)
       have x6 : Hid (RowV 35 u6 (u3.heap.size) [.int .i64 ae, .slice aq an ac, .int .i64 ak]) := h4
       have g6 := Lib.hid (g5.out.kept hg4 (by omega))
       have q6 := Lib.hid (q5.out.kept hg4 (by omega))
       have z6 := Lib.hid (z5.out.kept hg4 (by omega))
       have a6 := Lib.hid (a5.out.kept hg4 (by omega))
       have o6 := Lib.hid (o5.out.ga hg4 x5.out)
       have n6 := Lib.hid (n5.out.ga hg4 x5.out)
       have b6 := Lib.hid (b5.out.grown hg4 b5.out.size (fun k hk => by cases hk; omega))
       refine held_skip (i := 7) (dst := none) (w' := u6) rfl rfl (by kernel_rfl) rfl (run_store_op rfl rfl rfl hst) (q6.out.cell 0) ?_
       go_frame
       refine wpAnyH_done (by kernel_rfl) ?_ _
       clear hst h4 hg4 x5 g5 q5 z5 a5 o5 n5 b5 hX0 y0
       go_wp2
       refine wp_region_x (by kernel_rfl) 6 (fun u => RowV 94 u G [.slice pt ptn ptc, .slice pr prn prc, .slice pb pbn pbc, .slice pm pmn pmc, .bool po, .int .i64 qk, .int .i64 kt, .int .u16 ki, .int .i64 tt, .int .u16 ti, .int .i64 qv, .string qs, .int .i64 qn] ∧ RowV 35 u (u3.heap.size) [.int .i64 ae, .slice aq an ac, .int .i64 ak]) ?_
       change wpAnyX _ _ _ _ _ _ _ _ _ (World.drew u6)
       have hX6 : Hid ((fun u : World => RowV 94 u G [.slice pt ptn ptc, .slice pr prn prc, .slice pb pbn pbc, .slice pm pmn pmc, .bool po, .int .i64 qk, .int .i64 kt, .int .u16 ki, .int .i64 tt, .int .u16 ti, .int .i64 qv, .string qs, .int .i64 qn] ∧ RowV 35 u (u3.heap.size) [.int .i64 ae, .slice aq an ac, .int .i64 ak]) u6.drew) := ⟨g6.out, x6.out⟩
       refine x_pu (i := 0) (dst := some 19) (v := .pointer (some ⟨G, 0, none⟩)) rfl rfl (y_move (.tmp 6) rfl rfl rfl) (fun _ => hX6.out) ?_
       go_frame
       refine x_pu (i := 1) (dst := some 20) (v := .pointer (some ⟨G, 0, none⟩)) rfl rfl (.inl ⟨rfl, fun u _ => by go_simp⟩) (fun _ => hX6.out) ?_
       go_frame
       refine x_pu (i := 2) (dst := some 21) (v := .pointer (some ⟨G, 0, none⟩)) rfl rfl (.inl ⟨rfl, fun u _ => by go_simp⟩) (fun _ => hX6.out) ?_
       go_frame
       refine x_tk (i := 3) (dst := some 22) (v := .agg #[.slice pt ptn ptc, .slice pr prn prc, .slice pb pbn pbc, .slice pm pmn pmc, .bool po]) rfl rfl (y_load_agg 46 (.tmp 21) rfl rfl rfl (fun u hu => run_loadVar_at Try.underlying46 rfl (sizeSer _ _ _ _ _) _ (hu.1.part (pre := []) (vs := [.slice pt ptn ptc, .slice pr prn prc, .slice pb pbn pbc, .slice pm pmn pmc, .bool po]) (rest := [.int .i64 qk, .int .i64 kt, .int .u16 ki, .int .i64 tt, .int .u16 ti, .int .i64 qv, .string qs, .int .i64 qn]) rfl rfl))) hX6.out ?_
       go_frame
       refine x_tk (i := 4) (dst := some 23) (v := .agg #[.int .i64 ae, .slice aq an ac, .int .i64 ak]) rfl rfl (y_load_agg 35 (.tmp 7) rfl rfl rfl (fun u hu => run_loadVar_at Try.underlying35 rfl (sizeAns _ _ _) _ hu.2.boxed.all)) hX6.out ?_
       go_frame
       obtain ⟨u7, hst7, h7, hg70⟩ := run_storeVar_at (P := Try.prog) (w := u6.drew) (ty := 46) (o := 0) (vs := [.slice pt ptn ptc, .slice pr prn prc, .slice pb pbn pbc, .slice pm pmn pmc, .bool po]) z6.out (sizeSer _ _ _ _ _) (Nat.le_refl _) (ser_one' _ _ _ _ _ _ _ _ _ _ _ _ _)
       have hg7 : u6.grownBy u7 (some (w.heap.size + 1 + 1)) := ⟨hg70.os, hg70.tape, hg70.output, hg70.size, hg70.block⟩
       have z7 : Hid (RowV 46 u7 (w.heap.size + 1 + 1) [.slice pt ptn ptc, .slice pr prn prc, .slice pb pbn pbc, .slice pm pmn pmc, .bool po]) := h7
       have hX7 : Hid ((fun u : World => RowV 94 u G [.slice pt ptn ptc, .slice pr prn prc, .slice pb pbn pbc, .slice pm pmn pmc, .bool po, .int .i64 qk, .int .i64 kt, .int .u16 ki, .int .i64 tt, .int .u16 ti, .int .i64 qv, .string qs, .int .i64 qn] ∧ RowV 35 u (u3.heap.size) [.int .i64 ae, .slice aq an ac, .int .i64 ak]) u7) := ⟨g6.out.kept hg7 (by omega), x6.out.kept hg7 (by omega)⟩
       have a7 := Lib.hid (a6.out.kept hg7 (by omega))
       have o7 := Lib.hid (o6.out.gs hg7 z6.out)
       have n7 := Lib.hid (n6.out.gs hg7 z6.out)
       have b7 := Lib.hid (b6.out.grown hg7 b6.out.size (fun k hk => by cases hk; omega))
       refine x_skip (i := 5) (dst := none) (w' := u7) rfl rfl (by kernel_rfl) rfl (run_store_op rfl rfl rfl hst7) (fun _ => hX7.out) ?_
       go_frame
       obtain ⟨u8, hst8, h8, hg8⟩ := run_storeVar_at (P := Try.prog) (ty := 35) (o := 0) (vs := [.int .i64 ae, .slice aq an ac, .int .i64 ak]) a7.out (sizeAns _ _ _) (Nat.le_refl _) (ans_one _ _ _ _ _)
       have z8 := Lib.hid (z7.out.kept hg8 (by omega))
       have a8 : Hid (RowV 35 u8 (w.heap.size + 1 + 1 + 1) [.int .i64 ae, .slice aq an ac, .int .i64 ak]) := h8
       have o8 := Lib.hid (o7.out.ga hg8 a7.out)
       have n8 := Lib.hid (n7.out.ga hg8 a7.out)
       have b8 := Lib.hid (b7.out.grown hg8 b7.out.size (fun k hk => by cases hk; omega))
       refine x_skip (i := 6) (dst := none) (w' := u8) rfl rfl (by kernel_rfl) rfl (run_store_op rfl rfl rfl hst8) (x_gone (by kernel_rfl)) ?_
       go_frame
       refine x_done (by kernel_rfl) ?_
       clear hst7 h7 hg7 hg70 hst8 h8 hg8 hX6 hX7 z7 a7 o7 n7 b7 z6 a6 o6 n6 b6 x6 g6 q6
       go_wp2
       have m0 := z8.out.cell 0
       have m1 := z8.out.cell 1
       have m2 := z8.out.cell 2
       have m3 := z8.out.cell 3
       have m4 := z8.out.cell 4
       have k0 := a8.out.cell 0
       have k1 := a8.out.cell 1
       have k2 := a8.out.cell 2
       simp only [List.getElem?_cons_zero, List.getElem?_cons_succ] at m0 m1 m2 m3 m4 k0 k1 k2
       refine bodyPost_ret (v := .tuple #[.agg #[.slice pt ptn ptc, .slice pr prn prc, .slice pb pbn pbc, .slice pm pmn pmc, .bool po], .agg #[.int .i64 ae, .slice aq an ac, .int .i64 ak]]) (by simp [results, Try.results38, go_sem, m0, m1, m2, m3, m4, k0, k1, k2]) rfl ?_
       exact ⟨⟨pt, ptn, ptc, pr, prn, prc, pb, pbn, pbc, pm, pmn, pmc, po⟩, ⟨ae, aq, an, ac, ak⟩, rfl, (by rw [hres'.out]; exact o8.out), (by rw [hres'.out]; exact n8.out), b8.out⟩
   · obtain ⟨ua, hua⟩ : ∃ u, u3.alloc (.cells #[.int .i64 0, .slice none 0 0, .int .i64 0] 35) = u := ⟨_, rfl⟩
     have hbxua := one_rowI (xs := [.int .i64 0, .slice none 0 0, .int .i64 0]) hua
     have g4 := Lib.hid (g3.out.below hbxua.1)
     have q4 := Lib.hid (q3.out.below hbxua.1)
     have z4 := Lib.hid (z3.out.below hbxua.1)
     have a4 := Lib.hid (a3.out.below hbxua.1)
     have o4 := Lib.hid (o3.out.below hbxua.1)
     have b4 := Lib.hid (b3.out.trans (hbxua.1.mono b3.out.size))
     have x4 := Lib.hid hbxua.2.1
     refine value_op (dst := some 7) (w' := ua) (v := .pointer (some ⟨u3.heap.size, 0, none⟩)) rfl rfl rfl (by rw [← hua]; go_simp) ⟨q4.out.cell 0, ?_⟩
     go_frame
     have h3 := hlk ua mb nn (hmp.out.block (hbxua.1.block _ hmp.out.lt))
     clear hbxua hua
     refine held_value (i := 4) (dst := some 17) (w' := ua) (v := .func (.func FF) #[.pointer (some ⟨G, 0, none⟩)] #[]) rfl rfl (by kernel_rfl) rfl (by go_simp) (q4.out.cell 0) ?_
     go_frame
     clear h3
     refine held_call (i := 5) (dst := some 18) rfl rfl (by kernel_rfl) rfl (by go_simp) (hcall'.out ua g4.out o4.out) ?_
     rintro e u5 ⟨⟨pt, ptn, ptc, pr, prn, prc, pb, pbn, pbc, pm, pmn, pmc, po⟩, ⟨ae, aq, an, ac, ak⟩, he, h1, h2, h3, h4⟩
     have he' : e = .returned (.agg #[.int .i64 ae, .slice aq an ac, .int .i64 ak]) := he
     subst he'
     have g5 : Hid (RowV 94 u5 G [.slice pt ptn ptc, .slice pr prn prc, .slice pb pbn pbc, .slice pm pmn pmc, .bool po, .int .i64 qk, .int .i64 kt, .int .u16 ki, .int .i64 tt, .int .u16 ti, .int .i64 qv, .string qs, .int .i64 qn]) := h1
     have o5 := Lib.hid h2
     have n5 := Lib.hid h3
     have q5 := Lib.hid (q4.out.kept h4 (by omega))
     have z5 := Lib.hid (z4.out.kept h4 (by omega))
     have a5 := Lib.hid (a4.out.kept h4 (by omega))
     have b5 := Lib.hid (b4.out.grown h4 b4.out.size (fun k hk => by cases hk; omega))
     refine ⟨_, rfl, q5.out.cell 0, ?_⟩
     go_frame
     have x5 := Lib.hid (x4.out.kept h4 (by omega))
     clear he h1 h2 h3 h4
     have hRG : G < u3.heap.size := by omega
     obtain ⟨u6, hst, h4, hg4⟩ := run_storeVar_at (P := Try.prog) (ty := 35) (o := 0) (vs := [.int .i64 ae, .slice aq an ac, .int .i64 ak]) x5.out (sizeAns _ _ _) (Nat.le_refl _) (ans_one _ _ _ _ _)
     have x6 : Hid (RowV 35 u6 (u3.heap.size) [.int .i64 ae, .slice aq an ac, .int .i64 ak]) := h4
     have g6 := Lib.hid (g5.out.kept hg4 (by omega))
     have q6 := Lib.hid (q5.out.kept hg4 (by omega))
     have z6 := Lib.hid (z5.out.kept hg4 (by omega))
     have a6 := Lib.hid (a5.out.kept hg4 (by omega))
     have o6 := Lib.hid (o5.out.ga hg4 x5.out)
     have n6 := Lib.hid (n5.out.ga hg4 x5.out)
     have b6 := Lib.hid (b5.out.grown hg4 b5.out.size (fun k hk => by cases hk; omega))
     refine held_skip (i := 7) (dst := none) (w' := u6) rfl rfl (by kernel_rfl) rfl (run_store_op rfl rfl rfl hst) (q6.out.cell 0) ?_
     go_frame
     refine wpAnyH_done (by kernel_rfl) ?_ _
     clear hst h4 hg4 x5 g5 q5 z5 a5 o5 n5 b5 hX0 y0
     go_wp2
     refine wp_region_x (by kernel_rfl) 6 (fun u => RowV 94 u G [.slice pt ptn ptc, .slice pr prn prc, .slice pb pbn pbc, .slice pm pmn pmc, .bool po, .int .i64 qk, .int .i64 kt, .int .u16 ki, .int .i64 tt, .int .u16 ti, .int .i64 qv, .string qs, .int .i64 qn] ∧ RowV 35 u (u3.heap.size) [.int .i64 ae, .slice aq an ac, .int .i64 ak]) ?_
     change wpAnyX _ _ _ _ _ _ _ _ _ (World.drew u6)
     have hX6 : Hid ((fun u : World => RowV 94 u G [.slice pt ptn ptc, .slice pr prn prc, .slice pb pbn pbc, .slice pm pmn pmc, .bool po, .int .i64 qk, .int .i64 kt, .int .u16 ki, .int .i64 tt, .int .u16 ti, .int .i64 qv, .string qs, .int .i64 qn] ∧ RowV 35 u (u3.heap.size) [.int .i64 ae, .slice aq an ac, .int .i64 ak]) u6.drew) := ⟨g6.out, x6.out⟩
     refine x_pu (i := 0) (dst := some 19) (v := .pointer (some ⟨G, 0, none⟩)) rfl rfl (y_move (.tmp 6) rfl rfl rfl) (fun _ => hX6.out) ?_
     go_frame
     refine x_pu (i := 1) (dst := some 20) (v := .pointer (some ⟨G, 0, none⟩)) rfl rfl (.inl ⟨rfl, fun u _ => by go_simp⟩) (fun _ => hX6.out) ?_
     go_frame
     refine x_pu (i := 2) (dst := some 21) (v := .pointer (some ⟨G, 0, none⟩)) rfl rfl (.inl ⟨rfl, fun u _ => by go_simp⟩) (fun _ => hX6.out) ?_
     go_frame
     refine x_tk (i := 3) (dst := some 22) (v := .agg #[.slice pt ptn ptc, .slice pr prn prc, .slice pb pbn pbc, .slice pm pmn pmc, .bool po]) rfl rfl (y_load_agg 46 (.tmp 21) rfl rfl rfl (fun u hu => run_loadVar_at Try.underlying46 rfl (sizeSer _ _ _ _ _) _ (hu.1.part (pre := []) (vs := [.slice pt ptn ptc, .slice pr prn prc, .slice pb pbn pbc, .slice pm pmn pmc, .bool po]) (rest := [.int .i64 qk, .int .i64 kt, .int .u16 ki, .int .i64 tt, .int .u16 ti, .int .i64 qv, .string qs, .int .i64 qn]) rfl rfl))) hX6.out ?_
     go_frame
     refine x_tk (i := 4) (dst := some 23) (v := .agg #[.int .i64 ae, .slice aq an ac, .int .i64 ak]) rfl rfl (y_load_agg 35 (.tmp 7) rfl rfl rfl (fun u hu => run_loadVar_at Try.underlying35 rfl (sizeAns _ _ _) _ hu.2.boxed.all)) hX6.out ?_
     go_frame
     obtain ⟨u7, hst7, h7, hg70⟩ := run_storeVar_at (P := Try.prog) (w := u6.drew) (ty := 46) (o := 0) (vs := [.slice pt ptn ptc, .slice pr prn prc, .slice pb pbn pbc, .slice pm pmn pmc, .bool po]) z6.out (sizeSer _ _ _ _ _) (Nat.le_refl _) (ser_one' _ _ _ _ _ _ _ _ _ _ _ _ _)
     have hg7 : u6.grownBy u7 (some (w.heap.size + 1 + 1)) := ⟨hg70.os, hg70.tape, hg70.output, hg70.size, hg70.block⟩
     have z7 : Hid (RowV 46 u7 (w.heap.size + 1 + 1) [.slice pt ptn ptc, .slice pr prn prc, .slice pb pbn pbc, .slice pm pmn pmc, .bool po]) := h7
     have hX7 : Hid ((fun u : World => RowV 94 u G [.slice pt ptn ptc, .slice pr prn prc, .slice pb pbn pbc, .slice pm pmn pmc, .bool po, .int .i64 qk, .int .i64 kt, .int .u16 ki, .int .i64 tt, .int .u16 ti, .int .i64 qv, .string qs, .int .i64 qn] ∧ RowV 35 u (u3.heap.size) [.int .i64 ae, .slice aq an ac, .int .i64 ak]) u7) := ⟨g6.out.kept hg7 (by omega), x6.out.kept hg7 (by omega)⟩
     have a7 := Lib.hid (a6.out.kept hg7 (by omega))
     have o7 := Lib.hid (o6.out.gs hg7 z6.out)
     have n7 := Lib.hid (n6.out.gs hg7 z6.out)
     have b7 := Lib.hid (b6.out.grown hg7 b6.out.size (fun k hk => by cases hk; omega))
     refine x_skip (i := 5) (dst := none) (w' := u7) rfl rfl (by kernel_rfl) rfl (run_store_op rfl rfl rfl hst7) (fun _ => hX7.out) ?_
     go_frame
     obtain ⟨u8, hst8, h8, hg8⟩ := run_storeVar_at (P := Try.prog) (ty := 35) (o := 0) (vs := [.int .i64 ae, .slice aq an ac, .int .i64 ak]) a7.out (sizeAns _ _ _) (Nat.le_refl _) (ans_one _ _ _ _ _)
     have z8 := Lib.hid (z7.out.kept hg8 (by omega))
     have a8 : Hid (RowV 35 u8 (w.heap.size + 1 + 1 + 1) [.int .i64 ae, .slice aq an ac, .int .i64 ak]) := h8
     have o8 := Lib.hid (o7.out.ga hg8 a7.out)
     have n8 := Lib.hid (n7.out.ga hg8 a7.out)
     have b8 := Lib.hid (b7.out.grown hg8 b7.out.size (fun k hk => by cases hk; omega))
     refine x_skip (i := 6) (dst := none) (w' := u8) rfl rfl (by kernel_rfl) rfl (run_store_op rfl rfl rfl hst8) (x_gone (by kernel_rfl)) ?_
     go_frame
     refine x_done (by kernel_rfl) ?_
     clear hst7 h7 hg7 hg70 hst8 h8 hg8 hX6 hX7 z7 a7 o7 n7 b7 z6 a6 o6 n6 b6 x6 g6 q6
     go_wp2
     have m0 := z8.out.cell 0
     have m1 := z8.out.cell 1
     have m2 := z8.out.cell 2
     have m3 := z8.out.cell 3
     have m4 := z8.out.cell 4
     have k0 := a8.out.cell 0
     have k1 := a8.out.cell 1
     have k2 := a8.out.cell 2
     simp only [List.getElem?_cons_zero, List.getElem?_cons_succ] at m0 m1 m2 m3 m4 k0 k1 k2
     refine bodyPost_ret (v := .tuple #[.agg #[.slice pt ptn ptc, .slice pr prn prc, .slice pb pbn pbc, .slice pm pmn pmc, .bool po], .agg #[.int .i64 ae, .slice aq an ac, .int .i64 ak]]) (by simp [results, Try.results38, go_sem, m0, m1, m2, m3, m4, k0, k1, k2]) rfl ?_
     exact ⟨⟨pt, ptn, ptc, pr, prn, prc, pb, pbn, pbc, pm, pmn, pmc, po⟩, ⟨ae, aq, an, ac, ak⟩, rfl, (by rw [hres'.out]; exact o8.out), (by rw [hres'.out]; exact n8.out), b8.out⟩
 · obtain ⟨ua, hua⟩ : ∃ u, u2.drew.alloc (.cells #[.int .i64 0, .slice none 0 0, .int .i64 0] 35) = u := ⟨_, rfl⟩
   have hbxua := one_rowI (xs := [.int .i64 0, .slice none 0 0, .int .i64 0]) hua
   have hba : Below u2.heap.size u2 ua := (below_drew u2).trans hbxua.1
   have g3 := Lib.hid (g2.out.below hba)
   have q3 := Lib.hid (q2.out.below hba)
   have z3 := Lib.hid (z2.out.below hba)
   have a3 := Lib.hid (a2.out.below hba)
   have o3 := Lib.hid (o2.out.below hba)
   have b3 := Lib.hid (b2.out.trans (hba.mono b2.out.size))
   have x3 : Hid (RowV 35 ua u2.heap.size [.int .i64 0, .slice none 0 0, .int .i64 0]) := hbxua.2.1
   refine value_op (dst := some 7) (w' := ua) (v := .pointer (some ⟨u2.heap.size, 0, none⟩)) rfl rfl rfl (by rw [← hua]; go_simp) ⟨q3.out.cell 0, ?_⟩
   go_frame
   clear hbxua hua hba
   refine held_call (i := 1) (dst := some 14) rfl rfl (by kernel_rfl) rfl (by go_simp) (kinds_any G ua) ?_
   rintro e u4 ⟨mb, nn, rfl, hmap, hmb, hb⟩
   have g4 := Lib.hid (g3.out.below hb)
   have q4 := Lib.hid (q3.out.below hb)
   have z4 := Lib.hid (z3.out.below hb)
   have a4 := Lib.hid (a3.out.below hb)
   have o4 := Lib.hid (o3.out.below hb)
   have b4 := Lib.hid (b3.out.trans (hb.mono b3.out.size))
   have x4 := Lib.hid (x3.out.below hb)
   have h3 := hlk u4 mb nn hmap
   refine ⟨_, rfl, q4.out.cell 0, ?_⟩
   go_frame
   refine held_value (i := 4) (dst := some 17) (w' := u4) (v := .func (.func FF) #[.pointer (some ⟨G, 0, none⟩)] #[]) rfl rfl (by kernel_rfl) rfl (by go_simp) (q4.out.cell 0) ?_
   go_frame
   clear h3 hmap hb
   refine held_call (i := 5) (dst := some 18) rfl rfl (by kernel_rfl) rfl (by go_simp) (hcall'.out u4 g4.out o4.out) ?_
   rintro e u5 ⟨⟨pt, ptn, ptc, pr, prn, prc, pb, pbn, pbc, pm, pmn, pmc, po⟩, ⟨ae, aq, an, ac, ak⟩, he, h1, h2, h3, h4⟩
   have he' : e = .returned (.agg #[.int .i64 ae, .slice aq an ac, .int .i64 ak]) := he
   subst he'
   have g5 : Hid (RowV 94 u5 G [.slice pt ptn ptc, .slice pr prn prc, .slice pb pbn pbc, .slice pm pmn pmc, .bool po, .int .i64 qk, .int .i64 kt, .int .u16 ki, .int .i64 tt, .int .u16 ti, .int .i64 qv, .string qs, .int .i64 qn]) := h1
   have o5 := Lib.hid h2
   have n5 := Lib.hid h3
   have q5 := Lib.hid (q4.out.kept h4 (by omega))
   have z5 := Lib.hid (z4.out.kept h4 (by omega))
   have a5 := Lib.hid (a4.out.kept h4 (by omega))
   have b5 := Lib.hid (b4.out.grown h4 b4.out.size (fun k hk => by cases hk; omega))
   refine ⟨_, rfl, q5.out.cell 0, ?_⟩
   go_frame
   have x5 := Lib.hid (x4.out.kept h4 (by omega))
   clear he h1 h2 h3 h4
   have hRG : G < u2.heap.size := by omega
   obtain ⟨u6, hst, h4, hg4⟩ := run_storeVar_at (P := Try.prog) (ty := 35) (o := 0) (vs := [.int .i64 ae, .slice aq an ac, .int .i64 ak]) x5.out (sizeAns _ _ _) (Nat.le_refl _) (ans_one _ _ _ _ _)
   have x6 : Hid (RowV 35 u6 (u2.heap.size) [.int .i64 ae, .slice aq an ac, .int .i64 ak]) := h4
   have g6 := Lib.hid (g5.out.kept hg4 (by omega))
   have q6 := Lib.hid (q5.out.kept hg4 (by omega))
   have z6 := Lib.hid (z5.out.kept hg4 (by omega))
   have a6 := Lib.hid (a5.out.kept hg4 (by omega))
   have o6 := Lib.hid (o5.out.ga hg4 x5.out)
   have n6 := Lib.hid (n5.out.ga hg4 x5.out)
   have b6 := Lib.hid (b5.out.grown hg4 b5.out.size (fun k hk => by cases hk; omega))
   refine held_skip (i := 7) (dst := none) (w' := u6) rfl rfl (by kernel_rfl) rfl (run_store_op rfl rfl rfl hst) (q6.out.cell 0) ?_
   go_frame
   refine wpAnyH_done (by kernel_rfl) ?_ _
   clear hst h4 hg4 x5 g5 q5 z5 a5 o5 n5 b5 hX0 y0
   go_wp2
   refine wp_region_x (by kernel_rfl) 6 (fun u => RowV 94 u G [.slice pt ptn ptc, .slice pr prn prc, .slice pb pbn pbc, .slice pm pmn pmc, .bool po, .int .i64 qk, .int .i64 kt, .int .u16 ki, .int .i64 tt, .int .u16 ti, .int .i64 qv, .string qs, .int .i64 qn] ∧ RowV 35 u (u2.heap.size) [.int .i64 ae, .slice aq an ac, .int .i64 ak]) ?_
   change wpAnyX _ _ _ _ _ _ _ _ _ (World.drew u6)
   have hX6 : Hid ((fun u : World => RowV 94 u G [.slice pt ptn ptc, .slice pr prn prc, .slice pb pbn pbc, .slice pm pmn pmc, .bool po, .int .i64 qk, .int .i64 kt, .int .u16 ki, .int .i64 tt, .int .u16 ti, .int .i64 qv, .string qs, .int .i64 qn] ∧ RowV 35 u (u2.heap.size) [.int .i64 ae, .slice aq an ac, .int .i64 ak]) u6.drew) := ⟨g6.out, x6.out⟩
   refine x_pu (i := 0) (dst := some 19) (v := .pointer (some ⟨G, 0, none⟩)) rfl rfl (y_move (.tmp 6) rfl rfl rfl) (fun _ => hX6.out) ?_
   go_frame
   refine x_pu (i := 1) (dst := some 20) (v := .pointer (some ⟨G, 0, none⟩)) rfl rfl (.inl ⟨rfl, fun u _ => by go_simp⟩) (fun _ => hX6.out) ?_
   go_frame
   refine x_pu (i := 2) (dst := some 21) (v := .pointer (some ⟨G, 0, none⟩)) rfl rfl (.inl ⟨rfl, fun u _ => by go_simp⟩) (fun _ => hX6.out) ?_
   go_frame
   refine x_tk (i := 3) (dst := some 22) (v := .agg #[.slice pt ptn ptc, .slice pr prn prc, .slice pb pbn pbc, .slice pm pmn pmc, .bool po]) rfl rfl (y_load_agg 46 (.tmp 21) rfl rfl rfl (fun u hu => run_loadVar_at Try.underlying46 rfl (sizeSer _ _ _ _ _) _ (hu.1.part (pre := []) (vs := [.slice pt ptn ptc, .slice pr prn prc, .slice pb pbn pbc, .slice pm pmn pmc, .bool po]) (rest := [.int .i64 qk, .int .i64 kt, .int .u16 ki, .int .i64 tt, .int .u16 ti, .int .i64 qv, .string qs, .int .i64 qn]) rfl rfl))) hX6.out ?_
   go_frame
   refine x_tk (i := 4) (dst := some 23) (v := .agg #[.int .i64 ae, .slice aq an ac, .int .i64 ak]) rfl rfl (y_load_agg 35 (.tmp 7) rfl rfl rfl (fun u hu => run_loadVar_at Try.underlying35 rfl (sizeAns _ _ _) _ hu.2.boxed.all)) hX6.out ?_
   go_frame
   obtain ⟨u7, hst7, h7, hg70⟩ := run_storeVar_at (P := Try.prog) (w := u6.drew) (ty := 46) (o := 0) (vs := [.slice pt ptn ptc, .slice pr prn prc, .slice pb pbn pbc, .slice pm pmn pmc, .bool po]) z6.out (sizeSer _ _ _ _ _) (Nat.le_refl _) (ser_one' _ _ _ _ _ _ _ _ _ _ _ _ _)
   have hg7 : u6.grownBy u7 (some (w.heap.size + 1 + 1)) := ⟨hg70.os, hg70.tape, hg70.output, hg70.size, hg70.block⟩
   have z7 : Hid (RowV 46 u7 (w.heap.size + 1 + 1) [.slice pt ptn ptc, .slice pr prn prc, .slice pb pbn pbc, .slice pm pmn pmc, .bool po]) := h7
   have hX7 : Hid ((fun u : World => RowV 94 u G [.slice pt ptn ptc, .slice pr prn prc, .slice pb pbn pbc, .slice pm pmn pmc, .bool po, .int .i64 qk, .int .i64 kt, .int .u16 ki, .int .i64 tt, .int .u16 ti, .int .i64 qv, .string qs, .int .i64 qn] ∧ RowV 35 u (u2.heap.size) [.int .i64 ae, .slice aq an ac, .int .i64 ak]) u7) := ⟨g6.out.kept hg7 (by omega), x6.out.kept hg7 (by omega)⟩
   have a7 := Lib.hid (a6.out.kept hg7 (by omega))
   have o7 := Lib.hid (o6.out.gs hg7 z6.out)
   have n7 := Lib.hid (n6.out.gs hg7 z6.out)
   have b7 := Lib.hid (b6.out.grown hg7 b6.out.size (fun k hk => by cases hk; omega))
   refine x_skip (i := 5) (dst := none) (w' := u7) rfl rfl (by kernel_rfl) rfl (run_store_op rfl rfl rfl hst7) (fun _ => hX7.out) ?_
   go_frame
   obtain ⟨u8, hst8, h8, hg8⟩ := run_storeVar_at (P := Try.prog) (ty := 35) (o := 0) (vs := [.int .i64 ae, .slice aq an ac, .int .i64 ak]) a7.out (sizeAns _ _ _) (Nat.le_refl _) (ans_one _ _ _ _ _)
   have z8 := Lib.hid (z7.out.kept hg8 (by omega))
   have a8 : Hid (RowV 35 u8 (w.heap.size + 1 + 1 + 1) [.int .i64 ae, .slice aq an ac, .int .i64 ak]) := h8
   have o8 := Lib.hid (o7.out.ga hg8 a7.out)
   have n8 := Lib.hid (n7.out.ga hg8 a7.out)
   have b8 := Lib.hid (b7.out.grown hg8 b7.out.size (fun k hk => by cases hk; omega))
   refine x_skip (i := 6) (dst := none) (w' := u8) rfl rfl (by kernel_rfl) rfl (run_store_op rfl rfl rfl hst8) (x_gone (by kernel_rfl)) ?_
   go_frame
   refine x_done (by kernel_rfl) ?_
   clear hst7 h7 hg7 hg70 hst8 h8 hg8 hX6 hX7 z7 a7 o7 n7 b7 z6 a6 o6 n6 b6 x6 g6 q6
   go_wp2
   have m0 := z8.out.cell 0
   have m1 := z8.out.cell 1
   have m2 := z8.out.cell 2
   have m3 := z8.out.cell 3
   have m4 := z8.out.cell 4
   have k0 := a8.out.cell 0
   have k1 := a8.out.cell 1
   have k2 := a8.out.cell 2
   simp only [List.getElem?_cons_zero, List.getElem?_cons_succ] at m0 m1 m2 m3 m4 k0 k1 k2
   refine bodyPost_ret (v := .tuple #[.agg #[.slice pt ptn ptc, .slice pr prn prc, .slice pb pbn pbc, .slice pm pmn pmc, .bool po], .agg #[.int .i64 ae, .slice aq an ac, .int .i64 ak]]) (by simp [results, Try.results38, go_sem, m0, m1, m2, m3, m4, k0, k1, k2]) rfl ?_
   exact ⟨⟨pt, ptn, ptc, pr, prn, prc, pb, pbn, pbc, pm, pmn, pmc, po⟩, ⟨ae, aq, an, ac, ak⟩, rfl, (by rw [hres'.out]; exact o8.out), (by rw [hres'.out]; exact n8.out), b8.out⟩
end Go.Proofs.Ytkdkncbccofpdaa
