/- Parts of the proof: Do and Begin of ideal; What the laws of ideal share: one, wakes, over and overSerial; over and overSerial of the laws of ideal; Same and SameAnswer of ideal -/
import Derived.Test.YtkdkncbccofpdaaQ19
namespace Go.Proofs.Ytkdkncbccofpdaa
open Go.RowKit
set_option maxRecDepth 100000
theorem three_rowsI {w W : World} {T1 T2 T3 : TypeId} {xs ys zs : List Value} (h : ((w.alloc (.cells xs.toArray T1)).alloc (.cells ys.toArray T2)).alloc (.cells zs.toArray T3) = W) :
 Below w.heap.size w W ∧ RowV T1 W w.heap.size xs ∧ RowV T2 W (w.heap.size + 1) ys ∧ RowV T3 W (w.heap.size + 2) zs ∧ W.heap.size = w.heap.size + 3 := by
 obtain ⟨V, hV⟩ : ∃ V, (w.alloc (.cells xs.toArray T1)).alloc (.cells ys.toArray T2) = V := ⟨_, rfl⟩
 rw [hV] at h
 obtain ⟨h1, h2, h3, h4⟩ := two_rowsI hV
 obtain ⟨k1, k2, k3⟩ := one_rowI h
 rw [h4] at k2 k3
 exact ⟨h1.trans (k1.mono h1.size), h2.below k1, h3.below k1, k2, k3⟩
def aloneS (bs : List BdD) (l : List RowD) : SerD := ⟨bs, l, [], [], false⟩
def doM (bs : List BdD) (l : List RowD) (q : ReqD) : List RowD × AnsD :=
 if chkList bs l ≠ 0 then (l, errA (chkList bs l)) else if (reqB bs q && decide (q.k ≤ 8)) = false then (l, errA 250) else ((stepW (aloneS bs l) q).1.rows, (stepW (aloneS bs l) q).2)
def DoPost (r : List RowD × AnsD) (w : World) (e : Ending) (w' : World) : Prop :=
 ∃ (q : Option Addr) (n c : Nat) (u : AV), e = .returned (.tuple #[.slice q n c, .agg u.cells.toArray]) ∧ OwnL w' q n c r.1 ∧ u.Own w' r.2 ∧ Below w.heap.size w w'
set_option maxHeartbeats 3000000 in
theorem do_any (tq : Option Addr) (tn tc : Nat) (lq : Option Addr) (ln lc : Nat) (qk kt ki tt ti qv : Int) (qs : ByteArray) (qn : Int) (bs : List BdD) (l : List RowD) (w : World) (hs : SlOn w tq tn tc bs) (hsk : ∀ b ∈ bs, I64 b.lo ∧ I64 b.hi) (hr : RowsOn w lq ln lc l) (hn : ln ≤ 1000000) (hq : ReqOk ⟨qk, ⟨kt, ki⟩, ⟨tt, ti⟩, qv, qs, qn⟩) :
 Calls Try.prog 11 #[.agg #[.slice tq tn tc], .slice lq ln lc, .agg #[.int .i64 qk, .int .i64 kt, .int .u16 ki, .int .i64 tt, .int .u16 ti, .int .i64 qv, .string qs, .int .i64 qn]] w (DoPost (doM bs l ⟨qk, ⟨kt, ki⟩, ⟨tt, ti⟩, qv, qs, qn⟩) w) := by
 obtain ⟨W, hW⟩ : ∃ W, ((w.alloc (.cells #[.slice tq tn tc] 24)).alloc (.cells #[.int .i64 qk, .int .i64 kt, .int .u16 ki, .int .i64 tt, .int .u16 ti, .int .i64 qv, .string qs, .int .i64 qn] 30)).alloc (.cells #[.int .i64 0, .slice none 0 0, .int .i64 0] 35) = W := ⟨_, rfl⟩
 have hbx := Lib.hid (three_rowsI (xs := [.slice tq tn tc]) (ys := [.int .i64 qk, .int .i64 kt, .int .u16 ki, .int .i64 tt, .int .u16 ti, .int .i64 qv, .string qs, .int .i64 qn]) (zs := [.int .i64 0, .slice none 0 0, .int .i64 0]) hW)
 have b0 := Lib.hid hbx.out.1
 have s0 := Lib.hid hbx.out.2.1
 have q0 := Lib.hid hbx.out.2.2.1
 have a0 : Hid (RowV 35 W (w.heap.size + 1 + 1) [.int .i64 0, .slice none 0 0, .int .i64 0]) := hbx.out.2.2.2.1
 have hs' := Lib.hid hs
 have hsk' := Lib.hid hsk
 have hr' := Lib.hid hr
 have hq' := Lib.hid hq
 have hll := Lib.hid hr.len
 have hs1 := sizeSch tq tn tc
 have hs2 := sizeReq (.int .i64 qk) (.int .i64 kt) (.int .u16 ki) (.int .i64 tt) (.int .u16 ti) (.int .i64 qv) (.string qs) (.int .i64 qn)
 clear hs hsk hr hq hbx
 go_enter Try.func11, Try.ntmps11
 go_wp2_with (first | (with_reducible refine wpList_load_at rfl 24 (.tmp 3) rfl Try.underlying24 rfl hs1 rfl s0.out.boxed.all ?_))
 clear hW
 refine (checkList_any tq tn tc bs lq ln lc l W ((hs'.out.sch hsk'.out).below b0.out (Nat.le_refl _)) (hr'.out.below b0.out (Nat.le_refl _))).mono ?_
 rintro e u1 ⟨rfl, hb⟩
 have s1 := Lib.hid (s0.out.below hb)
 have q1 := Lib.hid (q0.out.below hb)
 have a1 := Lib.hid (a0.out.below hb)
 have b1 := Lib.hid (b0.out.trans (hb.mono b0.out.size))
 clear hb s0 q0 a0 b0
 obtain ⟨er, her⟩ : ∃ er, chkList bs l = er := ⟨_, rfl⟩
 rw [her]
 have her' := Lib.hid her
 clear her
 by_cases he : er = 0
 · subst he
   have hok := Lib.hid (chkList_zero her'.out)
   go_wp2_with (first | (with_reducible refine wpList_load_at rfl 24 (.tmp 3) rfl Try.underlying24 rfl hs1 rfl s1.out.boxed.all ?_) | (with_reducible refine wpList_load_at rfl 30 (.tmp 5) rfl Try.underlying30 rfl hs2 rfl q1.out.boxed.all ?_))
   refine (isReq_any qk kt ki tt ti qv qs qn bs u1 tq tn tc ((hs'.out.sch hsk'.out).below b1.out (Nat.le_refl _)) hq'.out.note).mono ?_
   rintro e u2 ⟨rfl, hb⟩
   have s2 := Lib.hid (s1.out.below hb)
   have q2 := Lib.hid (q1.out.below hb)
   have a2 := Lib.hid (a1.out.below hb)
   have b2 := Lib.hid (b1.out.trans (hb.mono b1.out.size))
   clear hb s1 q1 a1 b1
   obtain ⟨C, hC⟩ : ∃ C, reqB bs ⟨qk, ⟨kt, ki⟩, ⟨tt, ti⟩, qv, qs, qn⟩ = C := ⟨_, rfl⟩
   rw [hC]
   have hC' := Lib.hid hC
   clear hC
   cases C with
   | false =>
     have hr : Hid (doM bs l ⟨qk, ⟨kt, ki⟩, ⟨tt, ti⟩, qv, qs, qn⟩ = (l, errA 250)) := by show _ = _; unfold doM; rw [if_neg (by rw [her'.out]; simp), if_pos (by rw [hC'.out]; rfl)]
     go_wp2_with fail
     refine (cloneR_any lq ln lc l u2 (hr'.out.below b2.out (Nat.le_refl _)) hn).mono ?_
     rintro e u3 ⟨jq, jc, rfl, ho, hb⟩
     have s4 := Lib.hid (s2.out.below hb)
     have q4 := Lib.hid (q2.out.below hb)
     have a4 := Lib.hid (a2.out.below hb)
     have b4 := Lib.hid (b2.out.trans (hb.mono b2.out.size))
     have o4 := Lib.hid ho
     clear ho hb
     go_wp2_with fail
     refine (told_any 250 u3).mono ?_
     rintro e u4 ⟨rfl, hb⟩
     have s5 := Lib.hid (s4.out.below hb)
     have q5 := Lib.hid (q4.out.below hb)
     have a5 := Lib.hid (a4.out.below hb)
     have b5 := Lib.hid (b4.out.trans (hb.mono b4.out.size))
     have o5 := Lib.hid (o4.out.below hb)
     have n5 := Lib.hid (AV.Own.err 250 u4)
     clear hb
     go_wp2_with (first
      | ((with_reducible refine wpList_store_at rfl 35 (.tmp 7) (.tmp 31) rfl (o := 0) (vs := [.int .i64 250, .slice none 0 0, .int .i64 0]) rfl rfl a5.out (sizeAns _ _ _) (Nat.le_refl _) (ans_one _ _ _ _ _) ?_)
         intro u8 h8 hg8
         have a8 : Hid (RowV 35 u8 (w.heap.size + 1 + 1) [.int .i64 250, .slice none 0 0, .int .i64 0]) := h8
         have o8 := Lib.hid (o5.out.gt hg8 a5.out (by decide))
         have n8 := Lib.hid (n5.out.ga hg8 a5.out)
         have b8 := Lib.hid (b5.out.grown hg8 b5.out.size (fun k hk => by cases hk; omega))
         clear h8 hg8))
     have k0 := a8.out.cell 0
     have k1 := a8.out.cell 1
     have k2 := a8.out.cell 2
     simp only [List.getElem?_cons_zero, List.getElem?_cons_succ] at k0 k1 k2
     refine bodyPost_ret (v := .tuple #[.slice jq ln jc, .agg #[.int .i64 250, .slice none 0 0, .int .i64 0]]) (by simp [results, Try.results11, go_sem, k0, k1, k2]) rfl ?_
     rw [hr.out]
     exact ⟨_, _, _, ⟨250, none, 0, 0, 0⟩, rfl, o8.out, n8.out, b8.out⟩
   | true =>
     have y0 : u2.cell? ⟨w.heap.size + 1, 0, none⟩ = some (.int .i64 qk) := q2.out.cell 0
     have y1 : u2.cell? ⟨w.heap.size + 1, 1, none⟩ = some (.int .i64 kt) := q2.out.cell 1
     have y2 : u2.cell? ⟨w.heap.size + 1, 2, none⟩ = some (.int .u16 ki) := q2.out.cell 2
     have y3 : u2.cell? ⟨w.heap.size + 1, 3, none⟩ = some (.int .i64 tt) := q2.out.cell 3
     have y4 : u2.cell? ⟨w.heap.size + 1, 4, none⟩ = some (.int .u16 ti) := q2.out.cell 4
     have y5 : u2.cell? ⟨w.heap.size + 1, 5, none⟩ = some (.int .i64 qv) := q2.out.cell 5
     have y6 : u2.cell? ⟨w.heap.size + 1, 6, none⟩ = some (.string qs) := q2.out.cell 6
     have y7 : u2.cell? ⟨w.heap.size + 1, 7, none⟩ = some (.int .i64 qn) := q2.out.cell 7
     go_wp2_with fail
     clear y0 y1 y2 y3 y4 y5 y6 y7
     refine (ofRows_any qk kt ki tt ti qv qs qn u2).mono ?_
     rintro e u6 ⟨rfl, hb⟩
     have s6 := Lib.hid (s2.out.below hb)
     have q6 := Lib.hid (q2.out.below hb)
     have a6 := Lib.hid (a2.out.below hb)
     have b6 := Lib.hid (b2.out.trans (hb.mono b2.out.size))
     clear hb s2 q2 a2 b2
     obtain ⟨C, hC⟩ : ∃ C, decide (qk ≤ 8) = C := ⟨_, rfl⟩
     rw [hC]
     have hD' : Hid (decide (qk ≤ 8) = C) := hC
     clear hC
     cases C with
     | false =>
       have hr : Hid (doM bs l ⟨qk, ⟨kt, ki⟩, ⟨tt, ti⟩, qv, qs, qn⟩ = (l, errA 250)) := by show _ = _; unfold doM; rw [if_neg (by rw [her'.out]; simp), if_pos (by rw [hC'.out]; show (true && decide (qk ≤ 8)) = false; rw [hD'.out]; rfl)]
       go_wp2_with fail
       refine (cloneR_any lq ln lc l u6 (hr'.out.below b6.out (Nat.le_refl _)) hn).mono ?_
       rintro e u3 ⟨jq, jc, rfl, ho, hb⟩
       have s4 := Lib.hid (s6.out.below hb)
       have q4 := Lib.hid (q6.out.below hb)
       have a4 := Lib.hid (a6.out.below hb)
       have b4 := Lib.hid (b6.out.trans (hb.mono b6.out.size))
       have o4 := Lib.hid ho
       clear ho hb
       go_wp2_with fail
       refine (told_any 250 u3).mono ?_
       rintro e u4 ⟨rfl, hb⟩
       have s5 := Lib.hid (s4.out.below hb)
       have q5 := Lib.hid (q4.out.below hb)
       have a5 := Lib.hid (a4.out.below hb)
       have b5 := Lib.hid (b4.out.trans (hb.mono b4.out.size))
       have o5 := Lib.hid (o4.out.below hb)
       have n5 := Lib.hid (AV.Own.err 250 u4)
       clear hb
       go_wp2_with (first
        | ((with_reducible refine wpList_store_at rfl 35 (.tmp 7) (.tmp 31) rfl (o := 0) (vs := [.int .i64 250, .slice none 0 0, .int .i64 0]) rfl rfl a5.out (sizeAns _ _ _) (Nat.le_refl _) (ans_one _ _ _ _ _) ?_)
           intro u8 h8 hg8
           have a8 : Hid (RowV 35 u8 (w.heap.size + 1 + 1) [.int .i64 250, .slice none 0 0, .int .i64 0]) := h8
           have o8 := Lib.hid (o5.out.gt hg8 a5.out (by decide))
           have n8 := Lib.hid (n5.out.ga hg8 a5.out)
           have b8 := Lib.hid (b5.out.grown hg8 b5.out.size (fun k hk => by cases hk; omega))
           clear h8 hg8))
       have k0 := a8.out.cell 0
       have k1 := a8.out.cell 1
       have k2 := a8.out.cell 2
       simp only [List.getElem?_cons_zero, List.getElem?_cons_succ] at k0 k1 k2
       refine bodyPost_ret (v := .tuple #[.slice jq ln jc, .agg #[.int .i64 250, .slice none 0 0, .int .i64 0]]) (by simp [results, Try.results11, go_sem, k0, k1, k2]) rfl ?_
       rw [hr.out]
       exact ⟨_, _, _, ⟨250, none, 0, 0, 0⟩, rfl, o8.out, n8.out, b8.out⟩
     | true =>
       have hr : Hid (doM bs l ⟨qk, ⟨kt, ki⟩, ⟨tt, ti⟩, qv, qs, qn⟩ = ((stepW (aloneS bs l) ⟨qk, ⟨kt, ki⟩, ⟨tt, ti⟩, qv, qs, qn⟩).1.rows, (stepW (aloneS bs l) ⟨qk, ⟨kt, ki⟩, ⟨tt, ti⟩, qv, qs, qn⟩).2)) := by show _ = _; unfold doM; rw [if_neg (by rw [her'.out]; simp), if_neg (by rw [hC'.out]; show ¬ (true && decide (qk ≤ 8)) = false; rw [hD'.out]; simp)]
       have hxo : (⟨tq, tn, tc, lq, ln, lc, none, 0, 0, none, 0, 0, false⟩ : SV).On u6 (aloneS bs l) := ⟨hs'.out.below b6.out (Nat.le_refl _), hsk'.out, hr'.out.below b6.out (Nat.le_refl _), RowsOn.none_ _, MksOn.none_ _, rfl⟩
       have hfew : Few (aloneS bs l) := by
        have h60 := ((okL_iff bs l).1 hok.out.2).1
        have h3 := ((okS_iff bs).1 hok.out.1).2.1
        exact ⟨show bs.length ≤ 1000000 by omega, show l.length ≤ 1000000 by omega, Nat.zero_le _, Nat.zero_le _, fun m hm => by cases hm⟩
       have hdn : Hid (Calls Try.prog 38 #[.agg #[.slice tq tn tc, .slice lq ln lc, .slice none 0 0, .slice none 0 0, .bool false], .agg #[.int .i64 qk, .int .i64 kt, .int .u16 ki, .int .i64 tt, .int .u16 ti, .int .i64 qv, .string qs, .int .i64 qn]] u6 (DonePost (stepW (aloneS bs l) ⟨qk, ⟨kt, ki⟩, ⟨tt, ti⟩, qv, qs, qn⟩) u6)) := done_any tq tn tc lq ln lc none 0 0 none 0 0 false qk kt ki tt ti qv qs qn (aloneS bs l) u6 hxo ⟨hfew, hq'.out, reqB_kind hC'.out, Nat.zero_le _, fun h => reqB_move hC'.out h, fun h => reqB_back hC'.out h⟩
       have hsp := sizeSch tq tn tc
       clear hxo hfew
       go_wp2_with (first | (with_reducible refine wpList_load_at rfl 24 (.tmp 3) rfl Try.underlying24 rfl hs1 rfl s6.out.boxed.all ?_) | (with_reducible refine wpList_load_at rfl 30 (.tmp 5) rfl Try.underlying30 rfl hs2 rfl q6.out.boxed.all ?_))
       refine hdn.out.mono ?_
       rintro e u3 ⟨⟨pt, ptn, ptc, pr, prn, prc, pb, pbn, pbc, pm, pmn, pmc, po⟩, ⟨ae, aq, an, ac, ak⟩, he, ho, hn_, hb⟩
       have he' : e = .returned (.tuple #[.agg #[.slice pt ptn ptc, .slice pr prn prc, .slice pb pbn pbc, .slice pm pmn pmc, .bool po], .agg #[.int .i64 ae, .slice aq an ac, .int .i64 ak]]) := he
       subst he'
       obtain ⟨V, hV⟩ : ∃ V, (u3.alloc (.cells #[.slice pt ptn ptc, .slice pr prn prc, .slice pb pbn pbc, .slice pm pmn pmc, .bool po] 46)).alloc (.cells #[.int .i64 ae, .slice aq an ac, .int .i64 ak] 35) = V := ⟨_, rfl⟩
       have hbx2 := two_rowsI (xs := [.slice pt ptn ptc, .slice pr prn prc, .slice pb pbn pbc, .slice pm pmn pmc, .bool po]) (ys := [.int .i64 ae, .slice aq an ac, .int .i64 ak]) hV
       have hbV : Below u6.heap.size u6 V := hb.trans (hbx2.1.mono hb.size)
       have a5 := Lib.hid (a6.out.below hbV)
       have b5 := Lib.hid (b6.out.trans (hbV.mono b6.out.size))
       have o5 := Lib.hid ((ho.below hbx2.1).rows)
       have n5 := Lib.hid (hn_.below hbx2.1)
       have v1 := Lib.hid hbx2.2.1
       have v2 := Lib.hid hbx2.2.2.1
       have hlowV : w.heap.size + 1 + 1 < u3.heap.size := by have h1 := a6.out.lt; have h2 := hb.size; omega
       clear he ho hn_ hb hdn hbx2 hbV
       go_wp2_with fail
       refine wp_region_x (by kernel_rfl) 4 (fun u => RowV 46 u u3.heap.size [.slice pt ptn ptc, .slice pr prn prc, .slice pb pbn pbc, .slice pm pmn pmc, .bool po] ∧ RowV 35 u (u3.heap.size + 1) [.int .i64 ae, .slice aq an ac, .int .i64 ak]) ?_
       change wpAnyX _ _ _ _ _ _ _ _ _ (World.drew V)
       have hX6 : Hid ((fun u : World => RowV 46 u u3.heap.size [.slice pt ptn ptc, .slice pr prn prc, .slice pb pbn pbc, .slice pm pmn pmc, .bool po] ∧ RowV 35 u (u3.heap.size + 1) [.int .i64 ae, .slice aq an ac, .int .i64 ak]) V.drew) := ⟨v1.out, v2.out⟩
       refine x_pu (i := 0) (dst := some 40) (v := .pointer (some ⟨u3.heap.size, 1, none⟩)) rfl rfl (.inl ⟨rfl, fun u _ => by go_simp⟩) (fun _ => hX6.out) ?_
       go_frame
       refine x_tk (i := 1) (dst := some 41) (v := .slice pr prn prc) rfl rfl (.inl ⟨rfl, fun u hu => by have y := hu.1.cell 1; simp only [List.getElem?_cons_zero, List.getElem?_cons_succ] at y; go_simp⟩) hX6.out ?_
       go_frame
       refine x_tk (i := 2) (dst := some 42) (v := .agg #[.int .i64 ae, .slice aq an ac, .int .i64 ak]) rfl rfl (y_load_agg 35 (.tmp 10) rfl rfl rfl (fun u hu => run_loadVar_at Try.underlying35 rfl (sizeAns _ _ _) _ hu.2.boxed.all)) hX6.out ?_
       go_frame
       refine x_pu (i := 3) (dst := some 6) (v := .slice pr prn prc) rfl rfl (.inl ⟨rfl, fun u _ => by go_simp⟩) (fun _ => hX6.out) ?_
       go_frame
       obtain ⟨u8, hst8, h8, hg80⟩ := run_storeVar_at (P := Try.prog) (w := V.drew) (ty := 35) (o := 0) (vs := [.int .i64 ae, .slice aq an ac, .int .i64 ak]) a5.out (sizeAns _ _ _) (Nat.le_refl _) (ans_one _ _ _ _ _)
       have hg8 : V.grownBy u8 (some (w.heap.size + 1 + 1)) := ⟨hg80.os, hg80.tape, hg80.output, hg80.size, hg80.block⟩
       have a8 : Hid (RowV 35 u8 (w.heap.size + 1 + 1) [.int .i64 ae, .slice aq an ac, .int .i64 ak]) := h8
       have o8 := Lib.hid (o5.out.gt hg8 a5.out (by decide))
       have n8 := Lib.hid (n5.out.ga hg8 a5.out)
       have b8 := Lib.hid (b5.out.grown hg8 b5.out.size (fun k hk => by cases hk; omega))
       refine x_skip (i := 4) (dst := none) (w' := u8) rfl rfl (by kernel_rfl) rfl (run_store_op rfl rfl rfl hst8) (x_gone (by kernel_rfl)) ?_
       go_frame
       refine x_done (by kernel_rfl) ?_
       clear hst8 h8 hg8 hg80 hX6 v1 v2 a5 o5 n5 b5
       go_wp2
       have k0 := a8.out.cell 0
       have k1 := a8.out.cell 1
       have k2 := a8.out.cell 2
       simp only [List.getElem?_cons_zero, List.getElem?_cons_succ] at k0 k1 k2
       refine bodyPost_ret (v := .tuple #[.slice pr prn prc, .agg #[.int .i64 ae, .slice aq an ac, .int .i64 ak]]) (by simp [results, Try.results11, go_sem, k0, k1, k2]) rfl ?_
       rw [hr.out]
       exact ⟨_, _, _, ⟨ae, aq, an, ac, ak⟩, rfl, o8.out, n8.out, b8.out⟩
 · have he1 : (er != 0) = true := by simpa using he
   have hr : Hid (doM bs l ⟨qk, ⟨kt, ki⟩, ⟨tt, ti⟩, qv, qs, qn⟩ = (l, errA er)) := by show _ = _; unfold doM; rw [if_pos (by rw [her'.out]; exact he), her'.out]
   clear he
   go_wp2_with fail
   refine (cloneR_any lq ln lc l u1 (hr'.out.below b1.out (Nat.le_refl _)) hn).mono ?_
   rintro e u3 ⟨jq, jc, rfl, ho, hb⟩
   have s4 := Lib.hid (s1.out.below hb)
   have q4 := Lib.hid (q1.out.below hb)
   have a4 := Lib.hid (a1.out.below hb)
   have b4 := Lib.hid (b1.out.trans (hb.mono b1.out.size))
   have o4 := Lib.hid ho
   clear ho hb
   go_wp2_with fail
   refine (told_any er u3).mono ?_
   rintro e u4 ⟨rfl, hb⟩
   have s5 := Lib.hid (s4.out.below hb)
   have q5 := Lib.hid (q4.out.below hb)
   have a5 := Lib.hid (a4.out.below hb)
   have b5 := Lib.hid (b4.out.trans (hb.mono b4.out.size))
   have o5 := Lib.hid (o4.out.below hb)
   have n5 := Lib.hid (AV.Own.err er u4)
   clear hb
   go_wp2_with (first
    | ((with_reducible refine wpList_store_at rfl 35 (.tmp 7) (.tmp 19) rfl (o := 0) (vs := [.int .i64 er, .slice none 0 0, .int .i64 0]) rfl rfl a5.out (sizeAns _ _ _) (Nat.le_refl _) (ans_one _ _ _ _ _) ?_)
       intro u8 h8 hg8
       have a8 : Hid (RowV 35 u8 (w.heap.size + 1 + 1) [.int .i64 er, .slice none 0 0, .int .i64 0]) := h8
       have o8 := Lib.hid (o5.out.gt hg8 a5.out (by decide))
       have n8 := Lib.hid (n5.out.ga hg8 a5.out)
       have b8 := Lib.hid (b5.out.grown hg8 b5.out.size (fun k hk => by cases hk; omega))
       clear h8 hg8))
   have k0 := a8.out.cell 0
   have k1 := a8.out.cell 1
   have k2 := a8.out.cell 2
   simp only [List.getElem?_cons_zero, List.getElem?_cons_succ] at k0 k1 k2
   refine bodyPost_ret (v := .tuple #[.slice jq ln jc, .agg #[.int .i64 er, .slice none 0 0, .int .i64 0]]) (by simp [results, Try.results11, go_sem, k0, k1, k2]) rfl ?_
   rw [hr.out]
   exact ⟨_, _, _, ⟨er, none, 0, 0, 0⟩, rfl, o8.out, n8.out, b8.out⟩
def begS (bs : List BdD) (l : List RowD) : SerD := if chkList bs l = 0 then ⟨bs, l, l, [], false⟩ else ⟨[], [], [], [], false⟩
def BegPost (bs : List BdD) (l : List RowD) (w : World) (e : Ending) (w' : World) : Prop :=
 ∃ v : SV, e = .returned (.tuple #[.agg v.cells.toArray, .int .i64 (chkList bs l)]) ∧ v.Own w' (begS bs l) ∧ Below w.heap.size w w'
set_option maxHeartbeats 3000000 in
theorem begin_any (tq : Option Addr) (tn tc : Nat) (lq : Option Addr) (ln lc : Nat) (bs : List BdD) (l : List RowD) (w : World) (hs : SlOn w tq tn tc bs) (hsk : ∀ b ∈ bs, I64 b.lo ∧ I64 b.hi) (hr : RowsOn w lq ln lc l) :
 Calls Try.prog 22 #[.agg #[.slice tq tn tc], .slice lq ln lc] w (BegPost bs l w) := by
 obtain ⟨W, hW⟩ : ∃ W, (w.alloc (.cells #[.slice tq tn tc] 24)).alloc (.cells #[.slice none 0 0, .slice none 0 0, .slice none 0 0, .slice none 0 0, .bool false] 46) = W := ⟨_, rfl⟩
 have hbx := Lib.hid (two_rowsI (xs := [.slice tq tn tc]) (ys := [.slice none 0 0, .slice none 0 0, .slice none 0 0, .slice none 0 0, .bool false]) hW)
 have b0 := Lib.hid hbx.out.1
 have s0 := Lib.hid hbx.out.2.1
 have a0 := Lib.hid hbx.out.2.2.1
 have hs' := Lib.hid hs
 have hsk' := Lib.hid hsk
 have hr' := Lib.hid hr
 have hs1 := sizeSch tq tn tc
 clear hs hsk hr hbx
 obtain ⟨er, her⟩ : ∃ er, chkList bs l = er := ⟨_, rfl⟩
 have her' := Lib.hid her
 have hpost : Hid (BegPost bs l w = fun e w' => ∃ v : SV, e = .returned (.tuple #[.agg v.cells.toArray, .int .i64 er]) ∧ v.Own w' (begS bs l) ∧ Below w.heap.size w w') := by show _ = _; unfold BegPost; rw [her]
 go_enter Try.func22, Try.ntmps22
 go_wp2_with (first | (with_reducible refine wpList_load_at rfl 24 (.tmp 2) rfl Try.underlying24 rfl hs1 rfl s0.out.boxed.all ?_))
 clear hW
 refine (checkList_any tq tn tc bs lq ln lc l W ((hs'.out.sch hsk'.out).below b0.out (Nat.le_refl _)) (hr'.out.below b0.out (Nat.le_refl _))).mono ?_
 rintro e u1 ⟨rfl, hb⟩
 have s1 := Lib.hid (s0.out.below hb)
 have a1 := Lib.hid (a0.out.below hb)
 have b1 := Lib.hid (b0.out.trans (hb.mono b0.out.size))
 clear hb s0 a0 b0
 rw [her]
 clear her
 by_cases he : er = 0
 · subst he
   have hok := Lib.hid (chkList_zero her'.out)
   have hrs : Hid (begS bs l = ⟨bs, l, l, [], false⟩) := by show _ = _; unfold begS; rw [if_pos her'.out]
   have hfew : Few ⟨bs, l, l, [], false⟩ := by
    have h60 := ((okL_iff bs l).1 hok.out.2).1
    have h3 := ((okS_iff bs).1 hok.out.1).2.1
    exact ⟨show bs.length ≤ 1000000 by omega, show l.length ≤ 1000000 by omega, show l.length ≤ 1000000 by omega, Nat.zero_le _, fun m hm => by cases hm⟩
   have hxo : (⟨tq, tn, tc, lq, ln, lc, lq, ln, lc, none, 0, 0, false⟩ : SV).On u1 ⟨bs, l, l, [], false⟩ := ⟨hs'.out.below b1.out (Nat.le_refl _), hsk'.out, hr'.out.below b1.out (Nat.le_refl _), hr'.out.below b1.out (Nat.le_refl _), MksOn.none_ _, rfl⟩
   have hcp : Hid (Calls Try.prog 50 #[.agg #[.slice tq tn tc, .slice lq ln lc, .slice lq ln lc, .slice none 0 0, .bool false]] u1 (SerPost u1 ⟨bs, l, l, [], false⟩)) := copied_any ⟨tq, tn, tc, lq, ln, lc, lq, ln, lc, none, 0, 0, false⟩ ⟨bs, l, l, [], false⟩ u1 hxo hfew
   clear hxo hfew
   go_wp2_with (first | (with_reducible refine wpList_load_at rfl 24 (.tmp 2) rfl Try.underlying24 rfl hs1 rfl s1.out.boxed.all ?_))
   refine hcp.out.mono ?_
   rintro e u3 ⟨⟨pt, ptn, ptc, pr, prn, prc, pb, pbn, pbc, pm, pmn, pmc, po⟩, he, ho, hb⟩
   have he' : e = .returned (.agg #[.slice pt ptn ptc, .slice pr prn prc, .slice pb pbn pbc, .slice pm pmn pmc, .bool po]) := he
   subst he'
   have s4 := Lib.hid (s1.out.below hb)
   have a4 := Lib.hid (a1.out.below hb)
   have b4 := Lib.hid (b1.out.trans (hb.mono b1.out.size))
   have o4 := Lib.hid ho
   clear he ho hb hcp
   go_wp2_with (first
    | ((with_reducible refine wpList_store_at rfl 46 (.tmp 4) (.tmp 18) rfl (o := 0) (vs := [.slice pt ptn ptc, .slice pr prn prc, .slice pb pbn pbc, .slice pm pmn pmc, .bool po]) rfl rfl a4.out (sizeSer _ _ _ _ _) (Nat.le_refl _) (ser_one' _ _ _ _ _ _ _ _ _ _ _ _ _) ?_)
       intro u7 h7 hg7
       have z7 : Hid (RowV 46 u7 (w.heap.size + 1) [.slice pt ptn ptc, .slice pr prn prc, .slice pb pbn pbc, .slice pm pmn pmc, .bool po]) := h7
       have o7 := Lib.hid (o4.out.gs hg7 a4.out)
       have b7 := Lib.hid (b4.out.grown hg7 b4.out.size (fun k hk => by cases hk; omega))
       clear h7 hg7))
   have m0 := z7.out.cell 0
   have m1 := z7.out.cell 1
   have m2 := z7.out.cell 2
   have m3 := z7.out.cell 3
   have m4 := z7.out.cell 4
   simp only [List.getElem?_cons_zero, List.getElem?_cons_succ] at m0 m1 m2 m3 m4
   refine bodyPost_ret (v := .tuple #[.agg #[.slice pt ptn ptc, .slice pr prn prc, .slice pb pbn pbc, .slice pm pmn pmc, .bool po], .int .i64 0]) (by simp [results, Try.results22, go_sem, m0, m1, m2, m3, m4]) rfl ?_
   rw [hpost.out]
   exact ⟨⟨pt, ptn, ptc, pr, prn, prc, pb, pbn, pbc, pm, pmn, pmc, po⟩, rfl, by rw [hrs.out]; exact o7.out, b7.out⟩
 · have he1 : (er != 0) = true := by simpa using he
   have hrs : Hid (begS bs l = ⟨[], [], [], [], false⟩) := by show _ = _; unfold begS; rw [if_neg (by rw [her'.out]; exact he)]
   clear he
   go_wp2_with (first
    | ((with_reducible refine wpList_store_at rfl 46 (.tmp 4) (.tmp 12) rfl (o := 0) (vs := [.slice none 0 0, .slice none 0 0, .slice none 0 0, .slice none 0 0, .bool false]) rfl rfl a1.out (sizeSer _ _ _ _ _) (Nat.le_refl _) (ser_one' _ _ _ _ _ _ _ _ _ _ _ _ _) ?_)
       intro u7 h7 hg7
       have z7 : Hid (RowV 46 u7 (w.heap.size + 1) [.slice none 0 0, .slice none 0 0, .slice none 0 0, .slice none 0 0, .bool false]) := h7
       have b7 := Lib.hid (b1.out.grown hg7 b1.out.size (fun k hk => by cases hk; omega))
       clear h7 hg7))
   have m0 := z7.out.cell 0
   have m1 := z7.out.cell 1
   have m2 := z7.out.cell 2
   have m3 := z7.out.cell 3
   have m4 := z7.out.cell 4
   simp only [List.getElem?_cons_zero, List.getElem?_cons_succ] at m0 m1 m2 m3 m4
   refine bodyPost_ret (v := .tuple #[.agg #[.slice none 0 0, .slice none 0 0, .slice none 0 0, .slice none 0 0, .bool false], .int .i64 er]) (by simp [results, Try.results22, go_sem, m0, m1, m2, m3, m4]) rfl ?_
   rw [hpost.out]
   exact ⟨⟨none, 0, 0, none, 0, 0, none, 0, 0, none, 0, 0, false⟩, rfl, by rw [hrs.out]; exact ⟨⟨OwnS.nil _ _ _, fun b h => by cases h⟩, OwnL.none_ _, OwnL.none_ _, OwnM.none_ _, rfl⟩, b7.out⟩
end Go.Proofs.Ytkdkncbccofpdaa
namespace Go.Proofs.Ytkdkncbccofpdaa
open Go.RowKit
set_option maxRecDepth 100000
def bs1 : List BdD := [⟨0, 10⟩]
def l1 : List RowD := [⟨⟨0, 1⟩, 4, ⟨#[]⟩⟩]
def q6 : ReqD := ⟨7, ⟨0, 1⟩, ⟨0, 0⟩, 6, ⟨#[]⟩, 0⟩
def q7 : ReqD := ⟨7, ⟨0, 1⟩, ⟨0, 0⟩, 7, ⟨#[]⟩, 0⟩
theorem wk6 : doM bs1 l1 q6 = ([⟨⟨0, 1⟩, 10, ⟨#[]⟩⟩], ⟨0, [], 0⟩) := by rfl
theorem wk7 : doM bs1 l1 q7 = (l1, ⟨152, [], 0⟩) := by rfl
set_option maxHeartbeats 1000000 in
theorem one_any (w : World) :
 Calls Try.prog 33 #[] w (fun e w' => ∃ q, e = .returned (.agg #[.slice q 1 1]) ∧ SlOn w' q 1 1 bs1 ∧ Below w.heap.size w w') := by
 obtain ⟨W, hW⟩ : ∃ W, (w.alloc (.cells #[.slice none 0 0] 24)).alloc (.cells #[.int .i64 0, .int .i64 10] 75) = W := ⟨_, rfl⟩
 have hbx := Lib.hid (two_rowsI (xs := [.slice none 0 0]) (ys := [.int .i64 0, .int .i64 10]) hW)
 have hs := sizeSch (some ⟨w.heap.size + 1, 0, none⟩) 1 1
 go_enter Try.func33, Try.ntmps33
 go_wp2_with (first
  | ((with_reducible refine wpList_store_at rfl 24 (.tmp 0) (.tmp 3) rfl (o := 0) (vs := [.slice (some ⟨w.heap.size + 1, 0, none⟩) 1 1]) rfl rfl hbx.out.2.1 hs (Nat.le_refl _) (by simp [Value.oneCell']) ?_)
     intro w9 h9 hg9
     have h9' : Hid (RowV 24 w9 w.heap.size [.slice (some ⟨w.heap.size + 1, 0, none⟩) 1 1]) := h9
     have hg9' := Lib.hid hg9
     clear h9 hg9))
 have m0 := h9'.out.cell 0
 simp only [List.getElem?_cons_zero] at m0
 refine bodyPost_ret (v := .agg #[.slice (some ⟨w.heap.size + 1, 0, none⟩) 1 1]) (by simp [results, Try.results33, go_sem, m0]) rfl ?_
 have hrow := hbx.out.2.2.1.kept hg9'.out (by omega)
 refine ⟨_, rfl, (OwnS.single (r := (⟨0, 10⟩ : BdD)) hrow).reads, hbx.out.1.grown hg9'.out hbx.out.1.size (fun k hk => by cases hk; exact Nat.le_refl _)⟩
set_option maxHeartbeats 4000000 in
theorem wakes_any (w : World) : Calls Try.prog 9 #[] w (fun e w' => e = .returned (.bool true) ∧ Below w.heap.size w w') := by
 obtain ⟨W, hW⟩ : ∃ W, w.alloc (.cells #[.int .i64 0, .int .u16 1, .int .i64 4, .string ⟨#[]⟩] 68) = W := ⟨_, rfl⟩
 have hbx := Lib.hid (one_rowI (xs := [.int .i64 0, .int .u16 1, .int .i64 4, .string ⟨#[]⟩]) hW)
 have hb0 := Lib.hid hbx.out.1
 have hl0 : Hid (RowsOn W (some ⟨w.heap.size, 0, none⟩) 1 1 l1) := RowV.rows1 (r := ⟨⟨0, 1⟩, 4, ⟨#[]⟩⟩) hbx.out.2.1 ⟨⟨by unfold I64; decide, by decide⟩, by unfold I64; decide, Nat.zero_le _⟩
 have hok6 : ReqOk q6 := ⟨by unfold I64; decide, ⟨by unfold I64; decide, by decide⟩, ⟨by unfold I64; decide, by decide⟩, by unfold I64; decide, Nat.zero_le _, by unfold I64; decide⟩
 have hok7 : ReqOk q7 := ⟨by unfold I64; decide, ⟨by unfold I64; decide, by decide⟩, ⟨by unfold I64; decide, by decide⟩, by unfold I64; decide, Nat.zero_le _, by unfold I64; decide⟩
 have hbok : ∀ b ∈ bs1, I64 b.lo ∧ I64 b.hi := by
  intro b hb
  simp only [bs1, List.mem_singleton] at hb
  subst hb
  exact ⟨by unfold I64; decide, by unfold I64; decide⟩
 clear hbx
 go_enter Try.func9, Try.ntmps9
 go_wp2_with fail
 clear hW
 refine (one_any W).mono ?_
 rintro e w1 ⟨q1, rfl, hq1, hb⟩
 have hb1 := Lib.hid (hb0.out.trans (hb.mono hb0.out.size))
 have hl1 := Lib.hid (hl0.out.below hb (Nat.le_refl _))
 have hq1' := Lib.hid hq1
 clear hb hq1 hb0 hl0
 go_wp2_with fail
 refine (do_any q1 1 1 (some ⟨w.heap.size, 0, none⟩) 1 1 7 0 1 0 0 6 ⟨#[]⟩ 0 bs1 l1 w1 hq1'.out hbok hl1.out (by decide) hok6).mono ?_
 rintro e w2 ⟨jq, jn, jc, ⟨ae, aq, an, ac, ak⟩, he, ho, hn, hb⟩
 have hw6 : doM bs1 l1 ⟨7, ⟨0, 1⟩, ⟨0, 0⟩, 6, ⟨#[]⟩, 0⟩ = ([⟨⟨0, 1⟩, 10, ⟨#[]⟩⟩], ⟨0, [], 0⟩) := wk6
 rw [hw6] at ho hn
 have e1 : ae = 0 := hn.e
 subst e1
 have e2 : jn = 1 := ho.reads.len.symm
 subst e2
 have he' : e = .returned (.tuple #[.slice jq 1 jc, .agg #[.int .i64 0, .slice aq an ac, .int .i64 ak]]) := he
 subst he'
 obtain ⟨V2, hV2⟩ : ∃ V, w2.alloc (.cells #[.int .i64 0, .slice aq an ac, .int .i64 ak] 35) = V := ⟨_, rfl⟩
 have hbx2 := one_rowI (xs := [.int .i64 0, .slice aq an ac, .int .i64 ak]) hV2
 have hbV := hb.trans (hbx2.1.mono hb.size)
 have hb2 := Lib.hid (hb1.out.trans (hbV.mono hb1.out.size))
 have hl2 := Lib.hid (hl1.out.below hbV (Nat.le_refl _))
 have ho2 := Lib.hid (ho.below hbx2.1)
 have ha2 := Lib.hid hbx2.2.1
 clear he ho hn hb hbx2 hbV hb1 hl1 hw6
 go_wp2_with fail
 clear hV2
 refine (one_any V2).mono ?_
 rintro e w3 ⟨q3, rfl, hq3, hb⟩
 have hb3 := Lib.hid (hb2.out.trans (hb.mono hb2.out.size))
 have hl3 := Lib.hid (hl2.out.below hb (Nat.le_refl _))
 have ho3 := Lib.hid (ho2.out.below hb)
 have ha3 := Lib.hid (ha2.out.below hb)
 have hq3' := Lib.hid hq3
 clear hb hq3 hb2 hl2 ho2 ha2
 go_wp2_with fail
 refine (do_any q3 1 1 (some ⟨w.heap.size, 0, none⟩) 1 1 7 0 1 0 0 7 ⟨#[]⟩ 0 bs1 l1 w3 hq3'.out hbok hl3.out (by decide) hok7).mono ?_
 rintro e w4 ⟨kq, kn, kc, ⟨be, bq, bn, bc, bk⟩, he, ho, hn, hb⟩
 have hw7 : doM bs1 l1 ⟨7, ⟨0, 1⟩, ⟨0, 0⟩, 7, ⟨#[]⟩, 0⟩ = (l1, ⟨152, [], 0⟩) := wk7
 rw [hw7] at ho hn
 have e1 : be = 152 := hn.e
 subst e1
 have he' : e = .returned (.tuple #[.slice kq kn kc, .agg #[.int .i64 152, .slice bq bn bc, .int .i64 bk]]) := he
 subst he'
 obtain ⟨V4, hV4⟩ : ∃ V, w4.alloc (.cells #[.int .i64 152, .slice bq bn bc, .int .i64 bk] 35) = V := ⟨_, rfl⟩
 have hbx4 := one_rowI (xs := [.int .i64 152, .slice bq bn bc, .int .i64 bk]) hV4
 have hbV := hb.trans (hbx4.1.mono hb.size)
 have hb4 := Lib.hid (hb3.out.trans (hbV.mono hb3.out.size))
 have y0 : V4.cell? ⟨w2.heap.size, 0, none⟩ = some (.int .i64 0) := (ha3.out.below hbV).cell 0
 have y1 : V4.cell? ⟨w4.heap.size, 0, none⟩ = some (.int .i64 152) := hbx4.2.1.cell 0
 obtain ⟨A, r, hA, hx, _, hc⟩ := (ho3.out.below hbV).reads.at (show 0 < 1 by decide)
 subst hA
 have hr : r = ⟨⟨0, 1⟩, 10, ⟨#[]⟩⟩ := by simpa using hx.symm
 subst hr
 have y2 : V4.cell? (A.add 2) = some (.int .i64 10) := by have h := hc 2 _ rfl; rw [Nat.zero_mul, add0] at h; exact h
 have y3 : V4.cell? ⟨A.block, A.off + 2, none⟩ = some (.int .i64 10) := y2
 clear he ho hn hb hbx4 hbV hb3 hl3 ho3 ha3 hx hc
 go_wp2
 go_ret
 exact ⟨rfl, hb4.out⟩
end Go.Proofs.Ytkdkncbccofpdaa
namespace Go.Proofs.Ytkdkncbccofpdaa
open Go.RowKit
set_option maxRecDepth 100000
set_option maxRecDepth 100000 in
set_option maxHeartbeats 2000000 in
theorem over_any (q : Option Addr) (n c : Nat) (lq : Option Addr) (ln lc : Nat) (l : List RowD) (w : World) (hn : n ≤ maxLen) (hr : RowsOn w lq ln lc l) :
 Calls Try.prog 10 #[.agg #[.slice q n c], .slice lq ln lc] w (OverPost w n ln) := by
 have hm := Nat.le_trans hr.le hr.cap
 unfold maxLen at hm hn
 obtain ⟨W, hW⟩ : ∃ W, w.alloc (.cells #[.slice q n c] 24) = W := ⟨_, rfl⟩
 have hbx := Lib.hid (one_box (xs := [.slice q n c]) hW)
 have c0 := hbx.out.2.1.cell 0 rfl
 have hrr := Lib.hid (hr.below hbx.out.1 (Nat.le_refl _))
 clear hr
 by_cases h20 : 20 < n
 · go_enter Try.func10, Try.ntmps10
   go_wp2
   go_ret
   exact ⟨true, rfl, (fun h => by cases h), hbx.out.1⟩
 · by_cases h100 : 100 < ln
   · go_enter Try.func10, Try.ntmps10
     go_wp2
     go_ret
     exact ⟨true, rfl, (fun h => by cases h), hbx.out.1⟩
   · go_enter Try.func10, Try.ntmps10
     go_wp2
     clear hW
     have hr0 : Hid (Below W.heap.size W W) := Below.refl _ _
     go_loopw [18] (fun v18 wr => ∃ k : Nat, k ≤ ln ∧ v18 = .int .i64 k ∧ Hid (Below W.heap.size W wr)) (fun v18 _ => ln - (Go.RowKit.intOf v18).toNat)
     case atStart => exact ⟨0, Nat.zero_le _, rfl, hr0⟩
     case round =>
      obtain ⟨k, hk, rfl, hrl⟩ := hrel
      by_cases hlt : k < ln
      · obtain ⟨a, ⟨⟨t, id⟩, v, s⟩, rfl, hx, hok, hc⟩ := (hrr.out.below hrl.out (Nat.le_refl _)).at hlt
        have hcell : Hid (∀ j x, ([.int .i64 t, .int .u16 id, .int .i64 v, .string s] : List Value)[j]? = some x → wr.cell? ((a.add (k * 4)).add j) = some x) := hc
        have hsn := hok.note
        unfold maxLen at hsn
        have hs2 := sizeRow t id v s
        have hb3 := Lib.hid (hrl.out.alloc hrl.out.size (.cells #[.int .i64 t, .int .u16 id, .int .i64 v, .string s] 68))
        clear hx hok hc
        by_cases hs : 100 < s.size
        · go_wp2_with (first
           | (with_reducible refine wpList_load_at rfl 68 (.tmp 20) rfl Try.underlying68 rfl hs2 rfl hcell.out ?_))
          go_ret
          exact ⟨true, rfl, (fun h => by cases h), hbx.out.1.trans (hb3.out.mono hbx.out.1.size)⟩
        · go_wp2_with (first
           | (with_reducible refine wpList_load_at rfl 68 (.tmp 20) rfl Try.underlying68 rfl hs2 rfl hcell.out ?_))
          go_roundw
          case rel => exact ⟨k + 1, by omega, by go_num, hb3⟩
          case measure => simp [Go.RowKit.intOf]; omega
      · obtain rfl : ln = k := by omega
        go_wp2
        go_ret
        exact ⟨false, rfl, (fun _ => ⟨by omega, by omega⟩), hbx.out.1.trans (hrl.out.mono hbx.out.1.size)⟩
/-- what overSerial lets by -/
structure Mod (x : SerD) : Prop where
 bs : x.bs.length ≤ 20
 rows : x.rows.length ≤ 100
 begun : x.begun.length ≤ 100
 marks : x.marks.length ≤ 20
 each : ∀ l ∈ x.marks, l.length ≤ 100
theorem Mod.few {x : SerD} (h : Mod x) : Few x :=
 ⟨by have := h.bs; omega, by have := h.rows; omega, by have := h.begun; omega, by have := h.marks; omega, fun l hl => by have := h.each l hl; omega⟩
def OsPost (x : SerD) (w : World) (e : Ending) (w' : World) : Prop := ∃ b : Bool, e = .returned (.bool b) ∧ (b = false → Mod x) ∧ Below w.heap.size w w'
set_option maxHeartbeats 4000000 in
theorem overS_any (tq : Option Addr) (tn tc : Nat) (rq : Option Addr) (rn rc : Nat) (bq : Option Addr) (bn bc : Nat) (mq : Option Addr) (mn mc : Nat) (o : Bool) (x : SerD) (w : World) (hx : (⟨tq, tn, tc, rq, rn, rc, bq, bn, bc, mq, mn, mc, o⟩ : SV).On w x) :
 Calls Try.prog 19 #[.agg #[.slice tq tn tc, .slice rq rn rc, .slice bq bn bc, .slice mq mn mc, .bool o]] w (OsPost x w) := by
 obtain ⟨W, hW⟩ : ∃ W, w.alloc (.cells #[.slice tq tn tc, .slice rq rn rc, .slice bq bn bc, .slice mq mn mc, .bool o] 46) = W := ⟨_, rfl⟩
 have hbx := Lib.hid (one_rowI (xs := [.slice tq tn tc, .slice rq rn rc, .slice bq bn bc, .slice mq mn mc, .bool o]) hW)
 have b0 := Lib.hid hbx.out.1
 have s0 := Lib.hid hbx.out.2.1
 have y0 : W.cell? ⟨w.heap.size, 0, none⟩ = some (.slice tq tn tc) := s0.out.cell 0
 have y1 : W.cell? ⟨w.heap.size, 1, none⟩ = some (.slice rq rn rc) := s0.out.cell 1
 have hx0 := Lib.hid (hx.below b0.out (Nat.le_refl _))
 have htm : tn ≤ maxLen := Nat.le_trans hx.sch.le hx.sch.cap
 have htn : Hid (x.bs.length = tn) := hx.sch.len
 have hrn : Hid (x.rows.length = rn) := hx.rows.len
 have hbn : Hid (x.begun.length = bn) := hx.begun.len
 have hmn : Hid (x.marks.length = mn) := hx.marks.len
 have hmm : mn ≤ maxLen := by obtain ⟨vs, h1, _⟩ := hx.marks; exact Nat.le_trans h1.le h1.cap
 clear hx hbx
 go_enter Try.func19, Try.ntmps19
 go_wp2_with fail
 clear hW y0 y1
 refine (over_any tq tn tc rq rn rc x.rows W htm hx0.out.rows).mono ?_
 rintro e u1 ⟨B1, rfl, hB1, hb⟩
 have b1 := Lib.hid (b0.out.trans (hb.mono b0.out.size))
 have s1 := Lib.hid (s0.out.below hb)
 have hx1 := Lib.hid (hx0.out.below hb (Nat.le_refl _))
 have hB1' := Lib.hid hB1
 clear hb hB1 s0 b0 hx0
 cases B1 with
 | true =>
   go_wp2
   go_ret
   exact ⟨true, rfl, (fun h => by cases h), b1.out⟩
 | false =>
   have y0 : u1.cell? ⟨w.heap.size, 0, none⟩ = some (.slice tq tn tc) := s1.out.cell 0
   have y2 : u1.cell? ⟨w.heap.size, 2, none⟩ = some (.slice bq bn bc) := s1.out.cell 2
   go_wp2_with fail
   clear y0 y2
   refine (over_any tq tn tc bq bn bc x.begun u1 htm hx1.out.begun).mono ?_
   rintro e u2 ⟨B2, rfl, hB2, hb⟩
   have b2 := Lib.hid (b1.out.trans (hb.mono b1.out.size))
   have s2 := Lib.hid (s1.out.below hb)
   have hx2 := Lib.hid (hx1.out.below hb (Nat.le_refl _))
   have hB2' := Lib.hid hB2
   clear hb hB2 s1 b1 hx1
   cases B2 with
   | true =>
     go_wp2
     go_ret
     exact ⟨true, rfl, (fun h => by cases h), b2.out⟩
   | false =>
     have y3 : u2.cell? ⟨w.heap.size, 3, none⟩ = some (.slice mq mn mc) := s2.out.cell 3
     unfold maxLen at hmm
     by_cases h20 : 20 < mn
     · have e1 : decide ((20 : Int) < mn) = true := by simp; omega
       go_wp2
       go_ret
       exact ⟨true, rfl, (fun h => by cases h), b2.out⟩
     · have e1 : decide ((20 : Int) < mn) = false := by simp; omega
       go_wp2
       clear y3
       go_loopw [26] (fun v26 wr => ∃ k : Nat, k ≤ mn ∧ v26 = .int .i64 k ∧ Hid (Below u2.heap.size u2 wr) ∧ Hid (∀ (i : Nat) (l : List RowD), i < k → x.marks[i]? = some l → l.length ≤ 100)) (fun v26 _ => mn - (Go.RowKit.intOf v26).toNat)
       case atStart => exact ⟨0, Nat.zero_le _, rfl, (show Below _ _ _ from Below.refl _ _), fun i l hi => by omega⟩
       case round =>
        obtain ⟨k, hk, rfl, brr, hp⟩ := hrel
        by_cases hlt : k < mn
        · have hxr := hx2.out.below brr.out (Nat.le_refl _)
          obtain ⟨vs, hvs, hvl, hve⟩ := hxr.marks
          have hvs' : SlOn wr mq mn mc vs := hvs
          obtain ⟨A, ⟨vq, vn, vc⟩, rfl, hv, hcl⟩ := hvs'.at hlt
          obtain ⟨l, hl⟩ : ∃ l, x.marks[k]? = some l := ⟨_, List.getElem?_eq_getElem (by have := hmn.out; omega)⟩
          have ron := Lib.hid (hve k _ l hv hl)
          have hl' := Lib.hid hl
          have c1 : wr.cell? ((A.add (k * 1)).add 0) = some (.slice vq vn vc) := hcl 0 _ rfl
          rw [add0, Nat.mul_one] at c1
          have y0 : wr.cell? ⟨w.heap.size, 0, none⟩ = some (.slice tq tn tc) := (s2.out.below brr.out).cell 0
          clear hvs hvs' hvl hve hv hcl hl hxr
          go_wp2_with fail
          clear c1 y0
          refine (over_any tq tn tc vq vn vc l wr htm ron.out).mono ?_
          rintro e u5 ⟨B3, rfl, hB3, hb⟩
          have b5 := Lib.hid (brr.out.trans (hb.mono brr.out.size))
          have hB3' := Lib.hid hB3
          have hln : Hid (l.length = vn) := ron.out.len
          clear hb hB3
          cases B3 with
          | true =>
            go_wp2
            go_ret
            exact ⟨true, rfl, (fun h => by cases h), b2.out.trans (b5.out.mono b2.out.size)⟩
          | false =>
            go_wp2
            go_roundw
            case rel => exact ⟨k + 1, by omega, by go_num, b5, fun i m hi hm => by
             by_cases e : i = k
             · subst e
               have hx := hl'.out
               rw [hx] at hm
               obtain rfl : l = m := by simpa using hm
               have h1 := (hB3'.out (by trivial)).2
               have h2 := hln.out
               omega
             · exact hp.out i m (by omega) hm⟩
            case measure => simp [Go.RowKit.intOf]; omega
        · obtain rfl : k = mn := by omega
          go_wp2
          go_ret
          refine ⟨false, rfl, (fun _ => ⟨?_, ?_, ?_, ?_, ?_⟩), b2.out.trans (brr.out.mono b2.out.size)⟩
          · have h1 := (hB1'.out (by trivial)).1; have h2 := htn.out; omega
          · have h1 := (hB1'.out (by trivial)).2; have h2 := hrn.out; omega
          · have h1 := (hB2'.out (by trivial)).2; have h2 := hbn.out; omega
          · have h2 := hmn.out; omega
          · intro l hl
            obtain ⟨i, hi⟩ := List.getElem?_of_mem hl
            have h1 := (List.getElem?_eq_some_iff.1 hi).1
            have h2 := hmn.out
            exact hp.out i l (by omega) hi
end Go.Proofs.Ytkdkncbccofpdaa
namespace Go.Proofs.Ytkdkncbccofpdaa
open Go.RowKit
section
variable {α : Type} (f : α → α → Bool)
/-- two lists that are the same, one by one -/
def sameG : List α → List α → Bool
 | [], [] => true
 | a :: l, b :: m => f a b && sameG l m
 | _, _ => false
theorem sameG_of : ∀ {l m : List α} {n : Nat}, l.length = n → m.length = n → (∀ i a b, i < n → l[i]? = some a → m[i]? = some b → f a b = true) → sameG f l m = true
 | [], [], _, _, _, _ => rfl
 | [], b :: m, n, h1, h2, _ => by simp at h1 h2; omega
 | a :: l, [], n, h1, h2, _ => by simp at h1 h2; omega
 | a :: l, b :: m, n, h1, h2, h => by
   obtain ⟨k, rfl⟩ : ∃ k, n = k + 1 := ⟨l.length, by simpa using h1.symm⟩
   unfold sameG
   rw [h 0 a b (by omega) rfl rfl, Bool.true_and]
   exact sameG_of (by simpa using h1) (by simpa using h2) (fun i x y hi hx hy => h (i + 1) x y (by omega) (by simpa using hx) (by simpa using hy))
theorem sameG_ne : ∀ {l m : List α}, l.length ≠ m.length → sameG f l m = false
 | [], [], h => absurd rfl h
 | [], b :: m, _ => rfl
 | a :: l, [], _ => rfl
 | a :: l, b :: m, h => by
   unfold sameG
   rw [sameG_ne (by simpa using h), Bool.and_false]
theorem sameG_at : ∀ {l m : List α} {i : Nat} {a b : α}, l[i]? = some a → m[i]? = some b → f a b = false → sameG f l m = false
 | [], _, i, a, b, h1, _, _ => by simp at h1
 | _ :: _, [], i, a, b, _, h2, _ => by simp at h2
 | x :: l, y :: m, 0, a, b, h1, h2, h => by
   simp at h1 h2
   subst h1 h2
   unfold sameG
   rw [h, Bool.false_and]
 | x :: l, y :: m, i + 1, a, b, h1, h2, h => by
   unfold sameG
   rw [sameG_at (by simpa using h1) (by simpa using h2) h, Bool.and_false]
theorem sameG_iff (hf : ∀ a b, f a b = true ↔ a = b) : ∀ {l m : List α}, sameG f l m = true ↔ l = m
 | [], [] => by simp [sameG]
 | [], b :: m => by simp [sameG]
 | a :: l, [] => by simp [sameG]
 | a :: l, b :: m => by simp only [sameG, Bool.and_eq_true, hf, sameG_iff hf, List.cons.injEq]
end
def eqBd (a b : BdD) : Bool := a.lo == b.lo && a.hi == b.hi
theorem eqBd_iff (x y : BdD) : eqBd x y = true ↔ x = y := by
 obtain ⟨a, b⟩ := x
 obtain ⟨c, d⟩ := y
 simp [eqBd]
set_option maxRecDepth 100000 in
theorem neq_bd (w : World) (a b c d : Int) : (binOp .neq 75 (.agg #[.int .i64 a, .int .i64 b]) (.agg #[.int .i64 c, .int .i64 d])).run Try.prog w = .ok (.bool (!eqBd ⟨a, b⟩ ⟨c, d⟩)) w := by
 rw [run_neq_struct]
 have hS : Try.prog.underlying 75 = some (.struct (Try.prog.fieldsOf 75)) := by kernel_rfl
 have hp : Try.prog.stoodInHeld 75 = false := by kernel_rfl
 have u3 := Try.underlying2
 have a3 := Try.isAgg2
 have z3 := Try.sizeOf2
 rw [show (10000 : Nat) = 9999 + 1 from rfl, run_equalIn_agg w 9999 75 _ _ hS hp]
 simp only [Program.fieldsOf, Try.underlying75]
 clear hS hp
 unfold eqBd
 go_simp
 by_cases h1 : a = c <;> by_cases h2 : b = d <;> simp [h1, h2]
def serSame (x y : SerD) : Bool := sameG eqBd x.bs y.bs && (sameL x.rows y.rows && (sameL x.begun y.begun && (sameG sameL x.marks y.marks && (x.over == y.over))))
theorem serSame_iff {x y : SerD} : serSame x y = true ↔ x = y := by
 obtain ⟨a, b, c, d, e⟩ := x
 obtain ⟨a', b', c', d', e'⟩ := y
 unfold serSame
 simp only [Bool.and_eq_true, sameG_iff eqBd eqBd_iff, sameL_iff, sameG_iff sameL (fun _ _ => sameL_iff), beq_iff_eq, SerD.mk.injEq]
end Go.Proofs.Ytkdkncbccofpdaa
