/- Do and Begin of ideal. -/
import Derived.Test.YtkdkncbccofpdaaISt
namespace Go.Proofs.Ytkdkncbccofpdaa
open Go.RowKit
set_option maxRecDepth 100000

theorem three_rowsI {w W : World} {T1 T2 T3 : TypeId} {xs ys zs : List Value} (h : ((w.alloc (.cells xs.toArray T1)).alloc (.cells ys.toArray T2)).alloc (.cells zs.toArray T3) = W) :
    Below w.heap.size w W ∧ RowV T1 W w.heap.size xs ∧ RowV T2 W (w.heap.size + 1) ys ∧ RowV T3 W (w.heap.size + 2) zs ∧ W.heap.size = w.heap.size + 3 := by
  obtain ⟨V, hV⟩ : ∃ V, (w.alloc (.cells xs.toArray T1)).alloc (.cells ys.toArray T2) = V := ⟨_, rfl⟩
  rw [hV] at h
  obtain ⟨h1, h2, h3, h4⟩ := two_rowsI hV
  obtain ⟨k1, k2, k3⟩ := one_rowI h
  rw [h4] at k2 k3
  exact ⟨h1.trans (k1.mono h1.size), h2.below k1, h3.below k1, k2, k3⟩
def aloneS (bs : List BdD) (l : List RowD) : SerD := ⟨bs, l, [], [], false⟩
def doM (bs : List BdD) (l : List RowD) (q : ReqD) : List RowD × AnsD :=
  if chkList bs l ≠ 0 then (l, errA (chkList bs l)) else if (reqB bs q && decide (q.k ≤ 8)) = false then (l, errA 250) else ((stepW (aloneS bs l) q).1.rows, (stepW (aloneS bs l) q).2)
def DoPost (r : List RowD × AnsD) (w : World) (e : Ending) (w' : World) : Prop :=
  ∃ (q : Option Addr) (n c : Nat) (u : AV), e = .returned (.tuple #[.slice q n c, .agg u.cells.toArray]) ∧ OwnL w' q n c r.1 ∧ u.Own w' r.2 ∧ Below w.heap.size w w'

set_option maxHeartbeats 3000000 in
theorem do_any (tq : Option Addr) (tn tc : Nat) (lq : Option Addr) (ln lc : Nat) (qk kt ki tt ti qv : Int) (qs : ByteArray) (qn : Int) (bs : List BdD) (l : List RowD) (w : World) (hs : SlOn w tq tn tc bs) (hsk : ∀ b ∈ bs, I64 b.lo ∧ I64 b.hi) (hr : RowsOn w lq ln lc l) (hn : ln ≤ 1000000) (hq : ReqOk ⟨qk, ⟨kt, ki⟩, ⟨tt, ti⟩, qv, qs, qn⟩) :
    Calls Try.prog 11 #[.agg #[.slice tq tn tc], .slice lq ln lc, .agg #[.int .i64 qk, .int .i64 kt, .int .u16 ki, .int .i64 tt, .int .u16 ti, .int .i64 qv, .string qs, .int .i64 qn]] w (DoPost (doM bs l ⟨qk, ⟨kt, ki⟩, ⟨tt, ti⟩, qv, qs, qn⟩) w) := by
  obtain ⟨W, hW⟩ : ∃ W, ((w.alloc (.cells #[.slice tq tn tc] 24)).alloc (.cells #[.int .i64 qk, .int .i64 kt, .int .u16 ki, .int .i64 tt, .int .u16 ti, .int .i64 qv, .string qs, .int .i64 qn] 30)).alloc (.cells #[.int .i64 0, .slice none 0 0, .int .i64 0] 35) = W := ⟨_, rfl⟩
  have hbx := Lib.hid (three_rowsI (xs := [.slice tq tn tc]) (ys := [.int .i64 qk, .int .i64 kt, .int .u16 ki, .int .i64 tt, .int .u16 ti, .int .i64 qv, .string qs, .int .i64 qn]) (zs := [.int .i64 0, .slice none 0 0, .int .i64 0]) hW)
  have b0 := Lib.hid hbx.out.1
  have s0 := Lib.hid hbx.out.2.1
  have q0 := Lib.hid hbx.out.2.2.1
  have a0 : Hid (RowV 35 W (w.heap.size + 1 + 1) [.int .i64 0, .slice none 0 0, .int .i64 0]) := hbx.out.2.2.2.1
  have hs' := Lib.hid hs
  have hsk' := Lib.hid hsk
  have hr' := Lib.hid hr
  have hq' := Lib.hid hq
  have hll := Lib.hid hr.len
  have hs1 := sizeSch tq tn tc
  have hs2 := sizeReq (.int .i64 qk) (.int .i64 kt) (.int .u16 ki) (.int .i64 tt) (.int .u16 ti) (.int .i64 qv) (.string qs) (.int .i64 qn)
  clear hs hsk hr hq hbx
  go_enter Try.func11, Try.ntmps11
  go_wp2_with (first | (with_reducible refine wpList_load_at rfl 24 (.tmp 3) rfl Try.underlying24 rfl hs1 rfl s0.out.boxed.all ?_))
  clear hW
  refine (checkList_any tq tn tc bs lq ln lc l W ((hs'.out.sch hsk'.out).below b0.out (Nat.le_refl _)) (hr'.out.below b0.out (Nat.le_refl _))).mono ?_
  rintro e u1 ⟨rfl, hb⟩
  have s1 := Lib.hid (s0.out.below hb)
  have q1 := Lib.hid (q0.out.below hb)
  have a1 := Lib.hid (a0.out.below hb)
  have b1 := Lib.hid (b0.out.trans (hb.mono b0.out.size))
  clear hb s0 q0 a0 b0
  obtain ⟨er, her⟩ : ∃ er, chkList bs l = er := ⟨_, rfl⟩
  rw [her]
  have her' := Lib.hid her
  clear her
  by_cases he : er = 0
  · subst he
    have hok := Lib.hid (chkList_zero her'.out)
    go_wp2_with (first | (with_reducible refine wpList_load_at rfl 24 (.tmp 3) rfl Try.underlying24 rfl hs1 rfl s1.out.boxed.all ?_) | (with_reducible refine wpList_load_at rfl 30 (.tmp 5) rfl Try.underlying30 rfl hs2 rfl q1.out.boxed.all ?_))
    refine (isReq_any qk kt ki tt ti qv qs qn bs u1 tq tn tc ((hs'.out.sch hsk'.out).below b1.out (Nat.le_refl _)) hq'.out.note).mono ?_
    rintro e u2 ⟨rfl, hb⟩
    have s2 := Lib.hid (s1.out.below hb)
    have q2 := Lib.hid (q1.out.below hb)
    have a2 := Lib.hid (a1.out.below hb)
    have b2 := Lib.hid (b1.out.trans (hb.mono b1.out.size))
    clear hb s1 q1 a1 b1
    obtain ⟨C, hC⟩ : ∃ C, reqB bs ⟨qk, ⟨kt, ki⟩, ⟨tt, ti⟩, qv, qs, qn⟩ = C := ⟨_, rfl⟩
    rw [hC]
    have hC' := Lib.hid hC
    clear hC
    cases C with
    | false =>
      have hr : Hid (doM bs l ⟨qk, ⟨kt, ki⟩, ⟨tt, ti⟩, qv, qs, qn⟩ = (l, errA 250)) := by show _ = _; unfold doM; rw [if_neg (by rw [her'.out]; simp), if_pos (by rw [hC'.out]; rfl)]
      go_wp2_with fail
      refine (cloneR_any lq ln lc l u2 (hr'.out.below b2.out (Nat.le_refl _)) hn).mono ?_
      rintro e u3 ⟨jq, jc, rfl, ho, hb⟩
      have s4 := Lib.hid (s2.out.below hb)
      have q4 := Lib.hid (q2.out.below hb)
      have a4 := Lib.hid (a2.out.below hb)
      have b4 := Lib.hid (b2.out.trans (hb.mono b2.out.size))
      have o4 := Lib.hid ho
      clear ho hb
      go_wp2_with fail
      refine (told_any 250 u3).mono ?_
      rintro e u4 ⟨rfl, hb⟩
      have s5 := Lib.hid (s4.out.below hb)
      have q5 := Lib.hid (q4.out.below hb)
      have a5 := Lib.hid (a4.out.below hb)
      have b5 := Lib.hid (b4.out.trans (hb.mono b4.out.size))
      have o5 := Lib.hid (o4.out.below hb)
      have n5 := Lib.hid (AV.Own.err 250 u4)
      clear hb
      go_wp2_with (first
        | ((with_reducible refine wpList_store_at rfl 35 (.tmp 7) (.tmp 31) rfl (o := 0) (vs := [.int .i64 250, .slice none 0 0, .int .i64 0]) rfl rfl a5.out (sizeAns _ _ _) (Nat.le_refl _) (ans_one _ _ _ _ _) ?_)
           intro u8 h8 hg8
           have a8 : Hid (RowV 35 u8 (w.heap.size + 1 + 1) [.int .i64 250, .slice none 0 0, .int .i64 0]) := h8
           have o8 := Lib.hid (o5.out.gt hg8 a5.out (by decide))
           have n8 := Lib.hid (n5.out.ga hg8 a5.out)
           have b8 := Lib.hid (b5.out.grown hg8 b5.out.size (fun k hk => by cases hk; omega))
           clear h8 hg8))
      have k0 := a8.out.cell 0
      have k1 := a8.out.cell 1
      have k2 := a8.out.cell 2
      simp only [List.getElem?_cons_zero, List.getElem?_cons_succ] at k0 k1 k2
      refine bodyPost_ret (v := .tuple #[.slice jq ln jc, .agg #[.int .i64 250, .slice none 0 0, .int .i64 0]]) (by simp [results, Try.results11, go_sem, k0, k1, k2]) rfl ?_
      rw [hr.out]
      exact ⟨_, _, _, ⟨250, none, 0, 0, 0⟩, rfl, o8.out, n8.out, b8.out⟩
    | true =>
      have y0 : u2.cell? ⟨w.heap.size + 1, 0, none⟩ = some (.int .i64 qk) := q2.out.cell 0
      have y1 : u2.cell? ⟨w.heap.size + 1, 1, none⟩ = some (.int .i64 kt) := q2.out.cell 1
      have y2 : u2.cell? ⟨w.heap.size + 1, 2, none⟩ = some (.int .u16 ki) := q2.out.cell 2
      have y3 : u2.cell? ⟨w.heap.size + 1, 3, none⟩ = some (.int .i64 tt) := q2.out.cell 3
      have y4 : u2.cell? ⟨w.heap.size + 1, 4, none⟩ = some (.int .u16 ti) := q2.out.cell 4
      have y5 : u2.cell? ⟨w.heap.size + 1, 5, none⟩ = some (.int .i64 qv) := q2.out.cell 5
      have y6 : u2.cell? ⟨w.heap.size + 1, 6, none⟩ = some (.string qs) := q2.out.cell 6
      have y7 : u2.cell? ⟨w.heap.size + 1, 7, none⟩ = some (.int .i64 qn) := q2.out.cell 7
      go_wp2_with fail
      clear y0 y1 y2 y3 y4 y5 y6 y7
      refine (ofRows_any qk kt ki tt ti qv qs qn u2).mono ?_
      rintro e u6 ⟨rfl, hb⟩
      have s6 := Lib.hid (s2.out.below hb)
      have q6 := Lib.hid (q2.out.below hb)
      have a6 := Lib.hid (a2.out.below hb)
      have b6 := Lib.hid (b2.out.trans (hb.mono b2.out.size))
      clear hb s2 q2 a2 b2
      obtain ⟨C, hC⟩ : ∃ C, decide (qk ≤ 8) = C := ⟨_, rfl⟩
      rw [hC]
      have hD' : Hid (decide (qk ≤ 8) = C) := hC
      clear hC
      cases C with
      | false =>
        have hr : Hid (doM bs l ⟨qk, ⟨kt, ki⟩, ⟨tt, ti⟩, qv, qs, qn⟩ = (l, errA 250)) := by show _ = _; unfold doM; rw [if_neg (by rw [her'.out]; simp), if_pos (by rw [hC'.out]; show (true && decide (qk ≤ 8)) = false; rw [hD'.out]; rfl)]
        go_wp2_with fail
        refine (cloneR_any lq ln lc l u6 (hr'.out.below b6.out (Nat.le_refl _)) hn).mono ?_
        rintro e u3 ⟨jq, jc, rfl, ho, hb⟩
        have s4 := Lib.hid (s6.out.below hb)
        have q4 := Lib.hid (q6.out.below hb)
        have a4 := Lib.hid (a6.out.below hb)
        have b4 := Lib.hid (b6.out.trans (hb.mono b6.out.size))
        have o4 := Lib.hid ho
        clear ho hb
        go_wp2_with fail
        refine (told_any 250 u3).mono ?_
        rintro e u4 ⟨rfl, hb⟩
        have s5 := Lib.hid (s4.out.below hb)
        have q5 := Lib.hid (q4.out.below hb)
        have a5 := Lib.hid (a4.out.below hb)
        have b5 := Lib.hid (b4.out.trans (hb.mono b4.out.size))
        have o5 := Lib.hid (o4.out.below hb)
        have n5 := Lib.hid (AV.Own.err 250 u4)
        clear hb
        go_wp2_with (first
          | ((with_reducible refine wpList_store_at rfl 35 (.tmp 7) (.tmp 31) rfl (o := 0) (vs := [.int .i64 250, .slice none 0 0, .int .i64 0]) rfl rfl a5.out (sizeAns _ _ _) (Nat.le_refl _) (ans_one _ _ _ _ _) ?_)
             intro u8 h8 hg8
             have a8 : Hid (RowV 35 u8 (w.heap.size + 1 + 1) [.int .i64 250, .slice none 0 0, .int .i64 0]) := h8
             have o8 := Lib.hid (o5.out.gt hg8 a5.out (by decide))
             have n8 := Lib.hid (n5.out.ga hg8 a5.out)
             have b8 := Lib.hid (b5.out.grown hg8 b5.out.size (fun k hk => by cases hk; omega))
             clear h8 hg8))
        have k0 := a8.out.cell 0
        have k1 := a8.out.cell 1
        have k2 := a8.out.cell 2
        simp only [List.getElem?_cons_zero, List.getElem?_cons_succ] at k0 k1 k2
        refine bodyPost_ret (v := .tuple #[.slice jq ln jc, .agg #[.int .i64 250, .slice none 0 0, .int .i64 0]]) (by simp [results, Try.results11, go_sem, k0, k1, k2]) rfl ?_
        rw [hr.out]
        exact ⟨_, _, _, ⟨250, none, 0, 0, 0⟩, rfl, o8.out, n8.out, b8.out⟩
      | true =>
        have hr : Hid (doM bs l ⟨qk, ⟨kt, ki⟩, ⟨tt, ti⟩, qv, qs, qn⟩ = ((stepW (aloneS bs l) ⟨qk, ⟨kt, ki⟩, ⟨tt, ti⟩, qv, qs, qn⟩).1.rows, (stepW (aloneS bs l) ⟨qk, ⟨kt, ki⟩, ⟨tt, ti⟩, qv, qs, qn⟩).2)) := by show _ = _; unfold doM; rw [if_neg (by rw [her'.out]; simp), if_neg (by rw [hC'.out]; show ¬ (true && decide (qk ≤ 8)) = false; rw [hD'.out]; simp)]
        have hxo : (⟨tq, tn, tc, lq, ln, lc, none, 0, 0, none, 0, 0, false⟩ : SV).On u6 (aloneS bs l) := ⟨hs'.out.below b6.out (Nat.le_refl _), hsk'.out, hr'.out.below b6.out (Nat.le_refl _), RowsOn.none_ _, MksOn.none_ _, rfl⟩
        have hfew : Few (aloneS bs l) := by
          have h60 := ((okL_iff bs l).1 hok.out.2).1
          have h3 := ((okS_iff bs).1 hok.out.1).2.1
          exact ⟨show bs.length ≤ 1000000 by omega, show l.length ≤ 1000000 by omega, Nat.zero_le _, Nat.zero_le _, fun m hm => by cases hm⟩
        have hdn : Hid (Calls Try.prog 38 #[.agg #[.slice tq tn tc, .slice lq ln lc, .slice none 0 0, .slice none 0 0, .bool false], .agg #[.int .i64 qk, .int .i64 kt, .int .u16 ki, .int .i64 tt, .int .u16 ti, .int .i64 qv, .string qs, .int .i64 qn]] u6 (DonePost (stepW (aloneS bs l) ⟨qk, ⟨kt, ki⟩, ⟨tt, ti⟩, qv, qs, qn⟩) u6)) := done_any tq tn tc lq ln lc none 0 0 none 0 0 false qk kt ki tt ti qv qs qn (aloneS bs l) u6 hxo ⟨hfew, hq'.out, reqB_kind hC'.out, Nat.zero_le _, fun h => reqB_move hC'.out h, fun h => reqB_back hC'.out h⟩
        have hsp := sizeSch tq tn tc
        clear hxo hfew
        go_wp2_with (first | (with_reducible refine wpList_load_at rfl 24 (.tmp 3) rfl Try.underlying24 rfl hs1 rfl s6.out.boxed.all ?_) | (with_reducible refine wpList_load_at rfl 30 (.tmp 5) rfl Try.underlying30 rfl hs2 rfl q6.out.boxed.all ?_))
        refine hdn.out.mono ?_
        rintro e u3 ⟨⟨pt, ptn, ptc, pr, prn, prc, pb, pbn, pbc, pm, pmn, pmc, po⟩, ⟨ae, aq, an, ac, ak⟩, he, ho, hn_, hb⟩
        have he' : e = .returned (.tuple #[.agg #[.slice pt ptn ptc, .slice pr prn prc, .slice pb pbn pbc, .slice pm pmn pmc, .bool po], .agg #[.int .i64 ae, .slice aq an ac, .int .i64 ak]]) := he
        subst he'
        obtain ⟨V, hV⟩ : ∃ V, (u3.alloc (.cells #[.slice pt ptn ptc, .slice pr prn prc, .slice pb pbn pbc, .slice pm pmn pmc, .bool po] 46)).alloc (.cells #[.int .i64 ae, .slice aq an ac, .int .i64 ak] 35) = V := ⟨_, rfl⟩
        have hbx2 := two_rowsI (xs := [.slice pt ptn ptc, .slice pr prn prc, .slice pb pbn pbc, .slice pm pmn pmc, .bool po]) (ys := [.int .i64 ae, .slice aq an ac, .int .i64 ak]) hV
        have hbV : Below u6.heap.size u6 V := hb.trans (hbx2.1.mono hb.size)
        have a5 := Lib.hid (a6.out.below hbV)
        have b5 := Lib.hid (b6.out.trans (hbV.mono b6.out.size))
        have o5 := Lib.hid ((ho.below hbx2.1).rows)
        have n5 := Lib.hid (hn_.below hbx2.1)
        have v1 := Lib.hid hbx2.2.1
        have v2 := Lib.hid hbx2.2.2.1
        have hlowV : w.heap.size + 1 + 1 < u3.heap.size := by have h1 := a6.out.lt; have h2 := hb.size; omega
        clear he ho hn_ hb hdn hbx2 hbV
        go_wp2_with fail
        refine wp_region_x (by kernel_rfl) 4 (fun u => RowV 46 u u3.heap.size [.slice pt ptn ptc, .slice pr prn prc, .slice pb pbn pbc, .slice pm pmn pmc, .bool po] ∧ RowV 35 u (u3.heap.size + 1) [.int .i64 ae, .slice aq an ac, .int .i64 ak]) ?_
        change wpAnyX _ _ _ _ _ _ _ _ _ (World.drew V)
        have hX6 : Hid ((fun u : World => RowV 46 u u3.heap.size [.slice pt ptn ptc, .slice pr prn prc, .slice pb pbn pbc, .slice pm pmn pmc, .bool po] ∧ RowV 35 u (u3.heap.size + 1) [.int .i64 ae, .slice aq an ac, .int .i64 ak]) V.drew) := ⟨v1.out, v2.out⟩
        refine x_pu (i := 0) (dst := some 40) (v := .pointer (some ⟨u3.heap.size, 1, none⟩)) rfl rfl (.inl ⟨rfl, fun u _ => by go_simp⟩) (fun _ => hX6.out) ?_
        go_frame
        refine x_tk (i := 1) (dst := some 41) (v := .slice pr prn prc) rfl rfl (.inl ⟨rfl, fun u hu => by have y := hu.1.cell 1; simp only [List.getElem?_cons_zero, List.getElem?_cons_succ] at y; go_simp⟩) hX6.out ?_
        go_frame
        refine x_tk (i := 2) (dst := some 42) (v := .agg #[.int .i64 ae, .slice aq an ac, .int .i64 ak]) rfl rfl (y_load_agg 35 (.tmp 10) rfl rfl rfl (fun u hu => run_loadVar_at Try.underlying35 rfl (sizeAns _ _ _) _ hu.2.boxed.all)) hX6.out ?_
        go_frame
        refine x_pu (i := 3) (dst := some 6) (v := .slice pr prn prc) rfl rfl (.inl ⟨rfl, fun u _ => by go_simp⟩) (fun _ => hX6.out) ?_
        go_frame
        obtain ⟨u8, hst8, h8, hg80⟩ := run_storeVar_at (P := Try.prog) (w := V.drew) (ty := 35) (o := 0) (vs := [.int .i64 ae, .slice aq an ac, .int .i64 ak]) a5.out (sizeAns _ _ _) (Nat.le_refl _) (ans_one _ _ _ _ _)
        have hg8 : V.grownBy u8 (some (w.heap.size + 1 + 1)) := ⟨hg80.os, hg80.tape, hg80.output, hg80.size, hg80.block⟩
        have a8 : Hid (RowV 35 u8 (w.heap.size + 1 + 1) [.int .i64 ae, .slice aq an ac, .int .i64 ak]) := h8
        have o8 := Lib.hid (o5.out.gt hg8 a5.out (by decide))
        have n8 := Lib.hid (n5.out.ga hg8 a5.out)
        have b8 := Lib.hid (b5.out.grown hg8 b5.out.size (fun k hk => by cases hk; omega))
        refine x_skip (i := 4) (dst := none) (w' := u8) rfl rfl (by kernel_rfl) rfl (run_store_op rfl rfl rfl hst8) (x_gone (by kernel_rfl)) ?_
        go_frame
        refine x_done (by kernel_rfl) ?_
        clear hst8 h8 hg8 hg80 hX6 v1 v2 a5 o5 n5 b5
        go_wp2
        have k0 := a8.out.cell 0
        have k1 := a8.out.cell 1
        have k2 := a8.out.cell 2
        simp only [List.getElem?_cons_zero, List.getElem?_cons_succ] at k0 k1 k2
        refine bodyPost_ret (v := .tuple #[.slice pr prn prc, .agg #[.int .i64 ae, .slice aq an ac, .int .i64 ak]]) (by simp [results, Try.results11, go_sem, k0, k1, k2]) rfl ?_
        rw [hr.out]
        exact ⟨_, _, _, ⟨ae, aq, an, ac, ak⟩, rfl, o8.out, n8.out, b8.out⟩
  · have he1 : (er != 0) = true := by simpa using he
    have hr : Hid (doM bs l ⟨qk, ⟨kt, ki⟩, ⟨tt, ti⟩, qv, qs, qn⟩ = (l, errA er)) := by show _ = _; unfold doM; rw [if_pos (by rw [her'.out]; exact he), her'.out]
    clear he
    go_wp2_with fail
    refine (cloneR_any lq ln lc l u1 (hr'.out.below b1.out (Nat.le_refl _)) hn).mono ?_
    rintro e u3 ⟨jq, jc, rfl, ho, hb⟩
    have s4 := Lib.hid (s1.out.below hb)
    have q4 := Lib.hid (q1.out.below hb)
    have a4 := Lib.hid (a1.out.below hb)
    have b4 := Lib.hid (b1.out.trans (hb.mono b1.out.size))
    have o4 := Lib.hid ho
    clear ho hb
    go_wp2_with fail
    refine (told_any er u3).mono ?_
    rintro e u4 ⟨rfl, hb⟩
    have s5 := Lib.hid (s4.out.below hb)
    have q5 := Lib.hid (q4.out.below hb)
    have a5 := Lib.hid (a4.out.below hb)
    have b5 := Lib.hid (b4.out.trans (hb.mono b4.out.size))
    have o5 := Lib.hid (o4.out.below hb)
    have n5 := Lib.hid (AV.Own.err er u4)
    clear hb
    go_wp2_with (first
      | ((with_reducible refine wpList_store_at rfl 35 (.tmp 7) (.tmp 19) rfl (o := 0) (vs := [.int .i64 er, .slice none 0 0, .int .i64 0]) rfl rfl a5.out (sizeAns _ _ _) (Nat.le_refl _) (ans_one _ _ _ _ _) ?_)
         intro u8 h8 hg8
         have a8 : Hid (RowV 35 u8 (w.heap.size + 1 + 1) [.int .i64 er, .slice none 0 0, .int .i64 0]) := h8
         have o8 := Lib.hid (o5.out.gt hg8 a5.out (by decide))
         have n8 := Lib.hid (n5.out.ga hg8 a5.out)
         have b8 := Lib.hid (b5.out.grown hg8 b5.out.size (fun k hk => by cases hk; omega))
         clear h8 hg8))
    have k0 := a8.out.cell 0
    have k1 := a8.out.cell 1
    have k2 := a8.out.cell 2
    simp only [List.getElem?_cons_zero, List.getElem?_cons_succ] at k0 k1 k2
    refine bodyPost_ret (v := .tuple #[.slice jq ln jc, .agg #[.int .i64 er, .slice none 0 0, .int .i64 0]]) (by simp [results, Try.results11, go_sem, k0, k1, k2]) rfl ?_
    rw [hr.out]
    exact ⟨_, _, _, ⟨er, none, 0, 0, 0⟩, rfl, o8.out, n8.out, b8.out⟩


def begS (bs : List BdD) (l : List RowD) : SerD := if chkList bs l = 0 then ⟨bs, l, l, [], false⟩ else ⟨[], [], [], [], false⟩
def BegPost (bs : List BdD) (l : List RowD) (w : World) (e : Ending) (w' : World) : Prop :=
  ∃ v : SV, e = .returned (.tuple #[.agg v.cells.toArray, .int .i64 (chkList bs l)]) ∧ v.Own w' (begS bs l) ∧ Below w.heap.size w w'
set_option maxHeartbeats 3000000 in
theorem begin_any (tq : Option Addr) (tn tc : Nat) (lq : Option Addr) (ln lc : Nat) (bs : List BdD) (l : List RowD) (w : World) (hs : SlOn w tq tn tc bs) (hsk : ∀ b ∈ bs, I64 b.lo ∧ I64 b.hi) (hr : RowsOn w lq ln lc l) :
    Calls Try.prog 22 #[.agg #[.slice tq tn tc], .slice lq ln lc] w (BegPost bs l w) := by
  obtain ⟨W, hW⟩ : ∃ W, (w.alloc (.cells #[.slice tq tn tc] 24)).alloc (.cells #[.slice none 0 0, .slice none 0 0, .slice none 0 0, .slice none 0 0, .bool false] 46) = W := ⟨_, rfl⟩
  have hbx := Lib.hid (two_rowsI (xs := [.slice tq tn tc]) (ys := [.slice none 0 0, .slice none 0 0, .slice none 0 0, .slice none 0 0, .bool false]) hW)
  have b0 := Lib.hid hbx.out.1
  have s0 := Lib.hid hbx.out.2.1
  have a0 := Lib.hid hbx.out.2.2.1
  have hs' := Lib.hid hs
  have hsk' := Lib.hid hsk
  have hr' := Lib.hid hr
  have hs1 := sizeSch tq tn tc
  clear hs hsk hr hbx
  obtain ⟨er, her⟩ : ∃ er, chkList bs l = er := ⟨_, rfl⟩
  have her' := Lib.hid her
  have hpost : Hid (BegPost bs l w = fun e w' => ∃ v : SV, e = .returned (.tuple #[.agg v.cells.toArray, .int .i64 er]) ∧ v.Own w' (begS bs l) ∧ Below w.heap.size w w') := by show _ = _; unfold BegPost; rw [her]
  go_enter Try.func22, Try.ntmps22
  go_wp2_with (first | (with_reducible refine wpList_load_at rfl 24 (.tmp 2) rfl Try.underlying24 rfl hs1 rfl s0.out.boxed.all ?_))
  clear hW
  refine (checkList_any tq tn tc bs lq ln lc l W ((hs'.out.sch hsk'.out).below b0.out (Nat.le_refl _)) (hr'.out.below b0.out (Nat.le_refl _))).mono ?_
  rintro e u1 ⟨rfl, hb⟩
  have s1 := Lib.hid (s0.out.below hb)
  have a1 := Lib.hid (a0.out.below hb)
  have b1 := Lib.hid (b0.out.trans (hb.mono b0.out.size))
  clear hb s0 a0 b0
  rw [her]
  clear her
  by_cases he : er = 0
  · subst he
    have hok := Lib.hid (chkList_zero her'.out)
    have hrs : Hid (begS bs l = ⟨bs, l, l, [], false⟩) := by show _ = _; unfold begS; rw [if_pos her'.out]
    have hfew : Few ⟨bs, l, l, [], false⟩ := by
      have h60 := ((okL_iff bs l).1 hok.out.2).1
      have h3 := ((okS_iff bs).1 hok.out.1).2.1
      exact ⟨show bs.length ≤ 1000000 by omega, show l.length ≤ 1000000 by omega, show l.length ≤ 1000000 by omega, Nat.zero_le _, fun m hm => by cases hm⟩
    have hxo : (⟨tq, tn, tc, lq, ln, lc, lq, ln, lc, none, 0, 0, false⟩ : SV).On u1 ⟨bs, l, l, [], false⟩ := ⟨hs'.out.below b1.out (Nat.le_refl _), hsk'.out, hr'.out.below b1.out (Nat.le_refl _), hr'.out.below b1.out (Nat.le_refl _), MksOn.none_ _, rfl⟩
    have hcp : Hid (Calls Try.prog 50 #[.agg #[.slice tq tn tc, .slice lq ln lc, .slice lq ln lc, .slice none 0 0, .bool false]] u1 (SerPost u1 ⟨bs, l, l, [], false⟩)) := copied_any ⟨tq, tn, tc, lq, ln, lc, lq, ln, lc, none, 0, 0, false⟩ ⟨bs, l, l, [], false⟩ u1 hxo hfew
    clear hxo hfew
    go_wp2_with (first | (with_reducible refine wpList_load_at rfl 24 (.tmp 2) rfl Try.underlying24 rfl hs1 rfl s1.out.boxed.all ?_))
    refine hcp.out.mono ?_
    rintro e u3 ⟨⟨pt, ptn, ptc, pr, prn, prc, pb, pbn, pbc, pm, pmn, pmc, po⟩, he, ho, hb⟩
    have he' : e = .returned (.agg #[.slice pt ptn ptc, .slice pr prn prc, .slice pb pbn pbc, .slice pm pmn pmc, .bool po]) := he
    subst he'
    have s4 := Lib.hid (s1.out.below hb)
    have a4 := Lib.hid (a1.out.below hb)
    have b4 := Lib.hid (b1.out.trans (hb.mono b1.out.size))
    have o4 := Lib.hid ho
    clear he ho hb hcp
    go_wp2_with (first
      | ((with_reducible refine wpList_store_at rfl 46 (.tmp 4) (.tmp 18) rfl (o := 0) (vs := [.slice pt ptn ptc, .slice pr prn prc, .slice pb pbn pbc, .slice pm pmn pmc, .bool po]) rfl rfl a4.out (sizeSer _ _ _ _ _) (Nat.le_refl _) (ser_one' _ _ _ _ _ _ _ _ _ _ _ _ _) ?_)
         intro u7 h7 hg7
         have z7 : Hid (RowV 46 u7 (w.heap.size + 1) [.slice pt ptn ptc, .slice pr prn prc, .slice pb pbn pbc, .slice pm pmn pmc, .bool po]) := h7
         have o7 := Lib.hid (o4.out.gs hg7 a4.out)
         have b7 := Lib.hid (b4.out.grown hg7 b4.out.size (fun k hk => by cases hk; omega))
         clear h7 hg7))
    have m0 := z7.out.cell 0
    have m1 := z7.out.cell 1
    have m2 := z7.out.cell 2
    have m3 := z7.out.cell 3
    have m4 := z7.out.cell 4
    simp only [List.getElem?_cons_zero, List.getElem?_cons_succ] at m0 m1 m2 m3 m4
    refine bodyPost_ret (v := .tuple #[.agg #[.slice pt ptn ptc, .slice pr prn prc, .slice pb pbn pbc, .slice pm pmn pmc, .bool po], .int .i64 0]) (by simp [results, Try.results22, go_sem, m0, m1, m2, m3, m4]) rfl ?_
    rw [hpost.out]
    exact ⟨⟨pt, ptn, ptc, pr, prn, prc, pb, pbn, pbc, pm, pmn, pmc, po⟩, rfl, by rw [hrs.out]; exact o7.out, b7.out⟩
  · have he1 : (er != 0) = true := by simpa using he
    have hrs : Hid (begS bs l = ⟨[], [], [], [], false⟩) := by show _ = _; unfold begS; rw [if_neg (by rw [her'.out]; exact he)]
    clear he
    go_wp2_with (first
      | ((with_reducible refine wpList_store_at rfl 46 (.tmp 4) (.tmp 12) rfl (o := 0) (vs := [.slice none 0 0, .slice none 0 0, .slice none 0 0, .slice none 0 0, .bool false]) rfl rfl a1.out (sizeSer _ _ _ _ _) (Nat.le_refl _) (ser_one' _ _ _ _ _ _ _ _ _ _ _ _ _) ?_)
         intro u7 h7 hg7
         have z7 : Hid (RowV 46 u7 (w.heap.size + 1) [.slice none 0 0, .slice none 0 0, .slice none 0 0, .slice none 0 0, .bool false]) := h7
         have b7 := Lib.hid (b1.out.grown hg7 b1.out.size (fun k hk => by cases hk; omega))
         clear h7 hg7))
    have m0 := z7.out.cell 0
    have m1 := z7.out.cell 1
    have m2 := z7.out.cell 2
    have m3 := z7.out.cell 3
    have m4 := z7.out.cell 4
    simp only [List.getElem?_cons_zero, List.getElem?_cons_succ] at m0 m1 m2 m3 m4
    refine bodyPost_ret (v := .tuple #[.agg #[.slice none 0 0, .slice none 0 0, .slice none 0 0, .slice none 0 0, .bool false], .int .i64 er]) (by simp [results, Try.results22, go_sem, m0, m1, m2, m3, m4]) rfl ?_
    rw [hpost.out]
    exact ⟨⟨none, 0, 0, none, 0, 0, none, 0, 0, none, 0, 0, false⟩, rfl, by rw [hrs.out]; exact ⟨⟨OwnS.nil _ _ _, fun b h => by cases h⟩, OwnL.none_ _, OwnL.none_ _, OwnM.none_ _, rfl⟩, b7.out⟩
end Go.Proofs.Ytkdkncbccofpdaa
