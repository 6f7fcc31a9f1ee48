/- back of ideal. -/
import Derived.Test.YtkdkncbccofpdaaIMz
namespace Go.Proofs.Ytkdkncbccofpdaa
open Go.RowKit
set_option maxRecDepth 100000

set_option maxHeartbeats 4000000 in
theorem bak_any (g : Nat) (tq : Option Addr) (tn tc : Nat) (rq : Option Addr) (rn rc : Nat) (bq : Option Addr) (bn bc : Nat) (mq : Option Addr) (mn mc : Nat) (o : Bool) (qk kt ki tt ti qv : Int) (qs : ByteArray) (k : Nat) (x : SerD) (w : World) (hg : RowV 94 w g [.slice tq tn tc, .slice rq rn rc, .slice bq bn bc, .slice mq mn mc, .bool o, .int .i64 qk, .int .i64 kt, .int .u16 ki, .int .i64 tt, .int .u16 ti, .int .i64 qv, .string qs, .int .i64 ((k : Int) + 1)]) (hx : (⟨tq, tn, tc, rq, rn, rc, bq, bn, bc, mq, mn, mc, o⟩ : SV).Own w x) (hf : Few x) (hm : x.marks.length ≤ 8) (hk : k < 9223372036854775807) :
    Calls Try.prog 79 #[.pointer (some ⟨g, 0, none⟩)] w (WkPost g ⟨qk, ⟨kt, ki⟩, ⟨tt, ti⟩, qv, qs, ((k : Int) + 1)⟩ (bakW x k) w) := by
  obtain ⟨W, hW⟩ : ∃ W, w.alloc (.cells #[.int .i64 0, .slice none 0 0, .int .i64 0] 35) = W := ⟨_, rfl⟩
  have hbx := Lib.hid (one_rowI (xs := [.int .i64 0, .slice none 0 0, .int .i64 0]) hW)
  have hlt := hg.lt
  have g0 := Lib.hid (hg.below hbx.out.1)
  have o0 := Lib.hid (hx.below hbx.out.1)
  have x0 := Lib.hid hbx.out.2.1
  have b0 := Lib.hid hbx.out.1
  have hsz := Lib.hid hbx.out.2.2
  have hfe := Lib.hid hf.each
  have y0 : W.cell? ⟨g, 12, none⟩ = some (.int .i64 ((k : Int) + 1)) := g0.out.cell 12
  have y1 : W.cell? ⟨g, 3, none⟩ = some (.slice mq mn mc) := g0.out.cell 3
  have hml : Hid (x.marks.length = mn) := hx.marks.reads.len
  have hm8 : mn ≤ 8 := by rw [← hml.out]; exact hm
  clear hg hx hf hbx hm
  go_enter Try.func79, Try.ntmps79
  by_cases he : k < mn
  · have he1 : decide ((mn : Int) < (k : Int) + 1) = false := by simp; omega
    have hres : Hid (bakW x k = ({ x with rows := (x.marks[k]?).getD [], marks := x.marks.take (k + 1) }, ⟨0, [], 0⟩)) := by show _ = _; unfold bakW; rw [if_pos (by rw [hml.out]; exact he)]
    have hsub : IntKind.i64.wrap ((k : Int) + 1 - 1) = (k : Int) := by rw [IntWalk.i64_in _ (by omega)]; omega
    obtain ⟨vs, hvs, hvl, hve⟩ := o0.out.marks
    have hnc : mn ≤ mc := hvs.reads.le
    have hcap : mc ≤ maxLen := hvs.reads.cap
    unfold maxLen at hcap
    obtain ⟨A, ⟨pq, pn, pc⟩, hA, hp, hcl⟩ := hvs.reads.at he
    have hA' : mq = some A := hA
    subst hA'
    obtain ⟨b, cur, hAb, _, hrow, _, _, hcur, htk⟩ := hvs.opened
    have hAb' : A = ⟨b, 0, none⟩ := hAb
    subst hAb'
    have y2 : W.cell? ⟨b, k, none⟩ = some (.slice pq pn pc) := by
      have h1 := hcl 0 (.slice pq pn pc) rfl
      have e : (((⟨b, 0, none⟩ : Addr).add (k * Cel.sz SlV)).add 0) = ⟨b, k, none⟩ ∨ k = 0 := by
        by_cases h0 : k = 0
        · exact .inr h0
        · left; rw [add0]; unfold Addr.add; rw [show Cel.sz SlV = 1 from rfl, Nat.mul_one]; split <;> simp_all
      rcases e with e | rfl
      · rw [e] at h1; exact h1
      · rw [add0, Nat.zero_mul, add0] at h1; exact h1
    obtain ⟨l, hlk⟩ : ∃ l, x.marks[k]? = some l := ⟨_, List.getElem?_eq_getElem (by have := hml.out; omega)⟩
    have lk := Lib.hid (hve k ⟨pq, pn, pc⟩ l hp hlk)
    have hpn : pn ≤ 1000000 := by have h1 : l.length = pn := lk.out.reads.len; have := hfe.out l (List.mem_of_getElem? hlk); omega
    have hvs' := Lib.hid hvs
    have hve' := Lib.hid hve
    have hvl' := Lib.hid hvl
    have hres2 : Hid (bakW x k = ({ x with rows := l, marks := x.marks.take (k + 1) }, ⟨0, [], 0⟩)) := by show _ = _; rw [hres.out, hlk]; rfl
    have he2 : decide ((k : Int) < (mn : Int)) = true := by simp; exact he
    clear hvs hve hvl hA hp hcl hAb hrow hcur htk hlk hres
    go_wp2
    refine wp_region_x (by kernel_rfl) 23 (fun u => u.cell? ⟨g, 3, none⟩ = some (.slice (some ⟨b, 0, none⟩) mn mc) ∧ u.cell? ⟨b, k, none⟩ = some (.slice pq pn pc)) ?_
    change wpAnyX _ _ _ _ _ _ _ _ _ (World.drew W)
    have hX0 : Hid ((fun u : World => u.cell? ⟨g, 3, none⟩ = some (.slice (some ⟨b, 0, none⟩) mn mc) ∧ u.cell? ⟨b, k, none⟩ = some (.slice pq pn pc)) W.drew) := ⟨y1, y2⟩
    refine x_pu (i := 0) (dst := some 18) (v := .pointer (some ⟨g, 0, none⟩)) rfl rfl (y_move (.tmp 0) rfl rfl rfl) (fun _ => hX0.out) ?_
    go_frame
    refine x_pu (i := 1) (dst := some 19) (v := .pointer (some ⟨g, 0, none⟩)) rfl rfl (y_move (.tmp 0) rfl rfl rfl) (fun _ => hX0.out) ?_
    go_frame
    refine x_pu (i := 2) (dst := some 20) (v := .pointer (some ⟨g, 0, none⟩)) rfl rfl (y_move (.tmp 0) rfl rfl rfl) (fun _ => hX0.out) ?_
    go_frame
    refine x_pu (i := 3) (dst := some 21) (v := .pointer (some ⟨g, 0, none⟩)) rfl rfl (.inl ⟨rfl, fun u _ => by go_simp⟩) (fun _ => hX0.out) ?_
    go_frame
    refine x_pu (i := 4) (dst := some 22) (v := .pointer (some ⟨g, 0, none⟩)) rfl rfl (.inl ⟨rfl, fun u _ => by go_simp⟩) (fun _ => hX0.out) ?_
    go_frame
    refine x_pu (i := 5) (dst := some 23) (v := .pointer (some ⟨g, 3, none⟩)) rfl rfl (.inl ⟨rfl, fun u _ => by go_simp⟩) (fun _ => hX0.out) ?_
    go_frame
    refine x_tk (i := 6) (dst := some 24) (v := .slice (some ⟨b, 0, none⟩) mn mc) rfl rfl (.inl ⟨rfl, fun u hu => by have y0 := hu.1; go_simp⟩) hX0.out ?_
    go_frame
    refine x_pu (i := 7) (dst := some 25) (v := .int .i64 ((k : Int) + 1)) rfl rfl (y_move (.tmp 3) rfl rfl rfl) (fun _ => hX0.out) ?_
    go_frame
    refine x_pu (i := 8) (dst := some 26) (v := .int .i64 k) rfl rfl (.inl ⟨rfl, fun u _ => by have hw : IntKind.i64.wrap (k : Int) = k := IntWalk.i64_in _ (by omega); go_simp⟩) (fun _ => hX0.out) ?_
    go_frame
    refine x_pu (i := 9) (dst := some 27) (v := .pointer (some ⟨b, k, none⟩)) rfl rfl (.inl ⟨rfl, fun u _ => by go_simp⟩) (fun _ => hX0.out) ?_
    go_frame
    refine x_tk (i := 10) (dst := some 28) (v := .slice pq pn pc) rfl rfl (.inl ⟨rfl, fun u hu => by have y0 := hu.2; go_simp⟩) hX0.out ?_
    go_frame
    refine x_pu (i := 12) (dst := some 30) (v := .pointer (some ⟨g, 0, none⟩)) rfl rfl (y_move (.tmp 0) rfl rfl rfl) (fun _ => hX0.out) ?_
    go_frame
    refine x_pu (i := 13) (dst := some 31) (v := .pointer (some ⟨g, 0, none⟩)) rfl rfl (.inl ⟨rfl, fun u _ => by go_simp⟩) (fun _ => hX0.out) ?_
    go_frame
    refine x_pu (i := 14) (dst := some 32) (v := .pointer (some ⟨g, 0, none⟩)) rfl rfl (.inl ⟨rfl, fun u _ => by go_simp⟩) (fun _ => hX0.out) ?_
    go_frame
    refine x_pu (i := 15) (dst := some 33) (v := .pointer (some ⟨g, 3, none⟩)) rfl rfl (.inl ⟨rfl, fun u _ => by go_simp⟩) (fun _ => hX0.out) ?_
    go_frame
    refine x_tk (i := 16) (dst := some 34) (v := .slice (some ⟨b, 0, none⟩) mn mc) rfl rfl (.inl ⟨rfl, fun u hu => by have y0 := hu.1; go_simp⟩) hX0.out ?_
    go_frame
    refine x_pu (i := 17) (dst := some 35) (v := .int .i64 ((k : Int) + 1)) rfl rfl (y_move (.tmp 3) rfl rfl rfl) (fun _ => hX0.out) ?_
    go_frame
    refine x_pu (i := 18) (dst := some 36) (v := .slice (some ⟨b, 0, none⟩) (k + 1) mc) rfl rfl (.inl ⟨rfl, fun u _ => by have i0 : (0 : Int) ≤ (k : Int) + 1 := (by omega); have i1 : (k : Int) + 1 ≤ (mc : Int) := (by omega); have i2 : ((mc : Int) < (k : Int) + 1) = False := eq_false (by omega); go_simp⟩) (fun _ => hX0.out) ?_
    go_frame
    refine x_call (i := 11) (dst := some 29) rfl rfl (by kernel_rfl) rfl (by go_simp) (cloneR_any pq pn pc l W.drew (lk.out.reads.below (below_drew _) (Nat.le_refl _)) hpn) ?_
    rintro e u1 ⟨lq, lc, rfl, hl, hb⟩
    have hb1 : Below W.heap.size W u1 := (below_drew W).trans hb
    have hX1 : Hid ((fun u : World => u.cell? ⟨g, 3, none⟩ = some (.slice (some ⟨b, 0, none⟩) mn mc) ∧ u.cell? ⟨b, k, none⟩ = some (.slice pq pn pc)) u1) := ⟨cell_keeps hb1 (Nat.le_refl _) y1, cell_keeps hb1 (Nat.le_refl _) y2⟩
    refine ⟨_, rfl, fun _ => hX1.out, ?_⟩
    go_frame
    have hfr := (hvs'.out.reads.front (m := k + 1) (by omega)).below hb1 (Nat.le_refl _)
    refine x_call (i := 19) (dst := some 37) rfl rfl (by kernel_rfl) rfl (by go_simp) (cloneM_any (some ⟨b, 0, none⟩) (k + 1) mc (vs.take (k + 1)) u1 hfr (by omega)) ?_
    rintro e u2 ⟨jq, jc, rfl, hj, hb2⟩
    have hb3 : Below W.heap.size W u2 := hb1.trans (hb2.mono hb1.size)
    have hX2 : Hid ((fun u : World => u.cell? ⟨g, 3, none⟩ = some (.slice (some ⟨b, 0, none⟩) mn mc) ∧ u.cell? ⟨b, k, none⟩ = some (.slice pq pn pc)) u2) := ⟨cell_keeps hb3 (Nat.le_refl _) y1, cell_keeps hb3 (Nat.le_refl _) y2⟩
    have l2 := Lib.hid (hl.below hb2)
    have m2 : Hid (OwnM u2 jq (k + 1) jc (x.marks.take (k + 1))) := by
      have hvx := hvl'.out
      refine ⟨vs.take (k + 1), hj.mono (Nat.zero_le _), by rw [List.length_take, List.length_take, hvx], fun i v m a c => ?_⟩
      rw [List.getElem?_take] at a c
      split at a
      · rename_i hik
        rw [if_pos hik] at c
        exact (hve'.out i v m a c).below hb3
      · cases a
    have hv := Lib.hid hb3
    have g1 := Lib.hid (g0.out.below hv.out)
    have o1 := Lib.hid (o0.out.below hv.out)
    have x1 := Lib.hid (x0.out.below hv.out)
    have b1 := Lib.hid (b0.out.trans (hv.out.mono b0.out.size))
    clear hl hb hb1 hX1 hfr hj hb2 hb3 y1 y2
    refine ⟨_, rfl, fun _ => hX2.out, ?_⟩
    go_frame
    refine x_pu (i := 20) (dst := some 38) (v := .pointer (some ⟨g, 0, none⟩)) rfl rfl (.inl ⟨rfl, fun u _ => by go_simp⟩) (fun _ => hX2.out) ?_
    go_frame
    refine x_pu (i := 21) (dst := some 39) (v := .pointer (some ⟨g, 0, none⟩)) rfl rfl (.inl ⟨rfl, fun u _ => by go_simp⟩) (fun _ => hX2.out) ?_
    go_frame
    refine x_pu (i := 22) (dst := some 40) (v := .pointer (some ⟨g, 1, none⟩)) rfl rfl (.inl ⟨rfl, fun u _ => by go_simp⟩) (fun _ => hX2.out) ?_
    go_frame
    obtain ⟨u3, hst3, h3, hg3⟩ := run_storeVar_one (P := Try.prog) (ty := 25) (o := 1) (v := .slice lq pn lc) g1.out oneRows rfl (by simp) rfl
    have h3' : RowV 94 u3 g [.slice tq tn tc, .slice lq pn lc, .slice bq bn bc, .slice (some ⟨b, 0, none⟩) mn mc, .bool o, .int .i64 qk, .int .i64 kt, .int .u16 ki, .int .i64 tt, .int .u16 ti, .int .i64 qv, .string qs, .int .i64 ((k : Int) + 1)] := h3
    refine x_skip (i := 23) (dst := none) (w' := u3) rfl rfl (by kernel_rfl) rfl (run_store_op rfl rfl rfl hst3) (x_gone (by kernel_rfl)) ?_
    go_frame
    refine x_pu (i := 24) (dst := some 41) (v := .pointer (some ⟨g, 0, none⟩)) rfl rfl (.inl ⟨rfl, fun u _ => by go_simp⟩) (x_gone (by kernel_rfl)) ?_
    go_frame
    refine x_pu (i := 25) (dst := some 42) (v := .pointer (some ⟨g, 0, none⟩)) rfl rfl (.inl ⟨rfl, fun u _ => by go_simp⟩) (x_gone (by kernel_rfl)) ?_
    go_frame
    refine x_pu (i := 26) (dst := some 43) (v := .pointer (some ⟨g, 3, none⟩)) rfl rfl (.inl ⟨rfl, fun u _ => by go_simp⟩) (x_gone (by kernel_rfl)) ?_
    go_frame
    obtain ⟨u4, hst4, h4, hg4⟩ := run_storeVar_one (P := Try.prog) (ty := 44) (o := 3) (v := .slice jq (k + 1) jc) h3' oneMks rfl (by simp) rfl
    have h4' : Hid (RowV 94 u4 g [.slice tq tn tc, .slice lq pn lc, .slice bq bn bc, .slice jq (k + 1) jc, .bool o, .int .i64 qk, .int .i64 kt, .int .u16 ki, .int .i64 tt, .int .u16 ti, .int .i64 qv, .string qs, .int .i64 ((k : Int) + 1)]) := h4
    refine x_skip (i := 27) (dst := none) (w' := u4) rfl rfl (by kernel_rfl) rfl (run_store_op rfl rfl rfl hst4) (x_gone (by kernel_rfl)) ?_
    go_frame
    refine x_done (by kernel_rfl) ?_
    have o4 : Hid ((⟨tq, tn, tc, lq, pn, lc, bq, bn, bc, jq, k + 1, jc, o⟩ : SV).Own u4 { x with rows := l, marks := x.marks.take (k + 1) }) := by
      have a := (o1.out.gw hg3 g1.out).gw hg4 h3'
      exact ⟨a.sch, (l2.out.gw hg3 g1.out).gw hg4 h3', a.begun, (m2.out.gt hg3 g1.out (by decide) (by decide)).gt hg4 h3' (by decide) (by decide), a.over⟩
    have x4 := Lib.hid ((x1.out.kept hg3 (by omega)).kept hg4 (by omega))
    have r4 := Lib.hid (grown_trans (grown_trans (below_grown b1.out (some g)) hg3) hg4)
    clear hst3 hst4 h3 h3' h4 hg3 hg4 hX0 hX2 l2 m2 g1 o1 x1 b1 y0
    go_wp2_with fail
    refine (told_any 0 u4).mono ?_
    rintro e u5 ⟨rfl, hb⟩
    have gq := Lib.hid (h4'.out.below hb)
    have oq := Lib.hid (o4.out.below hb)
    have xq := Lib.hid (x4.out.below hb)
    have rq_ := Lib.hid (grown_below r4.out hb)
    clear hb
    go_wp2_with (first
      | ((with_reducible refine wpList_store_at rfl 35 (.tmp 2) (.tmp 44) rfl (o := 0) (vs := [.int .i64 0, .slice none 0 0, .int .i64 0]) rfl rfl xq.out (sizeAns _ _ _) (Nat.le_refl _) (ans_one _ _ _ _ _) ?_)
         intro w9 h9 hg9
         have h9' := Lib.hid h9
         have hg9' := Lib.hid hg9
         clear h9 hg9))
    have s1 : RowV 35 w9 (w.heap.size) [.int .i64 0, .slice none 0 0, .int .i64 0] := h9'.out
    have m0 := s1.cell 0
    have m1 := s1.cell 1
    have m2 := s1.cell 2
    simp only [List.getElem?_cons_zero, List.getElem?_cons_succ] at m0 m1 m2
    refine bodyPost_ret (v := .agg #[.int .i64 0, .slice none 0 0, .int .i64 0]) (by simp [results, Try.results79, go_sem, m0, m1, m2]) rfl ?_
    rw [hres2.out]
    exact ⟨⟨tq, tn, tc, lq, pn, lc, bq, bn, bc, jq, k + 1, jc, o⟩, ⟨0, none, 0, 0, 0⟩, rfl, gq.out.kept hg9'.out (by omega), oq.out.ga hg9'.out xq.out, AV.Own.err 0 _, Gr.own3 rq_.out hg9'.out (by omega)⟩
  · have he1 : decide ((mn : Int) < (k : Int) + 1) = true := by simp; omega
    have hres : Hid (bakW x k = (x, errA 4)) := by show _ = _; unfold bakW; rw [if_neg (by rw [hml.out]; exact he)]
    have g1 := g0
    have o1 := o0
    have x1 := x0
    have b1 := b0
    clear he
    go_wp2_with fail
    clear hW he1
    refine (told_any 4 W).mono ?_
    rintro e w4 ⟨rfl, hb⟩
    have gq := Lib.hid (g1.out.below hb)
    have oq := Lib.hid (o1.out.below hb)
    have xq := Lib.hid (x1.out.below hb)
    have bq_ := Lib.hid (b1.out.trans (hb.mono b1.out.size))
    clear hb
    go_wp2_with (first
      | ((with_reducible refine wpList_store_at rfl 35 (.tmp 2) (.tmp 17) rfl (o := 0) (vs := [.int .i64 4, .slice none 0 0, .int .i64 0]) rfl rfl xq.out (sizeAns _ _ _) (Nat.le_refl _) (ans_one _ _ _ _ _) ?_)
         intro w9 h9 hg9
         have h9' := Lib.hid h9
         have hg9' := Lib.hid hg9
         clear h9 hg9))
    have s1 : RowV 35 w9 (w.heap.size) [.int .i64 4, .slice none 0 0, .int .i64 0] := h9'.out
    have m0 := s1.cell 0
    have m1 := s1.cell 1
    have m2 := s1.cell 2
    simp only [List.getElem?_cons_zero, List.getElem?_cons_succ] at m0 m1 m2
    refine bodyPost_ret (v := .agg #[.int .i64 4, .slice none 0 0, .int .i64 0]) (by simp [results, Try.results79, go_sem, m0, m1, m2]) rfl ?_
    rw [hres.out]
    exact ⟨⟨tq, tn, tc, rq, rn, rc, bq, bn, bc, mq, mn, mc, o⟩, ⟨4, none, 0, 0, 0⟩, rfl, gq.out.kept hg9'.out (by omega), oq.out.ga hg9'.out xq.out, AV.Own.err _ _, Gr.own3 (below_grown bq_.out (some g)) hg9'.out (by omega)⟩

end Go.Proofs.Ytkdkncbccofpdaa
