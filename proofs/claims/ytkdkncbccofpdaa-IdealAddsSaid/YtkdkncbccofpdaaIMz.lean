/- mark and back of ideal. -/
import Derived.Test.YtkdkncbccofpdaaIGd
import Derived.ArgAppend
namespace Go.Proofs.Ytkdkncbccofpdaa
open Go.RowKit
set_option maxRecDepth 100000

def marW (x : SerD) : SerD × AnsD := if x.marks.length = 8 then (x, errA 6) else ({ x with marks := x.marks ++ [x.rows] }, ⟨0, [], x.marks.length + 1⟩)
def bakW (x : SerD) (k : Nat) : SerD × AnsD := if k < x.marks.length then ({ x with rows := (x.marks[k]?).getD [], marks := x.marks.take (k + 1) }, ⟨0, [], 0⟩) else (x, errA 4)

/-- one more list behind others, which have no room -/
theorem run_append_mk {P : Program} {w : World} {t T : TypeId} (ht : P.underlying t = some (.slice T)) (hi : (P.info? T).map (fun i => (i.zero, i.size, i.bytes)) = some (some (.slice none 0 0), Cel.sz SlV, 24)) (ty : TypeId)
    {q : Option Addr} {n c b : Nat} {vs : List SlV} {p : SlV} (h : OwnS T w 0 (.slice q n c) vs) (hn : n ≤ 1000000) (hp : RowV T w b [.slice p.q p.n p.c]) :
    ∃ q' c' w', (Builtin.append_ #[t, t] ty #[.slice q n n, .slice (some ⟨b, 0, none⟩) 1 1]).run P w = .ok (.slice q' (n + 1) c') w' ∧ OwnS T w' 0 (.slice q' (n + 1) c') (vs ++ [p]) ∧ w.grownBy w' none := by
  obtain ⟨i0, hi0, hz0, hz1, hz2⟩ := info_parts hi
  have hl := h.len
  have hs1 : SlOn w (some ⟨b, 0, none⟩) 1 1 [p] := (OwnS.single (r := p) hp).reads
  cases q with
  | none =>
    obtain ⟨rfl, rfl, rfl⟩ := h.nil_cap
    obtain ⟨q', c', w', h1, h2, h3, _⟩ := run_append_l (P := P) (w := w) ht hi rfl ty (OwnS.nil T w w.heap.size) hs1 (by omega) (by omega) (Nat.le_refl _)
    rw [Nat.zero_add] at h1 h2
    exact ⟨q', c', w', h1, by simpa using h2.mono (Nat.zero_le _), h3⟩
  | some a =>
    obtain ⟨g, cur, rfl, _, hrow, hnc, hcm, hcur, htk⟩ := h.opened
    have hrd := h.reads
    obtain ⟨v', w', h1, h2, h3⟩ := run_append_arg_grows (P := P) (w := w) t ty T i0 (.slice none 0 0) 1 24 ht hi0 hz0 hz1 hz2 rfl (by decide) ⟨g, 0, none⟩ n n (cellsL vs) (by rw [cellsL_len, hl]; rfl)
      (fun j u hj => by
        obtain ⟨i, r, k, rfl, e1, e2⟩ := cellsL_get' vs j u hj
        obtain ⟨a', ha', hc⟩ := hrd.get i r e1
        cases ha'
        rw [← Go.Deep.add_add]
        exact hc k u e2) ⟨b, 0, none⟩ 1 1 [.slice p.q p.n p.c] rfl (fun j u hj => (hp.boxed) j u hj) (by omega) (by unfold maxLen; omega) (by omega)
    have h2' : OwnS T w' w.heap.size v' (vs ++ [p]) := by
      unfold OwnS
      rw [List.length_append, cellsL_append, ← hl]
      exact h2
    obtain ⟨q', c', rfl⟩ := h2'.shape
    rw [List.length_append, ← hl] at h1 h2'
    exact ⟨q', c', w', h1, h2'.mono (Nat.zero_le _), h3⟩

set_option maxHeartbeats 4000000 in
theorem mar_any (g : Nat) (tq : Option Addr) (tn tc : Nat) (rq : Option Addr) (rn rc : Nat) (bq : Option Addr) (bn bc : Nat) (mq : Option Addr) (mn mc : Nat) (o : Bool) (qk kt ki tt ti qv : Int) (qs : ByteArray) (qn : Int) (x : SerD) (w : World) (hg : RowV 94 w g [.slice tq tn tc, .slice rq rn rc, .slice bq bn bc, .slice mq mn mc, .bool o, .int .i64 qk, .int .i64 kt, .int .u16 ki, .int .i64 tt, .int .u16 ti, .int .i64 qv, .string qs, .int .i64 qn]) (hx : (⟨tq, tn, tc, rq, rn, rc, bq, bn, bc, mq, mn, mc, o⟩ : SV).Own w x) (hf : Few x) (hm : x.marks.length ≤ 8) :
    Calls Try.prog 78 #[.pointer (some ⟨g, 0, none⟩)] w (WkPost g ⟨qk, ⟨kt, ki⟩, ⟨tt, ti⟩, qv, qs, qn⟩ (marW x) w) := by
  obtain ⟨W, hW⟩ : ∃ W, w.alloc (.cells #[.int .i64 0, .slice none 0 0, .int .i64 0] 35) = W := ⟨_, rfl⟩
  have hbx := Lib.hid (one_rowI (xs := [.int .i64 0, .slice none 0 0, .int .i64 0]) hW)
  have hlt := hg.lt
  have g0 := Lib.hid (hg.below hbx.out.1)
  have o0 := Lib.hid (hx.below hbx.out.1)
  have x0 := Lib.hid hbx.out.2.1
  have b0 := Lib.hid hbx.out.1
  have hsz := Lib.hid hbx.out.2.2
  have hrn : rn ≤ 1000000 := by have h1 : x.rows.length = rn := hx.rows.reads.len; have := hf.rows; omega
  have y0 : W.cell? ⟨g, 3, none⟩ = some (.slice mq mn mc) := g0.out.cell 3
  have hml : Hid (x.marks.length = mn) := hx.marks.reads.len
  have hm8 : mn ≤ 8 := by rw [← hml.out]; exact hm
  have hrn' := hrn
  clear hg hx hf hbx hm
  go_enter Try.func78, Try.ntmps78
  by_cases he : mn = 8
  · have he1 : ((mn : Int) == 8) = true := by simp; omega
    have hres : Hid (marW x = (x, errA 6)) := by show _ = _; unfold marW; rw [if_pos (by rw [hml.out]; exact he)]
    have g1 := g0
    have o1 := o0
    have x1 := x0
    have b1 := b0
    clear he
    go_wp2_with fail
    clear hW he1
    refine (told_any 6 W).mono ?_
    rintro e w4 ⟨rfl, hb⟩
    have gq := Lib.hid (g1.out.below hb)
    have oq := Lib.hid (o1.out.below hb)
    have xq := Lib.hid (x1.out.below hb)
    have bq_ := Lib.hid (b1.out.trans (hb.mono b1.out.size))
    clear hb
    go_wp2_with (first
      | ((with_reducible refine wpList_store_at rfl 35 (.tmp 2) (.tmp 12) rfl (o := 0) (vs := [.int .i64 6, .slice none 0 0, .int .i64 0]) rfl rfl xq.out (sizeAns _ _ _) (Nat.le_refl _) (ans_one _ _ _ _ _) ?_)
         intro w9 h9 hg9
         have h9' := Lib.hid h9
         have hg9' := Lib.hid hg9
         clear h9 hg9))
    have s1 : RowV 35 w9 (w.heap.size) [.int .i64 6, .slice none 0 0, .int .i64 0] := h9'.out
    have m0 := s1.cell 0
    have m1 := s1.cell 1
    have m2 := s1.cell 2
    simp only [List.getElem?_cons_zero, List.getElem?_cons_succ] at m0 m1 m2
    refine bodyPost_ret (v := .agg #[.int .i64 6, .slice none 0 0, .int .i64 0]) (by simp [results, Try.results78, go_sem, m0, m1, m2]) rfl ?_
    rw [hres.out]
    exact ⟨⟨tq, tn, tc, rq, rn, rc, bq, bn, bc, mq, mn, mc, o⟩, ⟨6, none, 0, 0, 0⟩, rfl, gq.out.kept hg9'.out (by omega), oq.out.ga hg9'.out xq.out, AV.Own.err _ _, Gr.own3 (below_grown bq_.out (some g)) hg9'.out (by omega)⟩
  · have he1 : ((mn : Int) == 8) = false := by simp; omega
    have hres : Hid (marW x = ({ x with marks := x.marks ++ [x.rows] }, ⟨0, [], x.marks.length + 1⟩)) := by show _ = _; unfold marW; rw [if_neg (by rw [hml.out]; exact he)]
    have hadd : IntKind.i64.wrap ((mn : Int) + 1) = (mn : Int) + 1 := IntWalk.i64_in _ (by omega)
    have y1 : W.cell? ⟨g, 1, none⟩ = some (.slice rq rn rc) := g0.out.cell 1
    clear he
    obtain ⟨vs, hvs, hvl, hve⟩ := o0.out.marks
    have hvs' := Lib.hid hvs
    have hve' := Lib.hid hve
    have hvl' := Lib.hid hvl
    have hmc : mn ≤ mc := hvs.reads.le
    have hcap : mc ≤ maxLen := hvs.reads.cap
    have hnil : mq = none → mn = 0 ∧ mc = 0 := fun e => by have h := hvs; subst e; exact ⟨h.nil_cap.1, h.nil_cap.2.1⟩
    clear hvs hve hvl
    go_wp2
    refine wp_region_x (by kernel_rfl) 20 (fun u => u.cell? ⟨g, 3, none⟩ = some (.slice mq mn mc) ∧ u.cell? ⟨g, 1, none⟩ = some (.slice rq rn rc)) ?_
    change wpAnyX _ _ _ _ _ _ _ _ _ (World.drew W)
    have hX0 : Hid ((fun u : World => u.cell? ⟨g, 3, none⟩ = some (.slice mq mn mc) ∧ u.cell? ⟨g, 1, none⟩ = some (.slice rq rn rc)) W.drew) := ⟨y0, y1⟩
    refine x_pu (i := 0) (dst := some 13) (v := .pointer (some ⟨g, 0, none⟩)) rfl rfl (y_move (.tmp 0) rfl rfl rfl) (fun _ => hX0.out) ?_
    go_frame
    refine x_pu (i := 1) (dst := some 14) (v := .pointer (some ⟨g, 0, none⟩)) rfl rfl (y_move (.tmp 0) rfl rfl rfl) (fun _ => hX0.out) ?_
    go_frame
    refine x_pu (i := 2) (dst := some 15) (v := .pointer (some ⟨g, 0, none⟩)) rfl rfl (.inl ⟨rfl, fun u _ => by go_simp⟩) (fun _ => hX0.out) ?_
    go_frame
    refine x_pu (i := 3) (dst := some 16) (v := .pointer (some ⟨g, 0, none⟩)) rfl rfl (.inl ⟨rfl, fun u _ => by go_simp⟩) (fun _ => hX0.out) ?_
    go_frame
    refine x_pu (i := 4) (dst := some 17) (v := .pointer (some ⟨g, 3, none⟩)) rfl rfl (.inl ⟨rfl, fun u _ => by go_simp⟩) (fun _ => hX0.out) ?_
    go_frame
    refine x_tk (i := 5) (dst := some 18) (v := .slice mq mn mc) rfl rfl (.inl ⟨rfl, fun u hu => by have y0 := hu.1; go_simp⟩) hX0.out ?_
    go_frame
    refine x_pu (i := 6) (dst := some 19) (v := .int .i64 mn) rfl rfl (y_move (.tmp 3) rfl rfl rfl) (fun _ => hX0.out) ?_
    go_frame
    refine x_pu (i := 7) (dst := some 20) (v := .int .i64 mn) rfl rfl (y_move (.tmp 3) rfl rfl rfl) (fun _ => hX0.out) ?_
    go_frame
    refine x_pu (i := 8) (dst := some 21) (v := .slice mq mn mn) rfl rfl (.inl ⟨rfl, fun u _ => by cases mq with | none => (obtain ⟨rfl, rfl⟩ := hnil rfl; go_simp) | some a => go_simp⟩) (fun _ => hX0.out) ?_
    go_frame
    refine x_pu (i := 9) (dst := some 22) (v := .pointer (some ⟨g, 0, none⟩)) rfl rfl (y_move (.tmp 0) rfl rfl rfl) (fun _ => hX0.out) ?_
    go_frame
    refine x_pu (i := 10) (dst := some 23) (v := .pointer (some ⟨g, 0, none⟩)) rfl rfl (.inl ⟨rfl, fun u _ => by go_simp⟩) (fun _ => hX0.out) ?_
    go_frame
    refine x_pu (i := 11) (dst := some 24) (v := .pointer (some ⟨g, 0, none⟩)) rfl rfl (.inl ⟨rfl, fun u _ => by go_simp⟩) (fun _ => hX0.out) ?_
    go_frame
    refine x_pu (i := 12) (dst := some 25) (v := .pointer (some ⟨g, 1, none⟩)) rfl rfl (.inl ⟨rfl, fun u _ => by go_simp⟩) (fun _ => hX0.out) ?_
    go_frame
    refine x_tk (i := 13) (dst := some 26) (v := .slice rq rn rc) rfl rfl (.inl ⟨rfl, fun u hu => by have y0 := hu.2; go_simp⟩) hX0.out ?_
    go_frame
    refine x_call (i := 14) (dst := some 27) rfl rfl (by kernel_rfl) rfl (by go_simp) (cloneR_any rq rn rc x.rows W.drew (o0.out.rows.reads.below (below_drew _) (Nat.le_refl _)) hrn) ?_
    rintro e u1 ⟨lq, lc, rfl, hl, hb⟩
    have hb' : Below W.heap.size W u1 := (below_drew W).trans hb
    have hv := Lib.hid hb'
    have g1 := Lib.hid (g0.out.below hv.out)
    have o1 := Lib.hid (o0.out.below hv.out)
    have x1 := Lib.hid (x0.out.below hv.out)
    have b1 := Lib.hid (b0.out.trans (hv.out.mono b0.out.size))
    have l1 := Lib.hid hl
    have v1 := Lib.hid (hvs'.out.below hb')
    have e1 : Hid (∀ (i : Nat) (v : SlV) (l : List RowD), vs[i]? = some v → x.marks[i]? = some l → OwnL u1 v.q v.n v.c l) := fun i v l a b => (hve'.out i v l a b).below hb'
    have hX1 : Hid ((fun u : World => u.cell? ⟨g, 3, none⟩ = some (.slice mq mn mc) ∧ u.cell? ⟨g, 1, none⟩ = some (.slice rq rn rc)) u1) := ⟨cell_keeps hb' (Nat.le_refl _) y0, cell_keeps hb' (Nat.le_refl _) y1⟩
    clear hb hb' hl y0 y1 hve' hvs'
    refine ⟨_, rfl, fun _ => hX1.out, ?_⟩
    go_frame
    obtain ⟨u2, hu2⟩ : ∃ u2, u1.alloc (.cells #[.slice lq rn lc] 25) = u2 := ⟨_, rfl⟩
    have hbx2 := one_rowI (xs := [.slice lq rn lc]) hu2
    have hX2 : Hid ((fun u : World => u.cell? ⟨g, 3, none⟩ = some (.slice mq mn mc) ∧ u.cell? ⟨g, 1, none⟩ = some (.slice rq rn rc)) u2) := ⟨cell_keeps hbx2.1 (Nat.le_refl _) hX1.out.1, cell_keeps hbx2.1 (Nat.le_refl _) hX1.out.2⟩
    refine x_value (i := 15) (dst := some 28) (w' := u2) (v := .slice (some ⟨u1.heap.size, 0, none⟩) 1 1) rfl rfl (by kernel_rfl) rfl (by rw [← hu2]; go_simp) (fun _ => hX2.out) ?_
    go_frame
    obtain ⟨q5, c5, u3, hrun, hown, hgr⟩ := run_append_mk (P := Try.prog) (w := u2) (t := 44) (T := 25) Try.underlying44 infoSl 44 (p := ⟨lq, rn, lc⟩) (v1.out.below hbx2.1) (by omega) hbx2.2.1
    have hb3 : Below u1.heap.size u1 u3 := hbx2.1.grown hgr hbx2.1.size (fun k hk => by cases hk)
    have hX3 : Hid ((fun u : World => u.cell? ⟨g, 3, none⟩ = some (.slice mq mn mc) ∧ u.cell? ⟨g, 1, none⟩ = some (.slice rq rn rc)) u3) := ⟨cell_keeps hb3 (Nat.le_refl _) hX1.out.1, cell_keeps hb3 (Nat.le_refl _) hX1.out.2⟩
    refine x_value (i := 16) (dst := some 29) (w' := u3) (v := .slice q5 (mn + 1) c5) rfl rfl (by kernel_rfl) rfl (by simp [execOp, resolve, invoke, builtin, Act.eval, hrun, Result.andThen]) (fun _ => hX3.out) ?_
    go_frame
    refine x_pu (i := 17) (dst := some 30) (v := .pointer (some ⟨g, 0, none⟩)) rfl rfl (.inl ⟨rfl, fun u _ => by go_simp⟩) (fun _ => hX3.out) ?_
    go_frame
    refine x_pu (i := 18) (dst := some 31) (v := .pointer (some ⟨g, 0, none⟩)) rfl rfl (.inl ⟨rfl, fun u _ => by go_simp⟩) (fun _ => hX3.out) ?_
    go_frame
    refine x_pu (i := 19) (dst := some 32) (v := .pointer (some ⟨g, 3, none⟩)) rfl rfl (.inl ⟨rfl, fun u _ => by go_simp⟩) (fun _ => hX3.out) ?_
    go_frame
    have g3 := g1.out.below hb3
    have x3 := Lib.hid (x1.out.below hb3)
    have o3 := o1.out.below hb3
    have l3 := l1.out.below hb3
    have m3 : OwnM u3 q5 (mn + 1) c5 (x.marks ++ [x.rows]) := by
      refine ⟨vs ++ [⟨lq, rn, lc⟩], hown, by rw [List.length_append, List.length_append, hvl'.out]; rfl, fun i v l a b => ?_⟩
      by_cases hi : i < vs.length
      · rw [List.getElem?_append_left hi] at a
        rw [List.getElem?_append_left (by have := hvl'.out; omega)] at b
        exact (e1.out i v l a b).below hb3
      · have hi2 : i = vs.length := by
          have h1 := (List.getElem?_eq_some_iff.1 a).1
          rw [List.length_append] at h1
          simp at h1
          omega
        subst hi2
        rw [List.getElem?_append_right (Nat.le_refl _), Nat.sub_self] at a
        have hvx := hvl'.out
        rw [List.getElem?_append_right (by omega), show vs.length - x.marks.length = 0 by omega] at b
        obtain rfl : (⟨lq, rn, lc⟩ : SlV) = v := by simpa using a
        obtain rfl : x.rows = l := by simpa using b
        exact l3
    obtain ⟨u4, hst, h4, hg4⟩ := run_storeVar_one (P := Try.prog) (ty := 44) (o := 3) (v := .slice q5 (mn + 1) c5) g3 oneMks rfl (by simp) rfl
    have h4' : Hid (RowV 94 u4 g [.slice tq tn tc, .slice rq rn rc, .slice bq bn bc, .slice q5 (mn + 1) c5, .bool o, .int .i64 qk, .int .i64 kt, .int .u16 ki, .int .i64 tt, .int .u16 ti, .int .i64 qv, .string qs, .int .i64 qn]) := h4
    have b3 := b1.out.trans (hb3.mono b1.out.size)
    have o4 : Hid ((⟨tq, tn, tc, rq, rn, rc, bq, bn, bc, q5, mn + 1, c5, o⟩ : SV).Own u4 { x with marks := x.marks ++ [x.rows] }) := by
      have a := o3.gw hg4 g3
      exact ⟨a.sch, a.rows, a.begun, m3.gt hg4 g3 (by decide) (by decide), a.over⟩
    have x4 := Lib.hid (x3.out.kept hg4 (by omega))
    have r4 := Lib.hid (grown_trans (below_grown b3 (some g)) hg4)
    refine x_skip (i := 20) (dst := none) (w' := u4) rfl rfl (by kernel_rfl) rfl (run_store_op rfl rfl rfl hst) (x_gone (by kernel_rfl)) ?_
    go_frame
    refine x_done (by kernel_rfl) ?_
    clear hst h4 hg4 m3 l3 o3 g3 b3 hX3 hb3 hgr hown hrun hX2 hbx2 hu2 hX1 hX0 e1 v1 l1 g1 o1 x1 b1
    go_wp2_with (first
      | ((with_reducible refine wpList_store_at rfl 35 (.tmp 2) (.tmp 35) rfl (o := 0) (vs := [.int .i64 0, .slice none 0 0, .int .i64 ((mn : Int) + 1)]) rfl rfl x4.out (sizeAns _ _ _) (Nat.le_refl _) (ans_one _ _ _ _ _) ?_)
         intro w9 h9 hg9
         have h9' := Lib.hid h9
         have hg9' := Lib.hid hg9
         clear h9 hg9))
    have s1 : RowV 35 w9 (w.heap.size) [.int .i64 0, .slice none 0 0, .int .i64 ((mn : Int) + 1)] := h9'.out
    have m0 := s1.cell 0
    have m1 := s1.cell 1
    have m2 := s1.cell 2
    simp only [List.getElem?_cons_zero, List.getElem?_cons_succ] at m0 m1 m2
    refine bodyPost_ret (v := .agg #[.int .i64 0, .slice none 0 0, .int .i64 ((mn : Int) + 1)]) (by simp [results, Try.results78, go_sem, m0, m1, m2]) rfl ?_
    rw [hres.out]
    exact ⟨⟨tq, tn, tc, rq, rn, rc, bq, bn, bc, q5, mn + 1, c5, o⟩, ⟨0, none, 0, 0, (mn : Int) + 1⟩, rfl, h4'.out.kept hg9'.out (by omega), o4.out.ga hg9'.out x4.out, ⟨rfl, OwnL.none_ _, by rw [hml.out]⟩, Gr.own3 r4.out hg9'.out (by omega)⟩

end Go.Proofs.Ytkdkncbccofpdaa
