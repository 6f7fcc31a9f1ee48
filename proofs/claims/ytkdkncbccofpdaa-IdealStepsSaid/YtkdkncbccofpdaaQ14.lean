/- Parts of the proof: mark and back of ideal; back of ideal; Maps whose keys are integers, by what they give: lookup, store, delete, clear, len as laws for the walk; nothing of a program is claimed here -/
import Derived.Test.YtkdkncbccofpdaaQ13
import Derived.ArgAppend
import Derived.Test.YtkdkncbccofpdaaRows
import Derived.WalkKit
import Derived.Lib.Hide
import Derived.ProofKit
import Derived.Maps.Own
import Derived.Lib.SlKeysI
namespace Go.Proofs.Ytkdkncbccofpdaa
open Go.RowKit
set_option maxRecDepth 100000
def marW (x : SerD) : SerD × AnsD := if x.marks.length = 8 then (x, errA 6) else ({ x with marks := x.marks ++ [x.rows] }, ⟨0, [], x.marks.length + 1⟩)
def bakW (x : SerD) (k : Nat) : SerD × AnsD := if k < x.marks.length then ({ x with rows := (x.marks[k]?).getD [], marks := x.marks.take (k + 1) }, ⟨0, [], 0⟩) else (x, errA 4)
/-- one more list behind others, which have no room -/
theorem run_append_mk {P : Program} {w : World} {t T : TypeId} (ht : P.underlying t = some (.slice T)) (hi : (P.info? T).map (fun i => (i.zero, i.size, i.bytes)) = some (some (.slice none 0 0), Cel.sz SlV, 24)) (ty : TypeId)
 {q : Option Addr} {n c b : Nat} {vs : List SlV} {p : SlV} (h : OwnS T w 0 (.slice q n c) vs) (hn : n ≤ 1000000) (hp : RowV T w b [.slice p.q p.n p.c]) :
 ∃ q' c' w', (Builtin.append_ #[t, t] ty #[.slice q n n, .slice (some ⟨b, 0, none⟩) 1 1]).run P w = .ok (.slice q' (n + 1) c') w' ∧ OwnS T w' 0 (.slice q' (n + 1) c') (vs ++ [p]) ∧ w.grownBy w' none := by
 obtain ⟨i0, hi0, hz0, hz1, hz2⟩ := info_parts hi
 have hl := h.len
 have hs1 : SlOn w (some ⟨b, 0, none⟩) 1 1 [p] := (OwnS.single (r := p) hp).reads
 cases q with
 | none =>
   obtain ⟨rfl, rfl, rfl⟩ := h.nil_cap
   obtain ⟨q', c', w', h1, h2, h3, _⟩ := run_append_l (P := P) (w := w) ht hi rfl ty (OwnS.nil T w w.heap.size) hs1 (by omega) (by omega) (Nat.le_refl _)
   rw [Nat.zero_add] at h1 h2
   exact ⟨q', c', w', h1, by simpa using h2.mono (Nat.zero_le _), h3⟩
 | some a =>
   obtain ⟨g, cur, rfl, _, hrow, hnc, hcm, hcur, htk⟩ := h.opened
   have hrd := h.reads
   obtain ⟨v', w', h1, h2, h3⟩ := run_append_arg_grows (P := P) (w := w) t ty T i0 (.slice none 0 0) 1 24 ht hi0 hz0 hz1 hz2 rfl (by decide) ⟨g, 0, none⟩ n n (cellsL vs) (by rw [cellsL_len, hl]; rfl)
    (fun j u hj => by
      obtain ⟨i, r, k, rfl, e1, e2⟩ := cellsL_get' vs j u hj
      obtain ⟨a', ha', hc⟩ := hrd.get i r e1
      cases ha'
      rw [← Go.Deep.add_add]
      exact hc k u e2) ⟨b, 0, none⟩ 1 1 [.slice p.q p.n p.c] rfl (fun j u hj => (hp.boxed) j u hj) (by omega) (by unfold maxLen; omega) (by omega)
   have h2' : OwnS T w' w.heap.size v' (vs ++ [p]) := by
    unfold OwnS
    rw [List.length_append, cellsL_append, ← hl]
    exact h2
   obtain ⟨q', c', rfl⟩ := h2'.shape
   rw [List.length_append, ← hl] at h1 h2'
   exact ⟨q', c', w', h1, h2'.mono (Nat.zero_le _), h3⟩
set_option maxHeartbeats 4000000 in
theorem mar_any (g : Nat) (tq : Option Addr) (tn tc : Nat) (rq : Option Addr) (rn rc : Nat) (bq : Option Addr) (bn bc : Nat) (mq : Option Addr) (mn mc : Nat) (o : Bool) (qk kt ki tt ti qv : Int) (qs : ByteArray) (qn : Int) (x : SerD) (w : World) (hg : RowV 94 w g [.slice tq tn tc, .slice rq rn rc, .slice bq bn bc, .slice mq mn mc, .bool o, .int .i64 qk, .int .i64 kt, .int .u16 ki, .int .i64 tt, .int .u16 ti, .int .i64 qv, .string qs, .int .i64 qn]) (hx : (⟨tq, tn, tc, rq, rn, rc, bq, bn, bc, mq, mn, mc, o⟩ : SV).Own w x) (hf : Few x) (hm : x.marks.length ≤ 8) :
 Calls Try.prog 78 #[.pointer (some ⟨g, 0, none⟩)] w (WkPost g ⟨qk, ⟨kt, ki⟩, ⟨tt, ti⟩, qv, qs, qn⟩ (marW x) w) := by
 obtain ⟨W, hW⟩ : ∃ W, w.alloc (.cells #[.int .i64 0, .slice none 0 0, .int .i64 0] 35) = W := ⟨_, rfl⟩
 have hbx := Lib.hid (one_rowI (xs := [.int .i64 0, .slice none 0 0, .int .i64 0]) hW)
 have hlt := hg.lt
 have g0 := Lib.hid (hg.below hbx.out.1)
 have o0 := Lib.hid (hx.below hbx.out.1)
 have x0 := Lib.hid hbx.out.2.1
 have b0 := Lib.hid hbx.out.1
 have hsz := Lib.hid hbx.out.2.2
 have hrn : rn ≤ 1000000 := by have h1 : x.rows.length = rn := hx.rows.reads.len; have := hf.rows; omega
 have y0 : W.cell? ⟨g, 3, none⟩ = some (.slice mq mn mc) := g0.out.cell 3
 have hml : Hid (x.marks.length = mn) := hx.marks.reads.len
 have hm8 : mn ≤ 8 := by rw [← hml.out]; exact hm
 have hrn' := hrn
 clear hg hx hf hbx hm
 go_enter Try.func78, Try.ntmps78
 by_cases he : mn = 8
 · have he1 : ((mn : Int) == 8) = true := by simp; omega
   have hres : Hid (marW x = (x, errA 6)) := by show _ = _; unfold marW; rw [if_pos (by rw [hml.out]; exact he)]
   have g1 := g0
   have o1 := o0
   have x1 := x0
   have b1 := b0
   clear he
   go_wp2_with fail
   clear hW he1
   refine (told_any 6 W).mono ?_
   rintro e w4 ⟨rfl, hb⟩
   have gq := Lib.hid (g1.out.below hb)
   have oq := Lib.hid (o1.out.below hb)
   have xq := Lib.hid (x1.out.below hb)
   have bq_ := Lib.hid (b1.out.trans (hb.mono b1.out.size))
   clear hb
   go_wp2_with (first
    | ((with_reducible refine wpList_store_at rfl 35 (.tmp 2) (.tmp 12) rfl (o := 0) (vs := [.int .i64 6, .slice none 0 0, .int .i64 0]) rfl rfl xq.out (sizeAns _ _ _) (Nat.le_refl _) (ans_one _ _ _ _ _) ?_)
       intro w9 h9 hg9
       have h9' := Lib.hid h9
       have hg9' := Lib.hid hg9
       clear h9 hg9))
   have s1 : RowV 35 w9 (w.heap.size) [.int .i64 6, .slice none 0 0, .int .i64 0] := h9'.out
   have m0 := s1.cell 0
   have m1 := s1.cell 1
   have m2 := s1.cell 2
   simp only [List.getElem?_cons_zero, List.getElem?_cons_succ] at m0 m1 m2
   refine bodyPost_ret (v := .agg #[.int .i64 6, .slice none 0 0, .int .i64 0]) (by simp [results, Try.results78, go_sem, m0, m1, m2]) rfl ?_
   rw [hres.out]
   exact ⟨⟨tq, tn, tc, rq, rn, rc, bq, bn, bc, mq, mn, mc, o⟩, ⟨6, none, 0, 0, 0⟩, rfl, gq.out.kept hg9'.out (by omega), oq.out.ga hg9'.out xq.out, AV.Own.err _ _, Gr.own3 (below_grown bq_.out (some g)) hg9'.out (by omega)⟩
 · have he1 : ((mn : Int) == 8) = false := by simp; omega
   have hres : Hid (marW x = ({ x with marks := x.marks ++ [x.rows] }, ⟨0, [], x.marks.length + 1⟩)) := by show _ = _; unfold marW; rw [if_neg (by rw [hml.out]; exact he)]
   have hadd : IntKind.i64.wrap ((mn : Int) + 1) = (mn : Int) + 1 := IntWalk.i64_in _ (by omega)
   have y1 : W.cell? ⟨g, 1, none⟩ = some (.slice rq rn rc) := g0.out.cell 1
   clear he
   obtain ⟨vs, hvs, hvl, hve⟩ := o0.out.marks
   have hvs' := Lib.hid hvs
   have hve' := Lib.hid hve
   have hvl' := Lib.hid hvl
   have hmc : mn ≤ mc := hvs.reads.le
   have hcap : mc ≤ maxLen := hvs.reads.cap
   have hnil : mq = none → mn = 0 ∧ mc = 0 := fun e => by have h := hvs; subst e; exact ⟨h.nil_cap.1, h.nil_cap.2.1⟩
   clear hvs hve hvl
   go_wp2
   refine wp_region_x (by kernel_rfl) 20 (fun u => u.cell? ⟨g, 3, none⟩ = some (.slice mq mn mc) ∧ u.cell? ⟨g, 1, none⟩ = some (.slice rq rn rc)) ?_
   change wpAnyX _ _ _ _ _ _ _ _ _ (World.drew W)
   have hX0 : Hid ((fun u : World => u.cell? ⟨g, 3, none⟩ = some (.slice mq mn mc) ∧ u.cell? ⟨g, 1, none⟩ = some (.slice rq rn rc)) W.drew) := ⟨y0, y1⟩
   refine x_pu (i := 0) (dst := some 13) (v := .pointer (some ⟨g, 0, none⟩)) rfl rfl (y_move (.tmp 0) rfl rfl rfl) (fun _ => hX0.out) ?_
   go_frame
   refine x_pu (i := 1) (dst := some 14) (v := .pointer (some ⟨g, 0, none⟩)) rfl rfl (y_move (.tmp 0) rfl rfl rfl) (fun _ => hX0.out) ?_
   go_frame
   refine x_pu (i := 2) (dst := some 15) (v := .pointer (some ⟨g, 0, none⟩)) rfl rfl (.inl ⟨rfl, fun u _ => by go_simp⟩) (fun _ => hX0.out) ?_
   go_frame
   refine x_pu (i := 3) (dst := some 16) (v := .pointer (some ⟨g, 0, none⟩)) rfl rfl (.inl ⟨rfl, fun u _ => by go_simp⟩) (fun _ => hX0.out) ?_
   go_frame
   refine x_pu (i := 4) (dst := some 17) (v := .pointer (some ⟨g, 3, none⟩)) rfl rfl (.inl ⟨rfl, fun u _ => by go_simp⟩) (fun _ => hX0.out) ?_
   go_frame
   refine x_tk (i := 5) (dst := some 18) (v := .slice mq mn mc) rfl rfl (.inl ⟨rfl, fun u hu => by have y0 := hu.1; go_simp⟩) hX0.out ?_
   go_frame
   refine x_pu (i := 6) (dst := some 19) (v := .int .i64 mn) rfl rfl (y_move (.tmp 3) rfl rfl rfl) (fun _ => hX0.out) ?_
   go_frame
   refine x_pu (i := 7) (dst := some 20) (v := .int .i64 mn) rfl rfl (y_move (.tmp 3) rfl rfl rfl) (fun _ => hX0.out) ?_
   go_frame
   refine x_pu (i := 8) (dst := some 21) (v := .slice mq mn mn) rfl rfl (.inl ⟨rfl, fun u _ => by cases mq with | none => (obtain ⟨rfl, rfl⟩ := hnil rfl; go_simp) | some a => go_simp⟩) (fun _ => hX0.out) ?_
   go_frame
   refine x_pu (i := 9) (dst := some 22) (v := .pointer (some ⟨g, 0, none⟩)) rfl rfl (y_move (.tmp 0) rfl rfl rfl) (fun _ => hX0.out) ?_
   go_frame
   refine x_pu (i := 10) (dst := some 23) (v := .pointer (some ⟨g, 0, none⟩)) rfl rfl (.inl ⟨rfl, fun u _ => by go_simp⟩) (fun _ => hX0.out) ?_
   go_frame
   refine x_pu (i := 11) (dst := some 24) (v := .pointer (some ⟨g, 0, none⟩)) rfl rfl (.inl ⟨rfl, fun u _ => by go_simp⟩) (fun _ => hX0.out) ?_
   go_frame
   refine x_pu (i := 12) (dst := some 25) (v := .pointer (some ⟨g, 1, none⟩)) rfl rfl (.inl ⟨rfl, fun u _ => by go_simp⟩) (fun _ => hX0.out) ?_
   go_frame
   refine x_tk (i := 13) (dst := some 26) (v := .slice rq rn rc) rfl rfl (.inl ⟨rfl, fun u hu => by have y0 := hu.2; go_simp⟩) hX0.out ?_
   go_frame
   refine x_call (i := 14) (dst := some 27) rfl rfl (by kernel_rfl) rfl (by go_simp) (cloneR_any rq rn rc x.rows W.drew (o0.out.rows.reads.below (below_drew _) (Nat.le_refl _)) hrn) ?_
   rintro e u1 ⟨lq, lc, rfl, hl, hb⟩
   have hb' : Below W.heap.size W u1 := (below_drew W).trans hb
   have hv := Lib.hid hb'
   have g1 := Lib.hid (g0.out.below hv.out)
   have o1 := Lib.hid (o0.out.below hv.out)
   have x1 := Lib.hid (x0.out.below hv.out)
   have b1 := Lib.hid (b0.out.trans (hv.out.mono b0.out.size))
   have l1 := Lib.hid hl
   have v1 := Lib.hid (hvs'.out.below hb')
   have e1 : Hid (∀ (i : Nat) (v : SlV) (l : List RowD), vs[i]? = some v → x.marks[i]? = some l → OwnL u1 v.q v.n v.c l) := fun i v l a b => (hve'.out i v l a b).below hb'
   have hX1 : Hid ((fun u : World => u.cell? ⟨g, 3, none⟩ = some (.slice mq mn mc) ∧ u.cell? ⟨g, 1, none⟩ = some (.slice rq rn rc)) u1) := ⟨cell_keeps hb' (Nat.le_refl _) y0, cell_keeps hb' (Nat.le_refl _) y1⟩
   clear hb hb' hl y0 y1 hve' hvs'
   refine ⟨_, rfl, fun _ => hX1.out, ?_⟩
   go_frame
   obtain ⟨u2, hu2⟩ : ∃ u2, u1.alloc (.cells #[.slice lq rn lc] 25) = u2 := ⟨_, rfl⟩
   have hbx2 := one_rowI (xs := [.slice lq rn lc]) hu2
   have hX2 : Hid ((fun u : World => u.cell? ⟨g, 3, none⟩ = some (.slice mq mn mc) ∧ u.cell? ⟨g, 1, none⟩ = some (.slice rq rn rc)) u2) := ⟨cell_keeps hbx2.1 (Nat.le_refl _) hX1.out.1, cell_keeps hbx2.1 (Nat.le_refl _) hX1.out.2⟩
   refine x_value (i := 15) (dst := some 28) (w' := u2) (v := .slice (some ⟨u1.heap.size, 0, none⟩) 1 1) rfl rfl (by kernel_rfl) rfl (by rw [← hu2]; go_simp) (fun _ => hX2.out) ?_
   go_frame
   obtain ⟨q5, c5, u3, hrun, hown, hgr⟩ := run_append_mk (P := Try.prog) (w := u2) (t := 44) (T := 25) Try.underlying44 infoSl 44 (p := ⟨lq, rn, lc⟩) (v1.out.below hbx2.1) (by omega) hbx2.2.1
   have hb3 : Below u1.heap.size u1 u3 := hbx2.1.grown hgr hbx2.1.size (fun k hk => by cases hk)
   have hX3 : Hid ((fun u : World => u.cell? ⟨g, 3, none⟩ = some (.slice mq mn mc) ∧ u.cell? ⟨g, 1, none⟩ = some (.slice rq rn rc)) u3) := ⟨cell_keeps hb3 (Nat.le_refl _) hX1.out.1, cell_keeps hb3 (Nat.le_refl _) hX1.out.2⟩
   refine x_value (i := 16) (dst := some 29) (w' := u3) (v := .slice q5 (mn + 1) c5) rfl rfl (by kernel_rfl) rfl (by simp [execOp, resolve, invoke, builtin, Act.eval, hrun, Result.andThen]) (fun _ => hX3.out) ?_
   go_frame
   refine x_pu (i := 17) (dst := some 30) (v := .pointer (some ⟨g, 0, none⟩)) rfl rfl (.inl ⟨rfl, fun u _ => by go_simp⟩) (fun _ => hX3.out) ?_
   go_frame
   refine x_pu (i := 18) (dst := some 31) (v := .pointer (some ⟨g, 0, none⟩)) rfl rfl (.inl ⟨rfl, fun u _ => by go_simp⟩) (fun _ => hX3.out) ?_
   go_frame
   refine x_pu (i := 19) (dst := some 32) (v := .pointer (some ⟨g, 3, none⟩)) rfl rfl (.inl ⟨rfl, fun u _ => by go_simp⟩) (fun _ => hX3.out) ?_
   go_frame
   have g3 := g1.out.below hb3
   have x3 := Lib.hid (x1.out.below hb3)
   have o3 := o1.out.below hb3
   have l3 := l1.out.below hb3
   have m3 : OwnM u3 q5 (mn + 1) c5 (x.marks ++ [x.rows]) := by
    refine ⟨vs ++ [⟨lq, rn, lc⟩], hown, by rw [List.length_append, List.length_append, hvl'.out]; rfl, fun i v l a b => ?_⟩
    by_cases hi : i < vs.length
    · rw [List.getElem?_append_left hi] at a
      rw [List.getElem?_append_left (by have := hvl'.out; omega)] at b
      exact (e1.out i v l a b).below hb3
    · have hi2 : i = vs.length := by
       have h1 := (List.getElem?_eq_some_iff.1 a).1
       rw [List.length_append] at h1
       simp at h1
       omega
      subst hi2
      rw [List.getElem?_append_right (Nat.le_refl _), Nat.sub_self] at a
      have hvx := hvl'.out
      rw [List.getElem?_append_right (by omega), show vs.length - x.marks.length = 0 by omega] at b
      obtain rfl : (⟨lq, rn, lc⟩ : SlV) = v := by simpa using a
      obtain rfl : x.rows = l := by simpa using b
      exact l3
   obtain ⟨u4, hst, h4, hg4⟩ := run_storeVar_one (P := Try.prog) (ty := 44) (o := 3) (v := .slice q5 (mn + 1) c5) g3 oneMks rfl (by simp) rfl
   have h4' : Hid (RowV 94 u4 g [.slice tq tn tc, .slice rq rn rc, .slice bq bn bc, .slice q5 (mn + 1) c5, .bool o, .int .i64 qk, .int .i64 kt, .int .u16 ki, .int .i64 tt, .int .u16 ti, .int .i64 qv, .string qs, .int .i64 qn]) := h4
   have b3 := b1.out.trans (hb3.mono b1.out.size)
   have o4 : Hid ((⟨tq, tn, tc, rq, rn, rc, bq, bn, bc, q5, mn + 1, c5, o⟩ : SV).Own u4 { x with marks := x.marks ++ [x.rows] }) := by
    have a := o3.gw hg4 g3
    exact ⟨a.sch, a.rows, a.begun, m3.gt hg4 g3 (by decide) (by decide), a.over⟩
   have x4 := Lib.hid (x3.out.kept hg4 (by omega))
   have r4 := Lib.hid (grown_trans (below_grown b3 (some g)) hg4)
   refine x_skip (i := 20) (dst := none) (w' := u4) rfl rfl (by kernel_rfl) rfl (run_store_op rfl rfl rfl hst) (x_gone (by kernel_rfl)) ?_
   go_frame
   refine x_done (by kernel_rfl) ?_
   clear hst h4 hg4 m3 l3 o3 g3 b3 hX3 hb3 hgr hown hrun hX2 hbx2 hu2 hX1 hX0 e1 v1 l1 g1 o1 x1 b1
   go_wp2_with (first
    | ((with_reducible refine wpList_store_at rfl 35 (.tmp 2) (.tmp 35) rfl (o := 0) (vs := [.int .i64 0, .slice none 0 0, .int .i64 ((mn : Int) + 1)]) rfl rfl x4.out (sizeAns _ _ _) (Nat.le_refl _) (ans_one _ _ _ _ _) ?_)
       intro w9 h9 hg9
       have h9' := Lib.hid h9
       have hg9' := Lib.hid hg9
       clear h9 hg9))
   have s1 : RowV 35 w9 (w.heap.size) [.int .i64 0, .slice none 0 0, .int .i64 ((mn : Int) + 1)] := h9'.out
   have m0 := s1.cell 0
   have m1 := s1.cell 1
   have m2 := s1.cell 2
   simp only [List.getElem?_cons_zero, List.getElem?_cons_succ] at m0 m1 m2
   refine bodyPost_ret (v := .agg #[.int .i64 0, .slice none 0 0, .int .i64 ((mn : Int) + 1)]) (by simp [results, Try.results78, go_sem, m0, m1, m2]) rfl ?_
   rw [hres.out]
   exact ⟨⟨tq, tn, tc, rq, rn, rc, bq, bn, bc, q5, mn + 1, c5, o⟩, ⟨0, none, 0, 0, (mn : Int) + 1⟩, rfl, h4'.out.kept hg9'.out (by omega), o4.out.ga hg9'.out x4.out, ⟨rfl, OwnL.none_ _, by rw [hml.out]⟩, Gr.own3 r4.out hg9'.out (by omega)⟩
end Go.Proofs.Ytkdkncbccofpdaa
namespace Go.Proofs.Ytkdkncbccofpdaa
open Go.RowKit
set_option maxRecDepth 100000
set_option maxHeartbeats 4000000 in
theorem bak_any (g : Nat) (tq : Option Addr) (tn tc : Nat) (rq : Option Addr) (rn rc : Nat) (bq : Option Addr) (bn bc : Nat) (mq : Option Addr) (mn mc : Nat) (o : Bool) (qk kt ki tt ti qv : Int) (qs : ByteArray) (k : Nat) (x : SerD) (w : World) (hg : RowV 94 w g [.slice tq tn tc, .slice rq rn rc, .slice bq bn bc, .slice mq mn mc, .bool o, .int .i64 qk, .int .i64 kt, .int .u16 ki, .int .i64 tt, .int .u16 ti, .int .i64 qv, .string qs, .int .i64 ((k : Int) + 1)]) (hx : (⟨tq, tn, tc, rq, rn, rc, bq, bn, bc, mq, mn, mc, o⟩ : SV).Own w x) (hf : Few x) (hm : x.marks.length ≤ 8) (hk : k < 9223372036854775807) :
 Calls Try.prog 79 #[.pointer (some ⟨g, 0, none⟩)] w (WkPost g ⟨qk, ⟨kt, ki⟩, ⟨tt, ti⟩, qv, qs, ((k : Int) + 1)⟩ (bakW x k) w) := by
 obtain ⟨W, hW⟩ : ∃ W, w.alloc (.cells #[.int .i64 0, .slice none 0 0, .int .i64 0] 35) = W := ⟨_, rfl⟩
 have hbx := Lib.hid (one_rowI (xs := [.int .i64 0, .slice none 0 0, .int .i64 0]) hW)
 have hlt := hg.lt
 have g0 := Lib.hid (hg.below hbx.out.1)
 have o0 := Lib.hid (hx.below hbx.out.1)
 have x0 := Lib.hid hbx.out.2.1
 have b0 := Lib.hid hbx.out.1
 have hsz := Lib.hid hbx.out.2.2
 have hfe := Lib.hid hf.each
 have y0 : W.cell? ⟨g, 12, none⟩ = some (.int .i64 ((k : Int) + 1)) := g0.out.cell 12
 have y1 : W.cell? ⟨g, 3, none⟩ = some (.slice mq mn mc) := g0.out.cell 3
 have hml : Hid (x.marks.length = mn) := hx.marks.reads.len
 have hm8 : mn ≤ 8 := by rw [← hml.out]; exact hm
 clear hg hx hf hbx hm
 go_enter Try.func79, Try.ntmps79
 by_cases he : k < mn
 · have he1 : decide ((mn : Int) < (k : Int) + 1) = false := by simp; omega
   have hres : Hid (bakW x k = ({ x with rows := (x.marks[k]?).getD [], marks := x.marks.take (k + 1) }, ⟨0, [], 0⟩)) := by show _ = _; unfold bakW; rw [if_pos (by rw [hml.out]; exact he)]
   have hsub : IntKind.i64.wrap ((k : Int) + 1 - 1) = (k : Int) := by rw [IntWalk.i64_in _ (by omega)]; omega
   obtain ⟨vs, hvs, hvl, hve⟩ := o0.out.marks
   have hnc : mn ≤ mc := hvs.reads.le
   have hcap : mc ≤ maxLen := hvs.reads.cap
   unfold maxLen at hcap
   obtain ⟨A, ⟨pq, pn, pc⟩, hA, hp, hcl⟩ := hvs.reads.at he
   have hA' : mq = some A := hA
   subst hA'
   obtain ⟨b, cur, hAb, _, hrow, _, _, hcur, htk⟩ := hvs.opened
   have hAb' : A = ⟨b, 0, none⟩ := hAb
   subst hAb'
   have y2 : W.cell? ⟨b, k, none⟩ = some (.slice pq pn pc) := by
    have h1 := hcl 0 (.slice pq pn pc) rfl
    have e : (((⟨b, 0, none⟩ : Addr).add (k * Cel.sz SlV)).add 0) = ⟨b, k, none⟩ ∨ k = 0 := by
     by_cases h0 : k = 0
     · exact .inr h0
     · left; rw [add0]; unfold Addr.add; rw [show Cel.sz SlV = 1 from rfl, Nat.mul_one]; split <;> simp_all
    rcases e with e | rfl
    · rw [e] at h1; exact h1
    · rw [add0, Nat.zero_mul, add0] at h1; exact h1
   obtain ⟨l, hlk⟩ : ∃ l, x.marks[k]? = some l := ⟨_, List.getElem?_eq_getElem (by have := hml.out; omega)⟩
   have lk := Lib.hid (hve k ⟨pq, pn, pc⟩ l hp hlk)
   have hpn : pn ≤ 1000000 := by have h1 : l.length = pn := lk.out.reads.len; have := hfe.out l (List.mem_of_getElem? hlk); omega
   have hvs' := Lib.hid hvs
   have hve' := Lib.hid hve
   have hvl' := Lib.hid hvl
   have hres2 : Hid (bakW x k = ({ x with rows := l, marks := x.marks.take (k + 1) }, ⟨0, [], 0⟩)) := by show _ = _; rw [hres.out, hlk]; rfl
   have he2 : decide ((k : Int) < (mn : Int)) = true := by simp; exact he
   clear hvs hve hvl hA hp hcl hAb hrow hcur htk hlk hres
   go_wp2
   refine wp_region_x (by kernel_rfl) 23 (fun u => u.cell? ⟨g, 3, none⟩ = some (.slice (some ⟨b, 0, none⟩) mn mc) ∧ u.cell? ⟨b, k, none⟩ = some (.slice pq pn pc)) ?_
   change wpAnyX _ _ _ _ _ _ _ _ _ (World.drew W)
   have hX0 : Hid ((fun u : World => u.cell? ⟨g, 3, none⟩ = some (.slice (some ⟨b, 0, none⟩) mn mc) ∧ u.cell? ⟨b, k, none⟩ = some (.slice pq pn pc)) W.drew) := ⟨y1, y2⟩
   refine x_pu (i := 0) (dst := some 18) (v := .pointer (some ⟨g, 0, none⟩)) rfl rfl (y_move (.tmp 0) rfl rfl rfl) (fun _ => hX0.out) ?_
   go_frame
   refine x_pu (i := 1) (dst := some 19) (v := .pointer (some ⟨g, 0, none⟩)) rfl rfl (y_move (.tmp 0) rfl rfl rfl) (fun _ => hX0.out) ?_
   go_frame
   refine x_pu (i := 2) (dst := some 20) (v := .pointer (some ⟨g, 0, none⟩)) rfl rfl (y_move (.tmp 0) rfl rfl rfl) (fun _ => hX0.out) ?_
   go_frame
   refine x_pu (i := 3) (dst := some 21) (v := .pointer (some ⟨g, 0, none⟩)) rfl rfl (.inl ⟨rfl, fun u _ => by go_simp⟩) (fun _ => hX0.out) ?_
   go_frame
   refine x_pu (i := 4) (dst := some 22) (v := .pointer (some ⟨g, 0, none⟩)) rfl rfl (.inl ⟨rfl, fun u _ => by go_simp⟩) (fun _ => hX0.out) ?_
   go_frame
   refine x_pu (i := 5) (dst := some 23) (v := .pointer (some ⟨g, 3, none⟩)) rfl rfl (.inl ⟨rfl, fun u _ => by go_simp⟩) (fun _ => hX0.out) ?_
   go_frame
   refine x_tk (i := 6) (dst := some 24) (v := .slice (some ⟨b, 0, none⟩) mn mc) rfl rfl (.inl ⟨rfl, fun u hu => by have y0 := hu.1; go_simp⟩) hX0.out ?_
   go_frame
   refine x_pu (i := 7) (dst := some 25) (v := .int .i64 ((k : Int) + 1)) rfl rfl (y_move (.tmp 3) rfl rfl rfl) (fun _ => hX0.out) ?_
   go_frame
   refine x_pu (i := 8) (dst := some 26) (v := .int .i64 k) rfl rfl (.inl ⟨rfl, fun u _ => by have hw : IntKind.i64.wrap (k : Int) = k := IntWalk.i64_in _ (by omega); go_simp⟩) (fun _ => hX0.out) ?_
   go_frame
   refine x_pu (i := 9) (dst := some 27) (v := .pointer (some ⟨b, k, none⟩)) rfl rfl (.inl ⟨rfl, fun u _ => by go_simp⟩) (fun _ => hX0.out) ?_
   go_frame
   refine x_tk (i := 10) (dst := some 28) (v := .slice pq pn pc) rfl rfl (.inl ⟨rfl, fun u hu => by have y0 := hu.2; go_simp⟩) hX0.out ?_
   go_frame
   refine x_pu (i := 12) (dst := some 30) (v := .pointer (some ⟨g, 0, none⟩)) rfl rfl (y_move (.tmp 0) rfl rfl rfl) (fun _ => hX0.out) ?_
   go_frame
   refine x_pu (i := 13) (dst := some 31) (v := .pointer (some ⟨g, 0, none⟩)) rfl rfl (.inl ⟨rfl, fun u _ => by go_simp⟩) (fun _ => hX0.out) ?_
   go_frame
   refine x_pu (i := 14) (dst := some 32) (v := .pointer (some ⟨g, 0, none⟩)) rfl rfl (.inl ⟨rfl, fun u _ => by go_simp⟩) (fun _ => hX0.out) ?_
   go_frame
   refine x_pu (i := 15) (dst := some 33) (v := .pointer (some ⟨g, 3, none⟩)) rfl rfl (.inl ⟨rfl, fun u _ => by go_simp⟩) (fun _ => hX0.out) ?_
   go_frame
   refine x_tk (i := 16) (dst := some 34) (v := .slice (some ⟨b, 0, none⟩) mn mc) rfl rfl (.inl ⟨rfl, fun u hu => by have y0 := hu.1; go_simp⟩) hX0.out ?_
   go_frame
   refine x_pu (i := 17) (dst := some 35) (v := .int .i64 ((k : Int) + 1)) rfl rfl (y_move (.tmp 3) rfl rfl rfl) (fun _ => hX0.out) ?_
   go_frame
   refine x_pu (i := 18) (dst := some 36) (v := .slice (some ⟨b, 0, none⟩) (k + 1) mc) rfl rfl (.inl ⟨rfl, fun u _ => by have i0 : (0 : Int) ≤ (k : Int) + 1 := (by omega); have i1 : (k : Int) + 1 ≤ (mc : Int) := (by omega); have i2 : ((mc : Int) < (k : Int) + 1) = False := eq_false (by omega); go_simp⟩) (fun _ => hX0.out) ?_
   go_frame
   refine x_call (i := 11) (dst := some 29) rfl rfl (by kernel_rfl) rfl (by go_simp) (cloneR_any pq pn pc l W.drew (lk.out.reads.below (below_drew _) (Nat.le_refl _)) hpn) ?_
   rintro e u1 ⟨lq, lc, rfl, hl, hb⟩
   have hb1 : Below W.heap.size W u1 := (below_drew W).trans hb
   have hX1 : Hid ((fun u : World => u.cell? ⟨g, 3, none⟩ = some (.slice (some ⟨b, 0, none⟩) mn mc) ∧ u.cell? ⟨b, k, none⟩ = some (.slice pq pn pc)) u1) := ⟨cell_keeps hb1 (Nat.le_refl _) y1, cell_keeps hb1 (Nat.le_refl _) y2⟩
   refine ⟨_, rfl, fun _ => hX1.out, ?_⟩
   go_frame
   have hfr := (hvs'.out.reads.front (m := k + 1) (by omega)).below hb1 (Nat.le_refl _)
   refine x_call (i := 19) (dst := some 37) rfl rfl (by kernel_rfl) rfl (by go_simp) (cloneM_any (some ⟨b, 0, none⟩) (k + 1) mc (vs.take (k + 1)) u1 hfr (by omega)) ?_
   rintro e u2 ⟨jq, jc, rfl, hj, hb2⟩
   have hb3 : Below W.heap.size W u2 := hb1.trans (hb2.mono hb1.size)
   have hX2 : Hid ((fun u : World => u.cell? ⟨g, 3, none⟩ = some (.slice (some ⟨b, 0, none⟩) mn mc) ∧ u.cell? ⟨b, k, none⟩ = some (.slice pq pn pc)) u2) := ⟨cell_keeps hb3 (Nat.le_refl _) y1, cell_keeps hb3 (Nat.le_refl _) y2⟩
   have l2 := Lib.hid (hl.below hb2)
   have m2 : Hid (OwnM u2 jq (k + 1) jc (x.marks.take (k + 1))) := by
    have hvx := hvl'.out
    refine ⟨vs.take (k + 1), hj.mono (Nat.zero_le _), by rw [List.length_take, List.length_take, hvx], fun i v m a c => ?_⟩
    rw [List.getElem?_take] at a c
    split at a
    · rename_i hik
      rw [if_pos hik] at c
      exact (hve'.out i v m a c).below hb3
    · cases a
   have hv := Lib.hid hb3
   have g1 := Lib.hid (g0.out.below hv.out)
   have o1 := Lib.hid (o0.out.below hv.out)
   have x1 := Lib.hid (x0.out.below hv.out)
   have b1 := Lib.hid (b0.out.trans (hv.out.mono b0.out.size))
   clear hl hb hb1 hX1 hfr hj hb2 hb3 y1 y2
   refine ⟨_, rfl, fun _ => hX2.out, ?_⟩
   go_frame
   refine x_pu (i := 20) (dst := some 38) (v := .pointer (some ⟨g, 0, none⟩)) rfl rfl (.inl ⟨rfl, fun u _ => by go_simp⟩) (fun _ => hX2.out) ?_
   go_frame
   refine x_pu (i := 21) (dst := some 39) (v := .pointer (some ⟨g, 0, none⟩)) rfl rfl (.inl ⟨rfl, fun u _ => by go_simp⟩) (fun _ => hX2.out) ?_
   go_frame
   refine x_pu (i := 22) (dst := some 40) (v := .pointer (some ⟨g, 1, none⟩)) rfl rfl (.inl ⟨rfl, fun u _ => by go_simp⟩) (fun _ => hX2.out) ?_
   go_frame
   obtain ⟨u3, hst3, h3, hg3⟩ := run_storeVar_one (P := Try.prog) (ty := 25) (o := 1) (v := .slice lq pn lc) g1.out oneRows rfl (by simp) rfl
   have h3' : RowV 94 u3 g [.slice tq tn tc, .slice lq pn lc, .slice bq bn bc, .slice (some ⟨b, 0, none⟩) mn mc, .bool o, .int .i64 qk, .int .i64 kt, .int .u16 ki, .int .i64 tt, .int .u16 ti, .int .i64 qv, .string qs, .int .i64 ((k : Int) + 1)] := h3
   refine x_skip (i := 23) (dst := none) (w' := u3) rfl rfl (by kernel_rfl) rfl (run_store_op rfl rfl rfl hst3) (x_gone (by kernel_rfl)) ?_
   go_frame
   refine x_pu (i := 24) (dst := some 41) (v := .pointer (some ⟨g, 0, none⟩)) rfl rfl (.inl ⟨rfl, fun u _ => by go_simp⟩) (x_gone (by kernel_rfl)) ?_
   go_frame
   refine x_pu (i := 25) (dst := some 42) (v := .pointer (some ⟨g, 0, none⟩)) rfl rfl (.inl ⟨rfl, fun u _ => by go_simp⟩) (x_gone (by kernel_rfl)) ?_
   go_frame
   refine x_pu (i := 26) (dst := some 43) (v := .pointer (some ⟨g, 3, none⟩)) rfl rfl (.inl ⟨rfl, fun u _ => by go_simp⟩) (x_gone (by kernel_rfl)) ?_
   go_frame
   obtain ⟨u4, hst4, h4, hg4⟩ := run_storeVar_one (P := Try.prog) (ty := 44) (o := 3) (v := .slice jq (k + 1) jc) h3' oneMks rfl (by simp) rfl
   have h4' : Hid (RowV 94 u4 g [.slice tq tn tc, .slice lq pn lc, .slice bq bn bc, .slice jq (k + 1) jc, .bool o, .int .i64 qk, .int .i64 kt, .int .u16 ki, .int .i64 tt, .int .u16 ti, .int .i64 qv, .string qs, .int .i64 ((k : Int) + 1)]) := h4
   refine x_skip (i := 27) (dst := none) (w' := u4) rfl rfl (by kernel_rfl) rfl (run_store_op rfl rfl rfl hst4) (x_gone (by kernel_rfl)) ?_
   go_frame
   refine x_done (by kernel_rfl) ?_
   have o4 : Hid ((⟨tq, tn, tc, lq, pn, lc, bq, bn, bc, jq, k + 1, jc, o⟩ : SV).Own u4 { x with rows := l, marks := x.marks.take (k + 1) }) := by
    have a := (o1.out.gw hg3 g1.out).gw hg4 h3'
    exact ⟨a.sch, (l2.out.gw hg3 g1.out).gw hg4 h3', a.begun, (m2.out.gt hg3 g1.out (by decide) (by decide)).gt hg4 h3' (by decide) (by decide), a.over⟩
   have x4 := Lib.hid ((x1.out.kept hg3 (by omega)).kept hg4 (by omega))
   have r4 := Lib.hid (grown_trans (grown_trans (below_grown b1.out (some g)) hg3) hg4)
   clear hst3 hst4 h3 h3' h4 hg3 hg4 hX0 hX2 l2 m2 g1 o1 x1 b1 y0
   go_wp2_with fail
   refine (told_any 0 u4).mono ?_
   rintro e u5 ⟨rfl, hb⟩
   have gq := Lib.hid (h4'.out.below hb)
   have oq := Lib.hid (o4.out.below hb)
   have xq := Lib.hid (x4.out.below hb)
   have rq_ := Lib.hid (grown_below r4.out hb)
   clear hb
   go_wp2_with (first
    | ((with_reducible refine wpList_store_at rfl 35 (.tmp 2) (.tmp 44) rfl (o := 0) (vs := [.int .i64 0, .slice none 0 0, .int .i64 0]) rfl rfl xq.out (sizeAns _ _ _) (Nat.le_refl _) (ans_one _ _ _ _ _) ?_)
       intro w9 h9 hg9
       have h9' := Lib.hid h9
       have hg9' := Lib.hid hg9
       clear h9 hg9))
   have s1 : RowV 35 w9 (w.heap.size) [.int .i64 0, .slice none 0 0, .int .i64 0] := h9'.out
   have m0 := s1.cell 0
   have m1 := s1.cell 1
   have m2 := s1.cell 2
   simp only [List.getElem?_cons_zero, List.getElem?_cons_succ] at m0 m1 m2
   refine bodyPost_ret (v := .agg #[.int .i64 0, .slice none 0 0, .int .i64 0]) (by simp [results, Try.results79, go_sem, m0, m1, m2]) rfl ?_
   rw [hres2.out]
   exact ⟨⟨tq, tn, tc, lq, pn, lc, bq, bn, bc, jq, k + 1, jc, o⟩, ⟨0, none, 0, 0, 0⟩, rfl, gq.out.kept hg9'.out (by omega), oq.out.ga hg9'.out xq.out, AV.Own.err 0 _, Gr.own3 rq_.out hg9'.out (by omega)⟩
 · have he1 : decide ((mn : Int) < (k : Int) + 1) = true := by simp; omega
   have hres : Hid (bakW x k = (x, errA 4)) := by show _ = _; unfold bakW; rw [if_neg (by rw [hml.out]; exact he)]
   have g1 := g0
   have o1 := o0
   have x1 := x0
   have b1 := b0
   clear he
   go_wp2_with fail
   clear hW he1
   refine (told_any 4 W).mono ?_
   rintro e w4 ⟨rfl, hb⟩
   have gq := Lib.hid (g1.out.below hb)
   have oq := Lib.hid (o1.out.below hb)
   have xq := Lib.hid (x1.out.below hb)
   have bq_ := Lib.hid (b1.out.trans (hb.mono b1.out.size))
   clear hb
   go_wp2_with (first
    | ((with_reducible refine wpList_store_at rfl 35 (.tmp 2) (.tmp 17) rfl (o := 0) (vs := [.int .i64 4, .slice none 0 0, .int .i64 0]) rfl rfl xq.out (sizeAns _ _ _) (Nat.le_refl _) (ans_one _ _ _ _ _) ?_)
       intro w9 h9 hg9
       have h9' := Lib.hid h9
       have hg9' := Lib.hid hg9
       clear h9 hg9))
   have s1 : RowV 35 w9 (w.heap.size) [.int .i64 4, .slice none 0 0, .int .i64 0] := h9'.out
   have m0 := s1.cell 0
   have m1 := s1.cell 1
   have m2 := s1.cell 2
   simp only [List.getElem?_cons_zero, List.getElem?_cons_succ] at m0 m1 m2
   refine bodyPost_ret (v := .agg #[.int .i64 4, .slice none 0 0, .int .i64 0]) (by simp [results, Try.results79, go_sem, m0, m1, m2]) rfl ?_
   rw [hres.out]
   exact ⟨⟨tq, tn, tc, rq, rn, rc, bq, bn, bc, mq, mn, mc, o⟩, ⟨4, none, 0, 0, 0⟩, rfl, gq.out.kept hg9'.out (by omega), oq.out.ga hg9'.out xq.out, AV.Own.err _ _, Gr.own3 (below_grown bq_.out (some g)) hg9'.out (by omega)⟩
end Go.Proofs.Ytkdkncbccofpdaa
namespace Go.Proofs.Ytkdkncbccofpdaa
open Go.RowKit Go.ChangeMaps
def keyInt (e : MapEntry) : Int := match e.key with | .int _ j => j | _ => 0
/-- all keys are integers of the kind q -/
def IntKeys (q : IntKind) (es : List MapEntry) : Prop := ∀ e ∈ es, e.key = .int q (keyInt e)
def fnd (k : Int) : List MapEntry → Nat → Option (Nat × Value)
 | [], _ => none
 | e :: es, i => if keyInt e = k then some (i, e.val) else fnd k es (i + 1)
theorem findNow_int (q : IntKind) (k : Int) : ∀ (es : List MapEntry) (i : Nat), IntKeys q es → Instr.findNow (.int q) (.int q k) es i = some (fnd k es i)
 | [], _, _ => rfl
 | e :: es, i, h => by
   have he := h e (List.mem_cons_self ..)
   have ih := findNow_int q k es (i + 1) (fun e' h' => h e' (List.mem_cons_of_mem _ h'))
   unfold Instr.findNow fnd
   rw [he]
   by_cases hk : keyInt e = k
   · simp [Instr.sameNow, hk]
   · have hb : (k == keyInt e) = false := by simpa using fun h => hk h.symm
     simp [Instr.sameNow, hk, hb, ih]
/-- what a map gives -/
def gives (es : List MapEntry) (k : Int) : Option Value := (fnd k es 0).map (·.2)
theorem fnd_shift (k : Int) : ∀ (es : List MapEntry) (i : Nat), fnd k es i = (fnd k es 0).map fun x => (x.1 + i, x.2)
 | [], _ => rfl
 | e :: es, i => by
   unfold fnd
   by_cases hk : keyInt e = k
   · simp [hk]
   · rw [if_neg hk, if_neg hk, fnd_shift k es (i + 1), fnd_shift k es (0 + 1)]
     cases fnd k es 0 <;> simp
     omega
theorem gives_nil (k : Int) : gives [] k = none := rfl
theorem gives_cons (e : MapEntry) (es : List MapEntry) (k : Int) : gives (e :: es) k = if keyInt e = k then some e.val else gives es k := by
 unfold gives
 rw [fnd]
 by_cases hk : keyInt e = k
 · simp [hk]
 · rw [if_neg hk, if_neg hk, fnd_shift]
   cases fnd k es 0 <;> simp
theorem gives_append (es : List MapEntry) (e : MapEntry) (k : Int) : gives (es ++ [e]) k = if gives es k = none ∧ keyInt e = k then some e.val else gives es k := by
 induction es with
 | nil => simp [gives_cons, gives_nil]
 | cons x es ih =>
   rw [List.cons_append, gives_cons, gives_cons, ih]
   by_cases hk : keyInt x = k
   · simp [hk]
   · simp [hk]
/-- at the place where a key was found its element is turned -/
theorem gives_modify (k : Int) (v : Value) (g : MapEntry → MapEntry) (hg : ∀ e, keyInt e = k → keyInt (g e) = k ∧ (g e).val = v) : ∀ (es : List MapEntry) (i : Nat) (x : Value), fnd k es 0 = some (i, x) →
 ∀ j, gives (es.modify i g) j = if j = k then some v else gives es j
 | [], _, _, h, _ => by cases h
 | e :: es, i, x, h, j => by
   rw [fnd] at h
   by_cases hk : keyInt e = k
   · rw [if_pos hk] at h
     cases h
     have h1 := hg e hk
     rw [List.modify_zero_cons, gives_cons, gives_cons, h1.1, h1.2, hk]
     by_cases hj : j = k
     · subst hj; simp
     · have : ¬ k = j := fun h => hj h.symm
       simp [hj, this]
   · rw [if_neg hk, fnd_shift] at h
     cases hf : fnd k es 0 with
     | none => rw [hf] at h; cases h
     | some y =>
       rw [hf] at h
       simp only [Option.map_some, Option.some.injEq, Prod.mk.injEq] at h
       obtain ⟨h1, h2⟩ := h
       have ih := gives_modify k v g hg es y.1 y.2 (by rw [hf]) j
       rw [← h1]
       show gives (List.modify (e :: es) (y.1 + 1) g) j = _
       rw [List.modify_succ_cons, gives_cons, gives_cons, ih]
       by_cases hj : j = k
       · subst hj; simp [hk]
       · simp [hj]
/-- no key stands twice -/
def Once (es : List MapEntry) : Prop := (es.map keyInt).Nodup
theorem gives_mem {es : List MapEntry} {k : Int} : gives es k = none ↔ k ∉ es.map keyInt := by
 induction es with
 | nil => simp [gives_nil]
 | cons e es ih =>
   rw [gives_cons]
   by_cases hk : keyInt e = k
   · simp [hk]
   · have : ¬ k = keyInt e := fun h => hk h.symm
     simp [hk, this, ih]
/-- Block b is a map of n entries whose keys are integers of the kind q; it gives f. -/
def IMap (q : IntKind) (w : World) (b n : Nat) (f : Int → Option Value) : Prop :=
 ∃ es clock, w.heap[b]? = some (.map es clock) ∧ IntKeys q es.toList ∧ Once es.toList ∧ es.size = n ∧ (∀ k, gives es.toList k = f k) ∧ MapKept.Stamped es clock
theorem IMap.made (q : IntKind) (w : World) : IMap q (w.alloc (.map #[] 0)) w.heap.size 0 (fun _ => none) :=
 ⟨#[], 0, heap_alloc_new _ _, fun e h => by simp at h, by simp [Once], rfl, fun k => rfl, MapKept.stamped_empty 0⟩
theorem IMap.block {q : IntKind} {w w' : World} {b n : Nat} {f : Int → Option Value} (h : IMap q w b n f) (hb : w'.heap[b]? = w.heap[b]?) : IMap q w' b n f := by
 obtain ⟨es, c, h1, h2⟩ := h
 exact ⟨es, c, by rw [hb, h1], h2⟩
theorem IMap.lt {q : IntKind} {w : World} {b n : Nat} {f : Int → Option Value} (h : IMap q w b n f) : b < w.heap.size := by
 obtain ⟨es, c, h1, _⟩ := h
 exact (Array.getElem?_eq_some_iff.1 h1).1
section
variable {P : Program} {w : World} {q : IntKind} {t kt et : TypeId}
theorem run_findKey (hk : P.underlying kt = some (.int q)) (k : Int) (es : List MapEntry) (h : IntKeys q es) : (Instr.findKey kt (.int q k) es).run P w = .ok (fnd k es 0) w := by
 simp [Instr.findKey, run_underlying hk, findNow_int q k es 0 h]
theorem run_checkKey (hk : P.underlying kt = some (.int q)) (k : Int) (b : Bool) : (Instr.checkKey b 10000 kt (.int q k)).run P w = .ok () w := by
 unfold Instr.checkKey
 simp [run_underlying hk]
/-- 'v, ok := m[k]' and 'm[k]' -/
theorem run_lookup_i {b n : Nat} {f : Int → Option Value} (h : IMap q w b n f) (ht : P.underlying t = some (.map kt et)) (hk : P.underlying kt = some (.int q)) (k : Int) {z : Value} (hz : (zeroValue et).run P w = .ok z w) :
 (Instr.lookup t (.map (some b)) (.int q k) true).run P w = .ok (.tuple #[(f k).getD z, .bool (f k).isSome]) w ∧ (Instr.lookup t (.map (some b)) (.int q k) false).run P w = .ok ((f k).getD z) w := by
 obtain ⟨es, c, h1, h2, h3, h4, h5, h6⟩ := h
 have hf := h5 k
 unfold gives at hf
 have hfk := run_findKey (P := P) (w := w) hk k es.toList h2
 have hck := run_checkKey (P := P) (w := w) hk k es.isEmpty
 rw [← hf]
 cases hx : fnd k es.toList 0 with
 | none =>
   rw [hx] at hfk
   constructor <;> simp [Instr.lookup, run_underlying ht, h1, hfk, hck, hz, Result.andThen, getObj, Sem.run]
 | some y =>
   rw [hx] at hfk
   constructor <;> simp [Instr.lookup, run_underlying ht, h1, hfk, hck, Result.andThen, getObj, Sem.run]
theorem sameBits_int (j k : IntKind) (a b : Int) : Instr.sameBits 10000 (.int j a) (.int k b) = (j == k && a == b) := rfl
theorem fnd_at (k : Int) : ∀ (es : List MapEntry) (i : Nat) (v : Value), fnd k es 0 = some (i, v) → ∃ e, es[i]? = some e ∧ keyInt e = k ∧ e.val = v
 | [], _, _, h => by cases h
 | e :: es, i, v, h => by
   rw [fnd] at h
   by_cases hk : keyInt e = k
   · rw [if_pos hk] at h
     cases h
     exact ⟨e, rfl, hk, rfl⟩
   · rw [if_neg hk, fnd_shift] at h
     cases hf : fnd k es 0 with
     | none => rw [hf] at h; cases h
     | some y =>
       rw [hf] at h
       simp only [Option.map_some, Option.some.injEq, Prod.mk.injEq] at h
       obtain ⟨rfl, h2⟩ := h
       obtain ⟨e', h3, h4, h5⟩ := fnd_at k es y.1 y.2 (by rw [hf])
       exact ⟨e', by simpa using h3, h4, h5.trans h2⟩
theorem keys_modify (g : MapEntry → MapEntry) : ∀ (es : List MapEntry) (i : Nat), (∀ e, es[i]? = some e → keyInt (g e) = keyInt e) → (es.modify i g).map keyInt = es.map keyInt
 | [], i, _ => by cases i <;> simp
 | e :: es, 0, h => by
   rw [List.modify_zero_cons, List.map_cons, List.map_cons, h e rfl]
 | e :: es, i + 1, h => by
   rw [List.modify_succ_cons, List.map_cons, List.map_cons, keys_modify g es i (fun e' he => h e' (by simpa using he))]
theorem intKeys_modify (q : IntKind) (g : MapEntry → MapEntry) (hg : ∀ e, (g e).key = .int q (keyInt (g e))) : ∀ (es : List MapEntry) (i : Nat), IntKeys q es → IntKeys q (es.modify i g)
 | [], i, h => by cases i <;> simpa using h
 | e :: es, 0, h => by
   rw [List.modify_zero_cons]
   intro e' he
   rcases List.mem_cons.1 he with rfl | he
   · exact hg e
   · exact h e' (List.mem_cons_of_mem _ he)
 | e :: es, i + 1, h => by
   rw [List.modify_succ_cons]
   intro e' he
   rcases List.mem_cons.1 he with rfl | he
   · exact h _ (List.mem_cons_self ..)
   · exact intKeys_modify q g hg es i (fun x hx => h x (List.mem_cons_of_mem _ hx)) e' he
/-- 'm[k] = v' -/
theorem run_update_i {b n : Nat} {f : Int → Option Value} (h : IMap q w b n f) (ht : P.underlying t = some (.map kt et)) (hk : P.underlying kt = some (.int q)) (k : Int) (v : Value) :
 ∃ w', (Instr.mapUpdate t (.map (some b)) (.int q k) v).run P w = .ok () w' ∧ IMap q w' b (if (f k).isSome then n else n + 1) (fun j => if j = k then some v else f j) ∧ w.grownBy w' (some b) := by
 obtain ⟨es, c, h1, h2, h3, h4, h5, h6⟩ := h
 have hf := h5 k
 have hlt := (Array.getElem?_eq_some_iff.1 h1).1
 have hfk := run_findKey (P := P) (w := w) hk k es.toList h2
 have hck := run_checkKey (P := P) (w := w) hk k false
 cases hx : fnd k es.toList 0 with
 | none =>
   have hg : gives es.toList k = none := by unfold gives; rw [hx]; rfl
   rw [hg] at hf
   rw [hx] at hfk
   refine ⟨setBlock w b (.map (es.push { key := .int q k, val := v, born := c }) (c + 1)), ?_, ⟨_, _, heap_setBlock_same h1 _, ?_, ?_, ?_, fun j => ?_, ?st⟩, ⟨rfl, rfl, rfl, by simp [setBlock], fun i _ hi => heap_setBlock_other h1 _ (fun e => hi (by rw [e]))⟩⟩
   case st => exact MapKept.stamped_push h6 (fun x hx e => gives_mem.1 hg (List.mem_map.2 ⟨x, hx, by simp [keyInt, e]⟩))
   · simp [Instr.mapUpdate, run_underlying ht, MapKept.run_getObj_map h1, hck, hfk, MapKept.run_setObj_map _ h1, Result.andThen, setBlock]
   · intro e he
     rw [Array.toList_push, List.mem_append, List.mem_singleton] at he
     rcases he with he | rfl
     · exact h2 e he
     · rfl
   · unfold Once
     rw [Array.toList_push, List.map_append, List.nodup_append]
     refine ⟨h3, by simp, ?_⟩
     intro a ha b' hb'
     simp only [List.map_cons, List.map_nil, List.mem_singleton] at hb'
     rw [hb']
     intro e
     exact gives_mem.1 hg (by rw [e] at ha; exact ha)
   · rw [← hf]; simp [h4]
   · rw [Array.toList_push, gives_append, h5]
     by_cases hj : j = k
     · subst hj; simp [← hf, keyInt]
     · have : ¬ k = j := fun e => hj e.symm
       simp [hj, keyInt, this]
 | some y =>
   obtain ⟨i, x⟩ := y
   have hg : gives es.toList k = some x := by unfold gives; rw [hx]; rfl
   rw [hg] at hf
   rw [hx] at hfk
   obtain ⟨e0, he0, hk0, hv0⟩ := fnd_at k es.toList i x hx
   have hi : i < es.size := by have := (List.getElem?_eq_some_iff.1 he0).1; simpa using this
   have hkey : e0.key = .int q k := by rw [h2 e0 (List.mem_of_getElem? he0), hk0]
   have hkk : ((es[i]?).map (·.key)).getD (.int q k) = .int q k := by
    have : es[i]? = some e0 := by simpa using he0
    rw [this]; simp [hkey]
   refine ⟨setBlock w b (.map (es.modify i fun e => { e with key := .int q k, val := v }) c), ?_, ⟨_, _, heap_setBlock_same h1 _, ?_, ?_, ?_, fun j => ?_, ?st⟩, ⟨rfl, rfl, rfl, by simp [setBlock], fun i _ hi => heap_setBlock_other h1 _ (fun e => hi (by rw [e]))⟩⟩
   case st =>
    refine MapKept.stamped_modify h6 i _ (fun _ _ => rfl) (fun e _ hei => ?_)
    have he1 : es[i]? = some e0 := by simpa using he0
    rw [he1] at hei
    cases hei
    exact hkey.symm
   · simp [Instr.mapUpdate, run_underlying ht, MapKept.run_getObj_map h1, hck, hfk, hkk, Instr.keyThatStays, sameBits_int, MapKept.run_setObj_map _ h1, Result.andThen, setBlock]
   · rw [Array.toList_modify]
     exact intKeys_modify q _ (fun e => rfl) es.toList i h2
   · unfold Once
     rw [Array.toList_modify, keys_modify _ es.toList i (fun e he => by
      rw [he0] at he
      cases he
      rw [hk0]; rfl)]
     exact h3
   · rw [← hf]; simp [h4]
   · rw [Array.toList_modify, gives_modify k v _ (fun e he => ⟨rfl, rfl⟩) es.toList i x hx j, h5]
variable {ops : Array Oper} {rest : List Oper} {o : Oper} {a : Act} {Q : Exit → Act → World → Prop}
end
end Go.Proofs.Ytkdkncbccofpdaa
