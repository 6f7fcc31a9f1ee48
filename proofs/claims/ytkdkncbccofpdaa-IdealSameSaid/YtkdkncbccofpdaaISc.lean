/- IdealSame: for all transactions and answers the law returns true, and its arguments read as they did. No condition. -/
import Derived.Test.YtkdkncbccofpdaaISb
import Derived.Test.YtkdkncbccofpdaaIBk
namespace Go.Proofs.Ytkdkncbccofpdaa
open Go.ChangeShapes Go.WideShapes Go.ChangeAt Go.RowKit Go.Deep Go.Joins
set_option maxRecDepth 100000

theorem cellsErr : Try.prog.cellsOf 33 = 1 := by kernel_rfl
theorem cellsAns : Try.prog.cellsOf 35 = 3 := by kernel_rfl
theorem cellsAns2 : Try.prog.cellsOf 55 = 6 := by kernel_rfl
section
variable {H : Type} {enc : TypeId × Value → H} {W : World}
theorem ans_cells {fuel : Nat} {cs : List Value} {x : DataW H × List MemPlace} (hf : DataW.trod enc Try.prog W 0 (fun _ => true) true fuel 35 cs = some x) : ∃ e q n c k l, cs = [.int .i64 e, .slice q n c, .int .i64 k] ∧ RowsOn W q n c l := by
  obtain ⟨xs, n, _, _, hlen, hxl, hg⟩ := DataW.trod_struct Try.underlying35 hf
  rw [cellsAns] at hlen
  have hx2 : xs.length = 3 := hxl
  match cs, hlen with
  | [c0, c1, c2], _ =>
    have g0 : DataW.trod enc Try.prog W 0 (fun _ => true) true n 33 (([c0, c1, c2].drop 0).take (Try.prog.cellsOf 33)) = xs[0]? := hg 0 _ rfl
    have g1 : DataW.trod enc Try.prog W 0 (fun _ => true) true n 25 (([c0, c1, c2].drop 1).take (Try.prog.cellsOf 25)) = xs[1]? := hg 1 _ rfl
    have g2 : DataW.trod enc Try.prog W 0 (fun _ => true) true n 3 (([c0, c1, c2].drop 2).take (Try.prog.cellsOf 3)) = xs[2]? := hg 2 _ rfl
    obtain ⟨y0, e0⟩ := get_some (l := xs) (i := 0) (by omega)
    obtain ⟨y1, e1⟩ := get_some (l := xs) (i := 1) (by omega)
    obtain ⟨y2, e2⟩ := get_some (l := xs) (i := 2) (by omega)
    rw [e0, cellsErr] at g0
    rw [e1, cellsRows] at g1
    rw [e2, cellsInt] at g2
    obtain ⟨e, he, _, we⟩ := DataW.trod_int Try.underlying33 g0
    obtain ⟨q, m, c, l, hr, ok⟩ := rows_cells g1
    obtain ⟨k, hk, _, wk⟩ := DataW.trod_int Try.underlying3 g2
    simp at he hr hk
    subst he hr hk
    exact ⟨e, q, m, c, k, l, rfl, ok⟩
theorem open_ans2 {r : Reach} {b0 : Nat} {v : Value} {d : DataW H} {p : List MemPlace} (hv : Value.okWide Try.prog W r b0 55 v) (h : DataW.Trod enc Try.prog W 0 (fun _ => true) true 55 v d p) :
    ∃ e1 q1 n1 c1 k1 l e2 q2 n2 c2 k2 m, v = .agg #[.int .i64 e1, .slice q1 n1 c1, .int .i64 k1, .int .i64 e2, .slice q2 n2 c2, .int .i64 k2] ∧ RowsOn W q1 n1 c1 l ∧ RowsOn W q2 n2 c2 m := by
  have hv2 : ∃ cs, v = .agg cs ∧ cs.size = 6 := by
    simp only [Value.okWide, Try.underlying55] at hv
    obtain ⟨cs, h1, h2, _⟩ := hv
    exact ⟨cs, h1, h2.trans cellsAns2⟩
  clear hv
  obtain ⟨cs, rfl, hsz⟩ := hv2
  obtain ⟨fuel, hf⟩ := h
  obtain ⟨xs, n, rfl, _, hlen, hxl, hg⟩ := DataW.trod_array Try.underlying55 hf
  have hx2 : xs.length = 2 := hxl
  obtain ⟨l⟩ := cs
  match l, hsz with
  | [a0, a1, a2, a3, a4, a5], _ =>
    have g0 : DataW.trod enc Try.prog W 0 (fun _ => true) true n 35 (([a0, a1, a2, a3, a4, a5].drop (0 * Try.prog.cellsOf 35)).take (Try.prog.cellsOf 35)) = xs[0]? := hg 0 (by omega)
    have g1 : DataW.trod enc Try.prog W 0 (fun _ => true) true n 35 (([a0, a1, a2, a3, a4, a5].drop (1 * Try.prog.cellsOf 35)).take (Try.prog.cellsOf 35)) = xs[1]? := hg 1 (by omega)
    obtain ⟨y0, e0⟩ := get_some (l := xs) (i := 0) (by omega)
    obtain ⟨y1, e1⟩ := get_some (l := xs) (i := 1) (by omega)
    rw [e0, cellsAns] at g0
    rw [e1, cellsAns] at g1
    obtain ⟨e1, q1, n1, c1, k1, l1, h1, ok1⟩ := ans_cells g0
    obtain ⟨e2, q2, n2, c2, k2, l2, h2, ok2⟩ := ans_cells g1
    simp at h1 h2
    obtain ⟨rfl, rfl, rfl⟩ := h1
    obtain ⟨rfl, rfl, rfl⟩ := h2
    exact ⟨e1, q1, n1, c1, k1, l1, e2, q2, n2, c2, k2, l2, rfl, ok1, ok2⟩
end
theorem ansB_self (e k : Int) (l : List RowD) : ansB e k l e k l = true := by unfold ansB; rw [sameL_iff.2 rfl]; simp

set_option maxHeartbeats 8000000 in
theorem same_law (v1 : SV) (x : SerD) (v2 : SV) (y : SerD) (e1 : Int) (q1 : Option Addr) (n1 c1 : Nat) (k1 : Int) (l : List RowD) (e2 : Int) (q2 : Option Addr) (n2 c2 : Nat) (k2 : Int) (m : List RowD) (w : World)
    (hx : v1.On w x) (hy : v2.On w y) (hl : RowsOn w q1 n1 c1 l) (hm : RowsOn w q2 n2 c2 m) :
    Calls Try.prog 5 #[.agg v1.cells.toArray, .agg v2.cells.toArray, .agg #[.int .i64 e1, .slice q1 n1 c1, .int .i64 k1, .int .i64 e2, .slice q2 n2 c2, .int .i64 k2]] w (LwPost w) := by
  obtain ⟨tq, tn, tc, rq, rn, rc, bq, bn, bc, mq, mn, mc, o⟩ := v1
  obtain ⟨ptq, ptn, ptc, prq, prn, prc, pbq, pbn, pbc, pmq, pmn, pmc, po⟩ := v2
  show Calls _ _ #[.agg #[.slice tq tn tc, .slice rq rn rc, .slice bq bn bc, .slice mq mn mc, .bool o], .agg #[.slice ptq ptn ptc, .slice prq prn prc, .slice pbq pbn pbc, .slice pmq pmn pmc, .bool po], _] _ _
  obtain ⟨W, hW⟩ : ∃ W, ((w.alloc (.cells #[.slice tq tn tc, .slice rq rn rc, .slice bq bn bc, .slice mq mn mc, .bool o] 46)).alloc (.cells #[.slice ptq ptn ptc, .slice prq prn prc, .slice pbq pbn pbc, .slice pmq pmn pmc, .bool po] 46)).alloc (.cells #[.int .i64 e1, .slice q1 n1 c1, .int .i64 k1, .int .i64 e2, .slice q2 n2 c2, .int .i64 k2] 55) = W := ⟨_, rfl⟩
  have hbx := Lib.hid (three_rowsI (xs := [.slice tq tn tc, .slice rq rn rc, .slice bq bn bc, .slice mq mn mc, .bool o]) (ys := [.slice ptq ptn ptc, .slice prq prn prc, .slice pbq pbn pbc, .slice pmq pmn pmc, .bool po]) (zs := [.int .i64 e1, .slice q1 n1 c1, .int .i64 k1, .int .i64 e2, .slice q2 n2 c2, .int .i64 k2]) hW)
  have b0 := Lib.hid hbx.out.1
  have s0 := Lib.hid hbx.out.2.1
  have r0 := Lib.hid hbx.out.2.2.1
  have a0 := Lib.hid hbx.out.2.2.2.1
  have hx0 := Lib.hid (hx.below b0.out (Nat.le_refl _))
  have hy0 := Lib.hid (hy.below b0.out (Nat.le_refl _))
  have hl0 := Lib.hid (hl.below b0.out (Nat.le_refl _))
  have hm0 := Lib.hid (hm.below b0.out (Nat.le_refl _))
  clear hx hy hl hm hbx
  go_enter Try.func5, Try.ntmps5
  go_wp2_with fail
  clear hW
  refine (wakes_any W).mono ?_
  rintro e u1 ⟨rfl, hb⟩
  have s1 := Lib.hid (s0.out.below hb)
  have r1 := Lib.hid (r0.out.below hb)
  have a1 := Lib.hid (a0.out.below hb)
  have hx1 := Lib.hid (hx0.out.below hb (Nat.le_refl _))
  have hy1 := Lib.hid (hy0.out.below hb (Nat.le_refl _))
  have hl1 := Lib.hid (hl0.out.below hb (Nat.le_refl _))
  have hm1 := Lib.hid (hm0.out.below hb (Nat.le_refl _))
  have b1 := Lib.hid (b0.out.trans (hb.mono b0.out.size))
  clear hb s0 r0 a0 hx0 hy0 hl0 hm0 b0
  go_wp2_with (first | (with_reducible refine wpList_load_at rfl 46 (.tmp 3) rfl Try.underlying46 rfl (sizeSer _ _ _ _ _) rfl s1.out.boxed.all ?_))
  refine (overS_any tq tn tc rq rn rc bq bn bc mq mn mc o x u1 hx1.out).mono ?_
  rintro e u2 ⟨B, rfl, hB, hb⟩
  have s2 := Lib.hid (s1.out.below hb)
  have r2 := Lib.hid (r1.out.below hb)
  have a2 := Lib.hid (a1.out.below hb)
  have hx2 := Lib.hid (hx1.out.below hb (Nat.le_refl _))
  have hy2 := Lib.hid (hy1.out.below hb (Nat.le_refl _))
  have hl2 := Lib.hid (hl1.out.below hb (Nat.le_refl _))
  have hm2 := Lib.hid (hm1.out.below hb (Nat.le_refl _))
  have b2 := Lib.hid (b1.out.trans (hb.mono b1.out.size))
  clear hb s1 r1 a1 hx1 hy1 hl1 hm1 b1
  clear hB
  cases B with
  | true =>
    go_wp2
    go_ret
    exact ⟨rfl, b2.out⟩
  | false =>
    have z0 : u2.cell? ⟨w.heap.size + 1, 0, none⟩ = some (.slice ptq ptn ptc) := r2.out.cell 0
    have z1 : u2.cell? ⟨w.heap.size + 1, 1, none⟩ = some (.slice prq prn prc) := r2.out.cell 1
    have z2 : u2.cell? ⟨w.heap.size + 1, 2, none⟩ = some (.slice pbq pbn pbc) := r2.out.cell 2
    have z3 : u2.cell? ⟨w.heap.size + 1, 3, none⟩ = some (.slice pmq pmn pmc) := r2.out.cell 3
    have z4 : u2.cell? ⟨w.heap.size + 1, 4, none⟩ = some (.bool po) := r2.out.cell 4
    go_wp2_with fail
    clear z0 z1 z2 z3 z4
    refine (overS_any ptq ptn ptc prq prn prc pbq pbn pbc pmq pmn pmc po y u2 hy2.out).mono ?_
    rintro e u3 ⟨B, rfl, hB, hb⟩
    have s3 := Lib.hid (s2.out.below hb)
    have r3 := Lib.hid (r2.out.below hb)
    have a3 := Lib.hid (a2.out.below hb)
    have hx3 := Lib.hid (hx2.out.below hb (Nat.le_refl _))
    have hy3 := Lib.hid (hy2.out.below hb (Nat.le_refl _))
    have hl3 := Lib.hid (hl2.out.below hb (Nat.le_refl _))
    have hm3 := Lib.hid (hm2.out.below hb (Nat.le_refl _))
    have b3 := Lib.hid (b2.out.trans (hb.mono b2.out.size))
    clear hb s2 r2 a2 hx2 hy2 hl2 hm2 b2
    clear hB
    cases B with
    | true =>
      go_wp2
      go_ret
      exact ⟨rfl, b3.out⟩
    | false =>
      have y0 : u3.cell? ⟨w.heap.size + 2, 1, none⟩ = some (.slice q1 n1 c1) := a3.out.cell 1
      go_wp2_with fail
      clear y0
      refine (over_any none 0 0 q1 n1 c1 l u3 (Nat.zero_le _) hl3.out).mono ?_
      rintro e u4 ⟨B, rfl, hB, hb⟩
      have s4 := Lib.hid (s3.out.below hb)
      have r4 := Lib.hid (r3.out.below hb)
      have a4 := Lib.hid (a3.out.below hb)
      have hx4 := Lib.hid (hx3.out.below hb (Nat.le_refl _))
      have hy4 := Lib.hid (hy3.out.below hb (Nat.le_refl _))
      have hl4 := Lib.hid (hl3.out.below hb (Nat.le_refl _))
      have hm4 := Lib.hid (hm3.out.below hb (Nat.le_refl _))
      have b4 := Lib.hid (b3.out.trans (hb.mono b3.out.size))
      clear hb s3 r3 a3 hx3 hy3 hl3 hm3 b3
      clear hB
      cases B with
      | true =>
        go_wp2
        go_ret
        exact ⟨rfl, b4.out⟩
      | false =>
        have y0 : u4.cell? ⟨w.heap.size + 2, 4, none⟩ = some (.slice q2 n2 c2) := a4.out.cell 4
        go_wp2_with fail
        clear y0
        refine (over_any none 0 0 q2 n2 c2 m u4 (Nat.zero_le _) hm4.out).mono ?_
        rintro e u5 ⟨B, rfl, hB, hb⟩
        have s5 := Lib.hid (s4.out.below hb)
        have r5 := Lib.hid (r4.out.below hb)
        have a5 := Lib.hid (a4.out.below hb)
        have hx5 := Lib.hid (hx4.out.below hb (Nat.le_refl _))
        have hy5 := Lib.hid (hy4.out.below hb (Nat.le_refl _))
        have hl5 := Lib.hid (hl4.out.below hb (Nat.le_refl _))
        have hm5 := Lib.hid (hm4.out.below hb (Nat.le_refl _))
        have b5 := Lib.hid (b4.out.trans (hb.mono b4.out.size))
        clear hb s4 r4 a4 hx4 hy4 hl4 hm4 b4
        clear hB
        cases B with
        | true =>
          go_wp2
          go_ret
          exact ⟨rfl, b5.out⟩
        | false =>
          obtain ⟨E, hE⟩ : ∃ E, serSame x y = E := ⟨_, rfl⟩
          obtain ⟨C, hC⟩ : ∃ C, ansB e1 k1 l e2 k2 m = C := ⟨_, rfl⟩
          have h1 : Hid (∀ u, Below u5.heap.size u5 u → Calls Try.prog 26 #[.agg #[.slice tq tn tc, .slice rq rn rc, .slice bq bn bc, .slice mq mn mc, .bool o], .agg #[.slice ptq ptn ptc, .slice prq prn prc, .slice pbq pbn pbc, .slice pmq pmn pmc, .bool po]] u (RqPost E u)) := fun u hu => by
            rw [← hE]; exact sameI_any tq tn tc rq rn rc bq bn bc mq mn mc o ptq ptn ptc prq prn prc pbq pbn pbc pmq pmn pmc po x y u (hx5.out.below hu (Nat.le_refl _)) (hy5.out.below hu (Nat.le_refl _))
          have h2 : Hid (∀ u, Below u5.heap.size u5 u → Calls Try.prog 23 #[.agg #[.slice tq tn tc, .slice rq rn rc, .slice bq bn bc, .slice mq mn mc, .bool o], .agg #[.slice ptq ptn ptc, .slice prq prn prc, .slice pbq pbn pbc, .slice pmq pmn pmc, .bool po]] u (RqPost E u)) := fun u hu => by
            rw [← hE]; exact refSer_any tq tn tc rq rn rc bq bn bc mq mn mc o ptq ptn ptc prq prn prc pbq pbn pbc pmq pmn pmc po x y u (hx5.out.below hu (Nat.le_refl _)) (hy5.out.below hu (Nat.le_refl _))
          have h3 : Hid (∀ u, Below u5.heap.size u5 u → Calls Try.prog 26 #[.agg #[.slice tq tn tc, .slice rq rn rc, .slice bq bn bc, .slice mq mn mc, .bool o], .agg #[.slice tq tn tc, .slice rq rn rc, .slice bq bn bc, .slice mq mn mc, .bool o]] u (RqPost true u)) := fun u hu => by
            have h := sameI_any tq tn tc rq rn rc bq bn bc mq mn mc o tq tn tc rq rn rc bq bn bc mq mn mc o x x u (hx5.out.below hu (Nat.le_refl _)) (hx5.out.below hu (Nat.le_refl _))
            rwa [serSame_iff.2 rfl] at h
          have h4 : Hid (∀ u, Below u5.heap.size u5 u → Calls Try.prog 27 #[.agg #[.int .i64 e1, .slice q1 n1 c1, .int .i64 k1], .agg #[.int .i64 e2, .slice q2 n2 c2, .int .i64 k2]] u (RqPost C u)) := fun u hu => by
            rw [← hC]; exact ansI_any e1 q1 n1 c1 k1 e2 q2 n2 c2 k2 l m u (hl5.out.below hu (Nat.le_refl _)) (hm5.out.below hu (Nat.le_refl _))
          have h5 : Hid (∀ u, Below u5.heap.size u5 u → Calls Try.prog 17 #[.agg #[.int .i64 e1, .slice q1 n1 c1, .int .i64 k1], .agg #[.int .i64 e2, .slice q2 n2 c2, .int .i64 k2]] u (RqPost C u)) := fun u hu => by
            rw [← hC]; exact ansR_any e1 q1 n1 c1 k1 e2 q2 n2 c2 k2 l m u (hl5.out.below hu (Nat.le_refl _)) (hm5.out.below hu (Nat.le_refl _))
          have h6 : Hid (∀ u, Below u5.heap.size u5 u → Calls Try.prog 27 #[.agg #[.int .i64 e1, .slice q1 n1 c1, .int .i64 k1], .agg #[.int .i64 e1, .slice q1 n1 c1, .int .i64 k1]] u (RqPost true u)) := fun u hu => by
            have h := ansI_any e1 q1 n1 c1 k1 e1 q1 n1 c1 k1 l l u (hl5.out.below hu (Nat.le_refl _)) (hl5.out.below hu (Nat.le_refl _))
            rwa [ansB_self] at h
          clear hE hC
          have ee : (E == E) = true := by simp
          have cc : (C == C) = true := by simp
          go_wp2_with fail
          refine wp_region_held (S := fun u => Below u5.heap.size u5 u) (by kernel_rfl) ?_
          change wpAnyH _ _ _ _ _ _ _ _ (World.drew u5)
          refine wpF.held _ _ _ ?_ _ (below_drew u5)
          refine fx (i := 0) (dst := some 29) (v := .agg #[.slice tq tn tc, .slice rq rn rc, .slice bq bn bc, .slice mq mn mc, .bool o]) rfl rfl (fx_load 46 (.tmp 3) (fun u hu => run_loadVar_at Try.underlying46 rfl (sizeSer _ _ _ _ _) _ (s5.out.below hu).boxed.all)) ?_; go_frame
          refine fx (i := 1) (dst := some 30) (v := .agg #[.slice ptq ptn ptc, .slice prq prn prc, .slice pbq pbn pbc, .slice pmq pmn pmc, .bool po]) rfl rfl (fx_load 46 (.tmp 4) (fun u hu => run_loadVar_at Try.underlying46 rfl (sizeSer _ _ _ _ _) _ (r5.out.below hu).boxed.all)) ?_; go_frame
          refine fx (i := 2) (dst := some 31) (v := .bool E) rfl rfl (fx_call (fun u hu => (h1.out u hu).mono fun e y h => ⟨h.1, below_step h.2 hu⟩)) ?_; go_frame
          refine fx (i := 3) (dst := some 32) (v := .agg #[.slice tq tn tc, .slice rq rn rc, .slice bq bn bc, .slice mq mn mc, .bool o]) rfl rfl (fx_load 46 (.tmp 3) (fun u hu => run_loadVar_at Try.underlying46 rfl (sizeSer _ _ _ _ _) _ (s5.out.below hu).boxed.all)) ?_; go_frame
          refine fx (i := 4) (dst := some 33) (v := .agg #[.slice ptq ptn ptc, .slice prq prn prc, .slice pbq pbn pbc, .slice pmq pmn pmc, .bool po]) rfl rfl (fx_load 46 (.tmp 4) (fun u hu => run_loadVar_at Try.underlying46 rfl (sizeSer _ _ _ _ _) _ (r5.out.below hu).boxed.all)) ?_; go_frame
          refine fx (i := 5) (dst := some 34) (v := .bool E) rfl rfl (fx_call (fun u hu => (h2.out u hu).mono fun e y h => ⟨h.1, below_step h.2 hu⟩)) ?_; go_frame
          refine fx (i := 6) (dst := some 35) (v := .bool true) rfl rfl (fx_read (fun u hu => by go_simp)) ?_; go_frame
          refine fx (i := 7) (dst := some 36) (v := .bool true) rfl rfl (fx_read (fun u hu => by go_simp)) ?_; go_frame
          refine fx (i := 8) (dst := some 37) (v := .agg #[.slice tq tn tc, .slice rq rn rc, .slice bq bn bc, .slice mq mn mc, .bool o]) rfl rfl (fx_load 46 (.tmp 3) (fun u hu => run_loadVar_at Try.underlying46 rfl (sizeSer _ _ _ _ _) _ (s5.out.below hu).boxed.all)) ?_; go_frame
          refine fx (i := 9) (dst := some 38) (v := .agg #[.slice tq tn tc, .slice rq rn rc, .slice bq bn bc, .slice mq mn mc, .bool o]) rfl rfl (fx_load 46 (.tmp 3) (fun u hu => run_loadVar_at Try.underlying46 rfl (sizeSer _ _ _ _ _) _ (s5.out.below hu).boxed.all)) ?_; go_frame
          refine fx (i := 10) (dst := some 39) (v := .bool true) rfl rfl (fx_call (fun u hu => (h3.out u hu).mono fun e y h => ⟨h.1, below_step h.2 hu⟩)) ?_; go_frame
          refine fx (i := 11) (dst := some 40) (v := .bool true) rfl rfl (fx_read (fun u hu => by go_simp)) ?_; go_frame
          refine fx (i := 12) (dst := some 41) (v := .bool true) rfl rfl (fx_read (fun u hu => by go_simp)) ?_; go_frame
          refine fx (i := 13) (dst := some 42) (v := .pointer (some ⟨w.heap.size + 2, 0, none⟩)) rfl rfl (fx_read (fun u hu => by go_simp)) ?_; go_frame
          refine fx (i := 14) (dst := some 43) (v := .agg #[.int .i64 e1, .slice q1 n1 c1, .int .i64 k1]) rfl rfl (fx_read (fun u hu => by have d0 := (a5.out.below hu).cell 0; have d1 := (a5.out.below hu).cell 1; have d2 := (a5.out.below hu).cell 2; go_simp)) ?_; go_frame
          refine fx (i := 15) (dst := some 44) (v := .pointer (some ⟨w.heap.size + 2, 3, none⟩)) rfl rfl (fx_read (fun u hu => by go_simp)) ?_; go_frame
          refine fx (i := 16) (dst := some 45) (v := .agg #[.int .i64 e2, .slice q2 n2 c2, .int .i64 k2]) rfl rfl (fx_read (fun u hu => by have d3 := (a5.out.below hu).cell 3; have d4 := (a5.out.below hu).cell 4; have d5 := (a5.out.below hu).cell 5; go_simp)) ?_; go_frame
          refine fx (i := 17) (dst := some 46) (v := .bool C) rfl rfl (fx_call (fun u hu => (h4.out u hu).mono fun e y h => ⟨h.1, below_step h.2 hu⟩)) ?_; go_frame
          refine fx (i := 18) (dst := some 47) (v := .pointer (some ⟨w.heap.size + 2, 0, none⟩)) rfl rfl (fx_read (fun u hu => by go_simp)) ?_; go_frame
          refine fx (i := 19) (dst := some 48) (v := .agg #[.int .i64 e1, .slice q1 n1 c1, .int .i64 k1]) rfl rfl (fx_read (fun u hu => by have d0 := (a5.out.below hu).cell 0; have d1 := (a5.out.below hu).cell 1; have d2 := (a5.out.below hu).cell 2; go_simp)) ?_; go_frame
          refine fx (i := 20) (dst := some 49) (v := .pointer (some ⟨w.heap.size + 2, 3, none⟩)) rfl rfl (fx_read (fun u hu => by go_simp)) ?_; go_frame
          refine fx (i := 21) (dst := some 50) (v := .agg #[.int .i64 e2, .slice q2 n2 c2, .int .i64 k2]) rfl rfl (fx_read (fun u hu => by have d3 := (a5.out.below hu).cell 3; have d4 := (a5.out.below hu).cell 4; have d5 := (a5.out.below hu).cell 5; go_simp)) ?_; go_frame
          refine fx (i := 22) (dst := some 51) (v := .bool C) rfl rfl (fx_call (fun u hu => (h5.out u hu).mono fun e y h => ⟨h.1, below_step h.2 hu⟩)) ?_; go_frame
          refine fx (i := 23) (dst := some 52) (v := .bool true) rfl rfl (fx_read (fun u hu => by go_simp)) ?_; go_frame
          refine fx (i := 24) (dst := some 53) (v := .bool true) rfl rfl (fx_read (fun u hu => by go_simp)) ?_; go_frame
          refine fx (i := 25) (dst := some 54) (v := .bool true) rfl rfl (fx_read (fun u hu => by go_simp)) ?_; go_frame
          refine fx (i := 26) (dst := some 55) (v := .pointer (some ⟨w.heap.size + 2, 0, none⟩)) rfl rfl (fx_read (fun u hu => by go_simp)) ?_; go_frame
          refine fx (i := 27) (dst := some 56) (v := .agg #[.int .i64 e1, .slice q1 n1 c1, .int .i64 k1]) rfl rfl (fx_read (fun u hu => by have d0 := (a5.out.below hu).cell 0; have d1 := (a5.out.below hu).cell 1; have d2 := (a5.out.below hu).cell 2; go_simp)) ?_; go_frame
          refine fx (i := 28) (dst := some 57) (v := .pointer (some ⟨w.heap.size + 2, 0, none⟩)) rfl rfl (fx_read (fun u hu => by go_simp)) ?_; go_frame
          refine fx (i := 29) (dst := some 58) (v := .agg #[.int .i64 e1, .slice q1 n1 c1, .int .i64 k1]) rfl rfl (fx_read (fun u hu => by have d0 := (a5.out.below hu).cell 0; have d1 := (a5.out.below hu).cell 1; have d2 := (a5.out.below hu).cell 2; go_simp)) ?_; go_frame
          refine fx (i := 30) (dst := some 59) (v := .bool true) rfl rfl (fx_call (fun u hu => (h6.out u hu).mono fun e y h => ⟨h.1, below_step h.2 hu⟩)) ?_; go_frame
          refine fx (i := 31) (dst := some 60) (v := .bool true) rfl rfl (fx_read (fun u hu => by go_simp)) ?_; go_frame
          refine fx (i := 32) (dst := some 6) (v := .bool true) rfl rfl (fx_read (fun u hu => by go_simp)) ?_; go_frame
          refine fx_done (fun w2 hu => ?_) (by kernel_rfl) _
          have hv : Hid (Below u5.heap.size u5 w2) := hu
          clear hu
          have b9 := Lib.hid (b5.out.trans (hv.out.mono b5.out.size))
          go_wp2
          go_ret
          exact ⟨rfl, b9.out⟩

set_option maxRecDepth 1000000 in
theorem same_lifted (os : Os) (started : os.Started) (H : Type) (enc : TypeId × Value → H) :
    ReturnsInHanded {} Try.checked os 5 .any (Rows.idealSameSpec.pre6 enc Try.prog Try.f5 Rows.idealSameRow.domain false) (Rows.idealSameSpec.post enc Try.prog Try.f5 false true false false) := by
  refine returnsInHanded_of_change (C := Try.checked) own started (by kernel_rfl) Try.func5
    (ChangeSpec.witness6 (enc := enc) (C := Try.checked) false ⟨#[], #[.agg #[.slice none 0 0, .slice none 0 0, .slice none 0 0, .slice none 0 0, .bool false], .agg #[.slice none 0 0, .slice none 0 0, .slice none 0 0, .slice none 0 0, .bool false], .agg #[.int .i64 0, .slice none 0 0, .int .i64 0, .int .i64 0, .slice none 0 0, .int .i64 0]], []⟩ 8 (by kernel_rfl) (by kernel_rfl) (by kernel_rfl) (by kernel_rfl)) ?_
  intro W base args ds gs before hval0 hW _ _
  have hval : ∀ (j : Nat) t v, Try.f5.params[j]? = some t → args[j]? = some v → Value.okWide Try.prog W .any base t v := hval0
  have hW' := hW
  obtain ⟨p, q, hA0, hV, rfl, _, _⟩ := hW
  have hA : DataW.TrodAll enc Try.prog W 0 (fun _ => true) true Try.f5.params.toList args.toList ds p := hA0
  rw [Try.params5] at hA hval
  obtain ⟨v0, v1, v2, d0, d1, d2, p0, p1, p2, rfl, rfl, rfl, h0, h1, h2⟩ := trodAll_three hA
  obtain ⟨rfl, rfl⟩ := trodVars_none hV
  obtain ⟨y0, x0, rfl, hc0⟩ := open_ser (hval 0 46 v0 rfl rfl) h0
  obtain ⟨y1, x1, rfl, hc1⟩ := open_ser (hval 1 46 v1 rfl rfl) h1
  obtain ⟨e2, q2, n2, c2, k2, l2, f2, r2, m2, d2', j2, o2, rfl, hl2, hm2⟩ := open_ans2 (hval 2 55 v2 rfl rfl) h2
  refine (same_law y0 x0 y1 x1 e2 q2 n2 c2 k2 l2 f2 r2 m2 d2' j2 o2 W hc0 hc1 hl2 hm2).mono fun e W' ⟨he, hb⟩ => ?_
  subst he
  exact ⟨_, rfl, law_post laidOut (of_decide_eq_true (by kernel_rfl)) rfl (by kernel_rfl) Try.underlying4 hW' ⟨rfl, rfl, rfl⟩ hb⟩

set_option maxRecDepth 1000000 in
theorem same_holds : Rows.IdealSameSaid :=
  OpenClaim.holds_of_wide 5 Try.f5 rfl rfl rfl rfl rfl rfl rfl ⟨rfl, rfl, rfl, rfl, rfl⟩ rfl rfl rfl rfl rfl (by kernel_rfl) Try.func5 (by kernel_rfl)
    (of_decide_eq_true (by kernel_rfl)) (by unfold Func.isWrapper; first | (rw [if_pos (by decide +kernel)]; kernel_rfl) | (rw [if_neg (by decide +kernel)]; exact ⟨rfl, rfl⟩))
    (fun os started H enc _ => same_lifted os started H enc)
end Go.Proofs.Ytkdkncbccofpdaa
