/- RecordRedoes: for every record and row of numbers the law returns true, and its arguments read as they did. No condition. -/
import Derived.Test.YtocekhckmpkbmaaGreatQ28
import Derived.Test.YtocekhckmpkbmaaGreatQ29
import Derived.Test.YtocekhckmpkbmaaGreatQ33
import Derived.Test.YtocekhckmpkbmaaGreatQ39
namespace Go.Proofs.YtocekhckmpkbmaaGreat
open Go.ChangeShapes Go.WideShapes Go.ChangeAt Go.RowKit
/-- a row of numbers, in a world -/
structure NmOn (w : World) (q : Option Addr) (n c : Nat) : Prop where
 le : n ≤ c
 cap : c ≤ maxLen
 get : ∀ i, i < n → ∃ a x, q = some a ∧ w.cell? (a.add i) = some (.int .i64 x)
theorem NmOn.below {B : Nat} {w w' : World} {q : Option Addr} {n c : Nat} (h : NmOn w q n c) (hb : Below B w w') (hB : w.heap.size ≤ B) : NmOn w' q n c :=
 ⟨h.le, h.cap, fun i hi => by
  obtain ⟨a, x, rfl, hc⟩ := h.get i hi
  exact ⟨a, x, rfl, cell_kept hb hB hc⟩⟩
theorem cells3 : Tryz.prog.cellsOf 3 = 1 := by kernel_rfl
theorem open_nm {H : Type} {enc : TypeId × Value → H} {W : World} {a0 : Option Addr} {len cap : Nat} {d0 : DataW H} {p : List MemPlace}
 (h0 : DataW.Trod enc Tryz.prog W 0 (fun _ => true) true 51 (.slice a0 len cap) d0 p) : NmOn W a0 len cap := by
 obtain ⟨fuel, hf⟩ := h0
 rcases open_ints Tryz.underlying51 Tryz.underlying3 cells3 hf with ⟨hcs, hx⟩ | ⟨a, len', cap', zs, hcs, _, hl, hm, hz, hx, hcell, hwz⟩
 · simp [Value.cells] at hcs
   obtain ⟨rfl, rfl, rfl⟩ := hcs
   exact ⟨Nat.le_refl _, Nat.zero_le _, fun i hi => absurd hi (Nat.not_lt_zero _)⟩
 · simp [Value.cells] at hcs
   obtain ⟨rfl, rfl, rfl⟩ := hcs
   simp only [if_true] at hz
   exact ⟨hl, hm, fun i hi => ⟨a, _, rfl, hcell i (by omega)⟩⟩
set_option maxRecDepth 100000 in
set_option maxHeartbeats 16000000 in
theorem redoes_law (va : RecV) (Va : List ImgV) (ra : RecD) (q : Option Addr) (n c : Nat) (w : World) (ha : va.On w Va ra) (hq : NmOn w q n c) :
 Calls Tryz.prog 6 #[va.val, .slice q n c] w (fun e w' => e = .returned (.bool true) ∧ Below w.heap.size w w') := by
 obtain ⟨kinda, lsna, txna, preva, nexta, iqa, ima, ica, sqa, sna, sca, nextTxna, tqa, tna, tca, dqa, dna, dca⟩ := va
 obtain ⟨W, hW⟩ : ∃ W, w.alloc (.cells #[.int .i64 kinda, .int .u64 lsna, .int .i64 txna, .int .u64 preva, .int .u64 nexta, .slice iqa ima ica, .slice sqa sna sca, .int .i64 nextTxna, .slice tqa tna tca, .slice dqa dna dca] 30) = W := ⟨_, rfl⟩
 have hbx := Lib.hid (one_box (xs := [.int .i64 kinda, .int .u64 lsna, .int .i64 txna, .int .u64 preva, .int .u64 nexta, .slice iqa ima ica, .slice sqa sna sca, .int .i64 nextTxna, .slice tqa tna tca, .slice dqa dna dca]) hW)
 have hdW := Lib.hid hbx.out.1
 have hsza : (Tryz.prog.info? 30).map (·.size) = some ([.int .i64 kinda, .int .u64 lsna, .int .i64 txna, .int .u64 preva, .int .u64 nexta, .slice iqa ima ica, .slice sqa sna sca, .int .i64 nextTxna, .slice tqa tna tca, .slice dqa dna dca] : List Value).length := sizeRec ⟨kinda, lsna, txna, preva, nexta, iqa, ima, ica, sqa, sna, sca, nextTxna, tqa, tna, tca, dqa, dna, dca⟩
 show Calls _ _ #[.agg #[.int .i64 kinda, .int .u64 lsna, .int .i64 txna, .int .u64 preva, .int .u64 nexta, .slice iqa ima ica, .slice sqa sna sca, .int .i64 nextTxna, .slice tqa tna tca, .slice dqa dna dca], .slice q n c] _ _
 go_enter Tryz.func6, Tryz.ntmps6
 go_wp2_with fail
 clear hW
 refine (wakes_any _).mono ?_
 rintro e w1 ⟨rfl, hb1⟩
 have hd1 := Lib.hid (hdW.out.trans (hb1.mono hdW.out.size))
 have hxa := Lib.hid (hbx.out.2.1.below hb1 (Nat.le_refl _))
 clear hb1
 go_wp2_with (first
  | (with_reducible refine wpList_load_at rfl 30 (.tmp 2) rfl Tryz.underlying30 rfl hsza rfl hxa.out.all ?_))
 refine (few_any ⟨kinda, lsna, txna, preva, nexta, iqa, ima, ica, sqa, sna, sca, nextTxna, tqa, tna, tca, dqa, dna, dca⟩ Va ra w1 (ha.below hd1.out (Nat.le_refl _))).mono ?_
 clear ha
 rintro e w3 ⟨⟨kindc, lsnc, txnc, prevc, nextc, iqc, imc, icc, sqc, snc, scc, nextTxnc, tqc, tnc, tcc, dqc, dnc, dcc⟩, Vc, rfl, hon3, _, _, hb3⟩
 obtain ⟨R, hR⟩ : ∃ R, fewRec ra = R := ⟨_, rfl⟩
 rw [hR] at hon3
 have hd3 := Lib.hid (hd1.out.trans (hb3.mono hd1.out.size))
 obtain ⟨w4, hw4⟩ : ∃ y, w3.alloc (.cells #[.int .i64 kindc, .int .u64 lsnc, .int .i64 txnc, .int .u64 prevc, .int .u64 nextc, .slice iqc imc icc, .slice sqc snc scc, .int .i64 nextTxnc, .slice tqc tnc tcc, .slice dqc dnc dcc] 30) = y := ⟨_, rfl⟩
 have hbc := Lib.hid (one_box (xs := [.int .i64 kindc, .int .u64 lsnc, .int .i64 txnc, .int .u64 prevc, .int .u64 nextc, .slice iqc imc icc, .slice sqc snc scc, .int .i64 nextTxnc, .slice tqc tnc tcc, .slice dqc dnc dcc]) hw4)
 have hd4 := Lib.hid (hd3.out.trans (hbc.out.1.mono hd3.out.size))
 have hon := Lib.hid (hon3 w4 (fun k _ h2 => hbc.out.1.block k h2))
 have hszc : (Tryz.prog.info? 30).map (·.size) = some ([.int .i64 kindc, .int .u64 lsnc, .int .i64 txnc, .int .u64 prevc, .int .u64 nextc, .slice iqc imc icc, .slice sqc snc scc, .int .i64 nextTxnc, .slice tqc tnc tcc, .slice dqc dnc dcc] : List Value).length := sizeRec ⟨kindc, lsnc, txnc, prevc, nextc, iqc, imc, icc, sqc, snc, scc, nextTxnc, tqc, tnc, tcc, dqc, dnc, dcc⟩
 clear hb3 hR hon3
 have hmax : n ≤ maxLen := Nat.le_trans hq.le hq.cap
 unfold maxLen at hmax
 have hq := Lib.hid hq
 obtain ⟨B, hB⟩ : ∃ B, mayB R = B := ⟨_, rfl⟩
 have hB := Lib.hid hB
 go_wp2_with fail
 try rw [hw4]
 clear hw4
 go_loopw [18] (fun v wr => ∃ j : Nat, j ≤ n ∧ v = .int .i64 j ∧ Hid (Below w4.heap.size w4 wr)) (fun v _ => n - (RowKit.intOf v).toNat)
 case atStart => exact ⟨0, Nat.zero_le _, rfl, (show Below _ _ _ from Below.refl _ _)⟩
 case round =>
  obtain ⟨j, hj, rfl, hd⟩ := hrel
  have hdw := Lib.hid (hd4.out.trans (hd.out.mono hd4.out.size))
  by_cases hlt : j < n
  rotate_left
  · obtain rfl : n = j := by omega
    go_wp2
    go_ret
    exact ⟨rfl, hdw.out⟩
  obtain ⟨A, pg, rfl, hcel⟩ := (hq.out.below hdw.out (Nat.le_refl _)).get j hlt
  have i0 : (0 : Int) ≤ j := by omega
  have i1 : (j : Int) < n := by omega
  by_cases h20 : (j : Int) = 20
  · have e20 : ((j : Int) == 20) = true := by simpa using h20
    replace h20 := Lib.hid h20
    go_wp2
    go_ret
    exact ⟨rfl, hdw.out⟩
  have e20 : ((j : Int) == 20) = false := by simpa using h20
  replace h20 := Lib.hid h20
  have hbr := Lib.hid (hbc.out.2.1.below hd.out (Nat.le_refl _))
  have honr := Lib.hid (hon.out.below hd.out (Nat.le_refl _))
  go_wp2_with (first
   | (with_reducible refine wpList_load_at rfl 30 (.tmp 5) rfl Tryz.underlying30 rfl hszc rfl hbr.out.all ?_))
  refine (redoes_any ⟨kindc, lsnc, txnc, prevc, nextc, iqc, imc, icc, sqc, snc, scc, nextTxnc, tqc, tnc, tcc, dqc, dnc, dcc⟩ Vc R pg wr honr.out).mono ?_
  clear hcel
  rintro e w5 ⟨k1, rq1, rn1, rc1, kq1, kn1, kc1, ok, rfl, hor, hb5⟩
  have hd5 := Lib.hid (below_step hb5 hd.out)
  clear hb5
  obtain ⟨w6, hw6⟩ : ∃ y, (w5.alloc (.cells #[.int .i64 k1, .slice rq1 rn1 rc1, .slice kq1 kn1 kc1] 55)).alloc (.cells #[.int .i64 0, .slice none 0 0, .slice none 0 0] 55) = y := ⟨_, rfl⟩
  have hbb := Lib.hid (two_boxes (xs := [.int .i64 k1, .slice rq1 rn1 rc1, .slice kq1 kn1 kc1]) (ys := [.int .i64 0, .slice none 0 0, .slice none 0 0]) hw6)
  have p6 : Hid (RowV 55 w6 (w5.heap.size + 1) [.int .i64 0, .slice none 0 0, .slice none 0 0]) := by
   have h1 := RowV.made (T := 55) (w5.alloc (.cells #[.int .i64 k1, .slice rq1 rn1 rc1, .slice kq1 kn1 kc1] 55)) [.int .i64 0, .slice none 0 0, .slice none 0 0]
   show RowV _ _ _ _
   rw [← hw6]; simpa using h1
  have hsz6 : Hid (w5.heap.size + 2 ≤ w6.heap.size) := by have h1 := p6.out.lt; show _ ≤ _; omega
  have hd6 := Lib.hid (below_step hbb.out.1 hd5.out)
  have hs1 := sizeCont (.int .i64 k1) (.slice rq1 rn1 rc1) (.slice kq1 kn1 kc1)
  have zcs := sizeCont (.int .i64 0) (.slice none 0 0) (.slice none 0 0)
  have zcone : ∀ x ∈ ([.int .i64 0, .slice none 0 0, .slice none 0 0] : List Value), x.oneCell' = true := one_all rfl
  have hor := Lib.hid hor
  have h45 : Hid (w4.heap.size ≤ w5.heap.size + 1) := by have h1 := hd5.out.size; show _ ≤ _; omega
  have hri := Lib.hid (fun u (hu : Below w4.heap.size w4 u) => right12_doc ⟨kindc, lsnc, txnc, prevc, nextc, iqc, imc, icc, sqc, snc, scc, nextTxnc, tqc, tnc, tcc, dqc, dnc, dcc⟩ Vc R u (hon.out.below hu (Nat.le_refl _)))
  simp only [hB.out] at hri
  replace hri := Lib.hid hri.out
  go_wp2_with (first
   | ((with_reducible refine wpList_store_at rfl 55 (.tmp 10) (.tmp 31) rfl (o := 0) (vs := [.int .i64 0, .slice none 0 0, .slice none 0 0]) rfl rfl p6.out zcs (Nat.le_refl _) zcone ?_)
      intro wz h9 hg9
      have rz : Hid (RowV 55 wz (w5.heap.size + 1) [.int .i64 0, .slice none 0 0, .slice none 0 0]) := h9
      have gz := Lib.hid hg9
      clear h9 hg9
      have hdz := Lib.hid (Gr.below gz.out hd6.out h45.out)
      have hbrz := Lib.hid (hbc.out.2.1.below hdz.out (Nat.le_refl _)))
   | (with_reducible refine wpList_load_at rfl 30 (.tmp 5) rfl Tryz.underlying30 rfl hszc rfl hbrz.out.all ?_))
  clear hw6
  have hb5z := Lib.hid (Gr.below gz.out hbb.out.1 (Nat.le_succ _))
  have hx1z := Lib.hid (hbb.out.2.1.gr gz.out (by omega))
  refine (hri.out wz hdz.out).mono ?_
  clear hri
  rintro e w7 ⟨rfl, hb7⟩
  have hb67 := Lib.hid hb7
  have hd7 := Lib.hid (below_step hb7 hdz.out)
  clear hb7
  have hx1 := Lib.hid (hx1z.out.below hb67.out (Nat.le_refl _))
  have p7 := Lib.hid (rz.out.below hb67.out)
  have hx2 := Lib.hid p7.out.boxed
  cases B with
  | false =>
    have hno : redD R pg = none := by unfold redD; rw [hB.out]; rfl
    rcases hor.out with ⟨_, rfl, hc1⟩ | ⟨d, hd', _, _⟩
    rotate_left
    · rw [hno] at hd'; cases hd'
    have hc1 := (hc1.below hb5z.out (Nat.le_refl _)).below hb67.out (Nat.le_refl _)
    have hsm := same_doc k1 rq1 rn1 rc1 kq1 kn1 kc1 zeroC 0 none 0 0 none 0 0 zeroC w7 hc1 ⟨rfl, RowsOn.none_ _, KidsOn.none_ _⟩
    rw [show sameC zeroC zeroC = true from sameC_iff.2 rfl] at hsm
    have hsm := Lib.hid hsm
    clear hc1 hno
    go_wp2_with (first
     | ((with_reducible refine wpList_load_g ?_ 55 (.tmp 8) rfl Tryz.underlying55 rfl hs1 rfl hx1.out.all ?_); exact rfl)
     | ((with_reducible refine wpList_load_g ?_ 55 (.tmp 10) rfl Tryz.underlying55 rfl zcs rfl hx2.out.all ?_); exact rfl))
    refine hsm.out.mono ?_
    clear hsm
    rintro e w8 ⟨rfl, hb8⟩
    have hd8 := Lib.hid (below_step hb8 hd7.out)
    clear hb8
    go_wp2
    go_roundw
    case rel => exact ⟨j + 1, by omega, by go_num, hd8⟩
    case measure => simp [RowKit.intOf]; omega
  | true =>
    have hfd : Hid (redD R pg = findI R.images pg) := by show _ = _; unfold redD; rw [if_pos hB.out]
    have hbr7 := Lib.hid (hbc.out.2.1.below hd7.out (Nat.le_refl _))
    have hrd := Lib.hid (redoes_doc ⟨kindc, lsnc, txnc, prevc, nextc, iqc, imc, icc, sqc, snc, scc, nextTxnc, tqc, tnc, tcc, dqc, dnc, dcc⟩ Vc R pg w4 w7 hon.out hd7.out)
    go_wp2_with (first
     | (with_reducible refine wpList_load_at rfl 30 (.tmp 5) rfl Tryz.underlying30 rfl hszc rfl hbr7.out.all ?_))
    refine hrd.out.mono ?_
    clear hrd
    rintro e w8 ⟨k2, rq2, rn2, rc2, kq2, kn2, kc2, is, rfl, hos, hb8⟩
    have hs2 := sizeCont (.int .i64 k2) (.slice rq2 rn2 rc2) (.slice kq2 kn2 kc2)
    have ho2 : ∀ x ∈ ([.int .i64 k2, .slice rq2 rn2 rc2, .slice kq2 kn2 kc2] : List Value), x.oneCell' = true := one_all rfl
    have hboth : Hid (∃ C : ContD, is = ok ∧ ContOn w5 k1 rq1 rn1 rc1 kq1 kn1 kc1 C ∧ ContOn w4 k2 rq2 rn2 rc2 kq2 kn2 kc2 C) := by
     show ∃ C : ContD, _
     rcases hor.out with ⟨e1, rfl, hc1⟩ | ⟨d, e1, rfl, hc1⟩ <;> rcases hos with ⟨e2, rfl, hc2⟩ | ⟨d2, e2, rfl, hc2⟩
     · exact ⟨zeroC, rfl, hc1, hc2⟩
     · rw [hfd.out, e2] at e1; cases e1
     · rw [hfd.out, e2] at e1; cases e1
     · rw [hfd.out, e2] at e1; cases e1
       exact ⟨_, rfl, hc1, hc2⟩
    clear hos
    have hb78 := Lib.hid hb8
    clear hb8
    have hd8 := Lib.hid (below_step hb78.out hd7.out)
    obtain ⟨C, rfl, hc1, hc2⟩ := hboth.out
    have hc1 := Lib.hid hc1
    have hB58 := Lib.hid (below_step hb78.out (below_step hb67.out hb5z.out))
    have hc2 := Lib.hid hc2
    clear hboth
    have p8 := Lib.hid (p7.out.below hb78.out)
    have hx18 := Lib.hid (hx1.out.below hb78.out (Nat.le_refl _))
    have h47 : Hid (w4.heap.size ≤ w5.heap.size + 1) := h45
    go_wp2_with (first
     | ((with_reducible refine wpList_store_at rfl 55 (.tmp 10) (.tmp 38) rfl (o := 0) (vs := [.int .i64 k2, .slice rq2 rn2 rc2, .slice kq2 kn2 kc2]) rfl rfl p8.out hs2 (Nat.le_refl _) ho2 ?_)
        intro wy h9 hg9
        have ry : Hid (RowV 55 wy (w5.heap.size + 1) [.int .i64 k2, .slice rq2 rn2 rc2, .slice kq2 kn2 kc2]) := h9
        have gy := Lib.hid hg9
        clear h9 hg9
        have hdy := Lib.hid (Gr.below gy.out hd8.out h47.out)
        have hx1y := Lib.hid (hx18.out.gr gy.out (by omega))
        have hx2y := Lib.hid ry.out.boxed
        have hc1y := Lib.hid (hc1.out.below (Gr.below gy.out hB58.out (Nat.le_succ _)) (Nat.le_refl _))
        have hc2y := Lib.hid (hc2.out.below hdy.out (Nat.le_refl _))
        have hsm := same_doc k1 rq1 rn1 rc1 kq1 kn1 kc1 C k2 rq2 rn2 rc2 kq2 kn2 kc2 C wy hc1y.out hc2y.out
        rw [show sameC C C = true from sameC_iff.2 rfl] at hsm
        have hsm := Lib.hid hsm)
     | ((with_reducible refine wpList_load_g ?_ 55 (.tmp 8) rfl Tryz.underlying55 rfl hs1 rfl hx1y.out.all ?_); exact rfl)
     | ((with_reducible refine wpList_load_g ?_ 55 (.tmp 10) rfl Tryz.underlying55 rfl hs2 rfl hx2y.out.all ?_); exact rfl))
    refine hsm.out.mono ?_
    clear hsm
    rintro e w9 ⟨rfl, hb9⟩
    have hd9 := Lib.hid (below_step hb9 hdy.out)
    clear hb9
    go_wp2
    go_roundw
    case rel => exact ⟨j + 1, by omega, by go_num, hd9⟩
    case measure => simp [RowKit.intOf]; omega
set_option maxRecDepth 1000000 in
theorem redoes_lifted (os : Os) (started : os.Started) (H : Type) (enc : TypeId × Value → H) :
 ReturnsInHanded {} Tryz.checked os 6 .any (Rows.recordRedoesSpec.pre6 enc Tryz.prog Tryz.f6 Rows.recordRedoesRow.domain false) (Rows.recordRedoesSpec.post enc Tryz.prog Tryz.f6 false true false false) := by
 refine returnsInHanded_of_change (C := Tryz.checked) own started (by kernel_rfl) Tryz.func6
  (ChangeSpec.witness6 (enc := enc) (C := Tryz.checked) false ⟨#[], #[.agg #[.int .i64 0, .int .u64 0, .int .i64 0, .int .u64 0, .int .u64 0, .slice none 0 0, .slice none 0 0, .int .i64 0, .slice none 0 0, .slice none 0 0], .slice none 0 0], []⟩ 8 (by kernel_rfl) (by kernel_rfl) (by kernel_rfl) (by kernel_rfl)) ?_
 intro W base args ds gs before hval0 hW _ _
 have hval : ∀ (j : Nat) t v, Tryz.f6.params[j]? = some t → args[j]? = some v → Value.okWide Tryz.prog W .any base t v := hval0
 have hW' := hW
 obtain ⟨p, q, hA0, hV, rfl, _, _⟩ := hW
 have hA : DataW.TrodAll enc Tryz.prog W 0 (fun _ => true) true Tryz.f6.params.toList args.toList ds p := hA0
 rw [Tryz.params6] at hA hval
 obtain ⟨v0, v1, d0, d1, p0, p1, rfl, rfl, rfl, h0, h1⟩ := trodAll_two hA
 obtain ⟨rfl, rfl⟩ := trodVars_none hV
 obtain ⟨x0, y0, z0, rfl, hc0⟩ := open_rec (hval 0 30 v0 rfl rfl) h0
 obtain ⟨a1, len1, cap1, rfl⟩ := okWide_slice Tryz.underlying51 (hval 1 51 v1 rfl rfl)
 refine (redoes_law x0 y0 z0 a1 len1 cap1 W hc0 (open_nm h1)).mono fun e W' ⟨he, hb⟩ => ?_
 subst he
 exact ⟨_, rfl, law_post laidOut (of_decide_eq_true (by kernel_rfl)) rfl (by kernel_rfl) Tryz.underlying4 hW' ⟨rfl, rfl, rfl⟩ hb⟩
set_option maxRecDepth 1000000 in
theorem redoes_holds : Rows.RecordRedoesSaid :=
 OpenClaim.holds_of_wide 6 Tryz.f6 rfl rfl rfl rfl rfl rfl rfl ⟨rfl, rfl, rfl, rfl, rfl⟩ rfl rfl rfl rfl rfl (by kernel_rfl) Tryz.func6 (by kernel_rfl)
  (of_decide_eq_true (by kernel_rfl)) (by unfold Func.isWrapper; first | (rw [if_pos (by decide +kernel)]; kernel_rfl) | (rw [if_neg (by decide +kernel)]; exact ⟨rfl, rfl⟩))
  (fun os started H enc _ => redoes_lifted os started H enc)
end Go.Proofs.YtocekhckmpkbmaaGreat
