/- PageBack: for every content the law returns true, and its argument reads as it did. No condition. -/
import Derived.Test.YtaiepdhmlmnggaaPWk
namespace Go.Proofs.Ytaiepdhmlmnggaa
open Go.ChangeShapes Go.WideShapes Go.ChangeAt Go.RowKit

set_option maxRecDepth 100000 in
set_option maxHeartbeats 8000000 in
theorem back_law (k : Int) (rq : Option Addr) (rn rc : Nat) (kq : Option Addr) (kn kc : Nat) (c : ContD) (w : World) (hon : ContOn w k rq rn rc kq kn kc c) :
    Calls Try.prog 5 #[.agg #[.int .i64 k, .slice rq rn rc, .slice kq kn kc]] w (fun e w' => e = .returned (.bool true) ∧ Below w.heap.size w w') := by
  have hon : CV.On ⟨k, rq, rn, rc, kq, kn, kc⟩ w c := hon
  have hv := Lib.hid (fun u (hu : Below w.heap.size w u) => hon.below hu (Nat.le_refl _))
  have hok := Lib.hid (And.intro hon.rows.ok hon.kids.ok)
  obtain ⟨W, hW⟩ : ∃ W, w.alloc (.cells #[.int .i64 k, .slice rq rn rc, .slice kq kn kc] 25) = W := ⟨_, rfl⟩
  have hbx := Lib.hid (one_box (xs := [.int .i64 k, .slice rq rn rc, .slice kq kn kc]) hW)
  have hs := sizeCont (.int .i64 k) (.slice rq rn rc) (.slice kq kn kc)
  clear hon
  go_enter Try.func5, Try.ntmps5
  go_wp2_with fail
  clear hW
  refine (wakes_any W).mono ?_
  rintro e w1 ⟨rfl, hb1⟩
  have hd := Lib.hid (below_step hb1 hbx.out.1)
  have bx := Lib.hid (hbx.out.2.1.below hb1 (Nat.le_refl _))
  obtain ⟨wO, hwO⟩ : ∃ x, w1.alloc (.cells #[.int .i64 k, .slice rq rn rc, .slice kq kn kc] 25) = x := ⟨_, rfl⟩
  have hbO := Lib.hid (one_box (xs := [.int .i64 k, .slice rq rn rc, .slice kq kn kc]) hwO)
  have hdO := Lib.hid (below_step hbO.out.1 hd.out)
  have hov := Lib.hid (over_any 1 w1.heap.size wO (by decide) (fun j hj => ⟨⟨k, rq, rn, rc, kq, kn, kc⟩, c, hv.out _ hdO.out, by
    obtain rfl : j = 0 := by omega
    exact hbO.out.2.1⟩))
  clear hb1 hbx
  go_wp2_with (first
    | (with_reducible refine wpList_load_at rfl 25 (.tmp 1) rfl Try.underlying25 rfl hs rfl bx.out.all ?_))
  refine hov.out.mono ?_
  clear hov hwO
  rintro e w2 ⟨o, rfl, hb2⟩
  have hd := Lib.hid (below_step hb2 hdO.out)
  have bx := Lib.hid ((bx.out.below hbO.out.1 (Nat.le_refl _)).below hb2 (Nat.le_refl _))
  clear hb2 hdO hbO
  cases o with
  | true =>
    clear hv hok
    go_wp2
    go_ret
    exact ⟨rfl, hd.out⟩
  | false =>
    go_wp2_with (first
      | (with_reducible refine wpList_load_at rfl 25 (.tmp 1) rfl Try.underlying25 rfl hs rfl bx.out.all ?_))
    refine (split_any ⟨k, rq, rn, rc, kq, kn, kc⟩ c w2 (hv.out _ hd.out)).mono ?_
    rintro e w3 ⟨⟨ka, rqa, rna, rca, kqa, kna, kca⟩, ⟨kb, rqb, rnb, rcb, kqb, knb, kcb⟩, a, b, ⟨st, si⟩, x, rfl, hS, ha, hb, hb3⟩
    have hd := Lib.hid (below_step hb3 hd.out)
    have bx := Lib.hid (bx.out.below hb3 (Nat.le_refl _))
    have hS := Lib.hid hS
    have ha := Lib.hid ha
    have hb := Lib.hid hb
    have hbl : Hid (w.heap.size < w3.heap.size) := cell_in (bx.out.cell 0 rfl)
    clear hb3
    simp only [CV.val]
    obtain ⟨x0, hx0⟩ : ∃ x, ((w3.alloc (.cells #[.int .i64 0, .slice none 0 0, .slice none 0 0] 25)).alloc (.cells #[.int .i64 0, .slice none 0 0, .slice none 0 0] 25)).alloc (.cells #[.int .i64 0, .int .u16 0] 28) = x := ⟨_, rfl⟩
    have xr := Lib.hid (three_rows (xs := [.int .i64 0, .slice none 0 0, .slice none 0 0]) (ys := [.int .i64 0, .slice none 0 0, .slice none 0 0]) (zs := [.int .i64 0, .int .u16 0]) hx0)
    have xq := Lib.hid xr.out.1
    have xa := Lib.hid xr.out.2.1
    have xb := Lib.hid xr.out.2.2.1
    have xk := Lib.hid xr.out.2.2.2.1
    have xsA := sizeCont (.int .i64 ka) (.slice rqa rna rca) (.slice kqa kna kca)
    have xsB := sizeCont (.int .i64 kb) (.slice rqb rnb rcb) (.slice kqb knb kcb)
    have xsK := sizeKey st si
    clear xr
    have bx := Lib.hid (bx.out.below xq.out (Nat.le_refl _))
    by_cases hx0 : x = 0
    · subst hx0
      have hG : Hid (GoodC c ∧ (c.kind ≠ 0 ∧ sizeC c = 4) ∧ a = cutA c 2 ∧ b = cutB c 2 ∧ (⟨st, si⟩ : KeyD) = cutS c 2) := by
        rcases hS.out with ⟨_, h, _⟩ | ⟨hg, ⟨_, h, _⟩ | ⟨h1, _, h2, h3, h4⟩⟩
        · exact absurd h (by decide)
        · exact absurd h (by decide)
        · exact ⟨hg, h1, h2, h3, h4⟩
      clear hS
      go_wp2_with (first
        | ((with_reducible refine wpList_store_at rfl 25 (.tmp 3) (.tmp 17) rfl (o := 0) (vs := [.int .i64 ka, .slice rqa rna rca, .slice kqa kna kca]) rfl rfl xa.out xsA (Nat.le_refl _) (cont_one _ _ _ _ _ _ _) ?_)
           intro x1 h9 hg9
           have xa : Hid (RowV 25 x1 _ [.int .i64 ka, .slice rqa rna rca, .slice kqa kna kca]) := h9
           have xb := Lib.hid (RowV.gr xb.out hg9 (by omega))
           have xk := Lib.hid (RowV.gr xk.out hg9 (by omega))
           have xq := Lib.hid (Gr.below hg9 xq.out (by omega))
           have bx := Lib.hid (bx.out.gr hg9 (by have := hbl.out; omega))
           clear h9 hg9)
        | ((with_reducible refine wpList_store_at rfl 25 (.tmp 4) (.tmp 18) rfl (o := 0) (vs := [.int .i64 kb, .slice rqb rnb rcb, .slice kqb knb kcb]) rfl rfl xb.out xsB (Nat.le_refl _) (cont_one _ _ _ _ _ _ _) ?_)
           intro x2 h9 hg9
           have xb : Hid (RowV 25 x2 _ [.int .i64 kb, .slice rqb rnb rcb, .slice kqb knb kcb]) := h9
           have xa := Lib.hid (RowV.gr xa.out hg9 (by omega))
           have xk := Lib.hid (RowV.gr xk.out hg9 (by omega))
           have xq := Lib.hid (Gr.below hg9 xq.out (by omega))
           have bx := Lib.hid (bx.out.gr hg9 (by have := hbl.out; omega))
           clear h9 hg9)
        | ((with_reducible refine wpList_store_at rfl 28 (.tmp 5) (.tmp 19) rfl (o := 0) (vs := [.int .i64 st, .int .u16 si]) rfl rfl xk.out xsK (Nat.le_refl _) (key_one _ _) ?_)
           intro x3 h9 hg9
           have xk : Hid (RowV 28 x3 _ [.int .i64 st, .int .u16 si]) := h9
           have xa := Lib.hid (RowV.gr xa.out hg9 (by omega))
           have xb := Lib.hid (RowV.gr xb.out hg9 (by omega))
           have xq := Lib.hid (Gr.below hg9 xq.out (by omega))
           have bx := Lib.hid (bx.out.gr hg9 (by have := hbl.out; omega))
           clear h9 hg9)
        | (with_reducible refine wpList_load_at rfl 25 (.tmp 3) rfl Try.underlying25 rfl xsA rfl xa.out.boxed.all ?_)
        | (with_reducible refine wpList_load_at rfl 25 (.tmp 4) rfl Try.underlying25 rfl xsB rfl xb.out.boxed.all ?_)
        | (with_reducible refine wpList_load_at rfl 28 (.tmp 5) rfl Try.underlying28 rfl xsK rfl xk.out.boxed.all ?_))
      refine (join_any ⟨ka, rqa, rna, rca, kqa, kna, kca⟩ ⟨kb, rqb, rnb, rcb, kqb, knb, kcb⟩ a b st si x3 (ha.out.below xq.out (Nat.le_refl _)) (hb.out.below xq.out (Nat.le_refl _)) (by rw [hG.out.2.2.2.2]; exact cutS_ok 2 hok.out.1 hok.out.2)).mono ?_
      rintro e w4 ⟨⟨kj, rqj, rnj, rcj, kqj, knj, kcj⟩, d, x, rfl, hJ, hj, hb4⟩
      have hjb : x = 0 ∧ d = c := by
        obtain ⟨hg, ⟨hk, h4⟩, h1, h2, h3⟩ := hG.out
        rw [h1, h2, h3] at hJ
        exact join_back hg hk h4 hok.out.2 hJ
      obtain ⟨rfl, rfl⟩ := hjb
      have hq4 := below_step hb4 xq.out
      have hd := Lib.hid (below_step hq4 hd.out)
      have ha := Lib.hid (ha.out.below hq4 (Nat.le_refl _))
      have hb := Lib.hid (hb.out.below hq4 (Nat.le_refl _))
      have xa := Lib.hid (xa.out.boxed.below hb4 (Nat.le_refl _))
      have xb := Lib.hid (xb.out.boxed.below hb4 (Nat.le_refl _))
      have bx := Lib.hid (bx.out.below hb4 (Nat.le_refl _))
      have hj := Lib.hid hj
      have hlt : Hid (w3.heap.size + 2 < w4.heap.size) := Nat.lt_of_lt_of_le xk.out.lt hb4.size
      obtain ⟨y0, hy0⟩ : ∃ x, w4.alloc (.cells #[.int .i64 0, .slice none 0 0, .slice none 0 0] 25) = x := ⟨_, rfl⟩
      have yr := Lib.hid (one_row (xs := [.int .i64 0, .slice none 0 0, .slice none 0 0]) hy0)
      have xa := Lib.hid (xa.out.below yr.out.1 (Nat.le_refl _))
      have xb := Lib.hid (xb.out.below yr.out.1 (Nat.le_refl _))
      have bx := Lib.hid (bx.out.below yr.out.1 (Nat.le_refl _))
      have yj := Lib.hid yr.out.2.1
      have yq := Lib.hid yr.out.1
      have ysJ := sizeCont (.int .i64 kj) (.slice rqj rnj rcj) (.slice kqj knj kcj)
      clear hJ hb4 hq4 yr xk xq
      simp only [CV.val]
      go_wp2_with (first
        | ((with_reducible refine wpList_store_at rfl 25 (.tmp 7) (.tmp 31) rfl (o := 0) (vs := [.int .i64 kj, .slice rqj rnj rcj, .slice kqj knj kcj]) rfl rfl yj.out ysJ (Nat.le_refl _) (cont_one _ _ _ _ _ _ _) ?_)
           intro y1 h9 hg9
           have yj : Hid (RowV 25 y1 _ [.int .i64 kj, .slice rqj rnj rcj, .slice kqj knj kcj]) := h9
           have xa := Lib.hid (xa.out.gr hg9 (by have := hlt.out; omega))
           have xb := Lib.hid (xb.out.gr hg9 (by have := hlt.out; omega))
           have bx := Lib.hid (bx.out.gr hg9 (by have := hlt.out; have := hbl.out; omega))
           have yq := Lib.hid (Gr.below hg9 yq.out (Nat.le_refl _))
           have j0 := yj.out.boxed.cell 0 rfl
           have j1 := yj.out.boxed.cell 1 rfl
           have j2 := yj.out.boxed.cell 2 rfl
           have b0 := bx.out.cell 0 rfl
           have b1 := bx.out.cell 1 rfl
           have b2 := bx.out.cell 2 rfl
           clear h9 hg9))
      have hd1 := Lib.hid (below_step yq.out hd.out)
      have hsm := same_c kj rqj rnj rcj kqj knj kcj _ k rq rn rc kq kn kc _ y1 (hj.out.below yq.out (Nat.le_refl _)) (hv.out _ hd1.out)
      rw [sameC_iff.2 rfl] at hsm
      refine hsm.mono ?_
      clear j0 j1 j2 b0 b1 b2 hsm
      rintro e w5 ⟨rfl, hb5⟩
      have hq := Lib.hid (below_step hb5 yq.out)
      have xa := Lib.hid (xa.out.below hb5 (Nat.le_refl _))
      have xb := Lib.hid (xb.out.below hb5 (Nat.le_refl _))
      have hss := Lib.hid (cut_size hG.out.1 hG.out.2.1.1 hG.out.2.1.2)
      have hga := Lib.hid (good_cutA hG.out.1 hG.out.2.1.1 (i := 2) (Nat.le_refl _) (by rw [hG.out.2.1.2]; decide))
      have hgb := Lib.hid (good_cutB hG.out.1 hG.out.2.1.1 hok.out.2 (i := 2) (by decide) (by rw [hG.out.2.1.2]; decide))
      have hkk := Lib.hid (cut_kind hG.out.1 hG.out.2.1.1 2)
      have ha := Lib.hid (fun u (hu : Below w4.heap.size w4 u) => ha.out.below hu (Nat.le_refl _))
      have hb := Lib.hid (fun u (hu : Below w4.heap.size w4 u) => hb.out.below hu (Nat.le_refl _))
      rw [hG.out.2.2.1] at ha
      rw [hG.out.2.2.2.1] at hb
      clear hb5 yq yj bx hd1
      have xa0 := xa.out.cell 0 rfl
      have xa1 := xa.out.cell 1 rfl
      have xa2 := xa.out.cell 2 rfl
      go_wp2_with fail
      refine (pSize_any ⟨ka, rqa, rna, rca, kqa, kna, kca⟩ _ w5 (ha.out _ hq.out) 2 ⟨fun _ => by rw [hss.out.1]; rfl, fun h => absurd hga.out h⟩).mono ?_
      clear xa0 xa1 xa2
      rintro e w6 ⟨rfl, hb5⟩
      have hq := Lib.hid (below_step hb5 hq.out)
      have xa := Lib.hid (xa.out.below hb5 (Nat.le_refl _))
      have xb := Lib.hid (xb.out.below hb5 (Nat.le_refl _))
      clear hb5
      have xb0 := xb.out.cell 0 rfl
      have xb1 := xb.out.cell 1 rfl
      have xb2 := xb.out.cell 2 rfl
      go_wp2_with fail
      refine (pSize_any ⟨kb, rqb, rnb, rcb, kqb, knb, kcb⟩ _ w6 (hb.out _ hq.out) 2 ⟨fun _ => by rw [hss.out.2]; rfl, fun h => absurd hgb.out h⟩).mono ?_
      clear xb0 xb1 xb2
      rintro e w7 ⟨rfl, hb5⟩
      have hq := Lib.hid (below_step hb5 hq.out)
      have xa := Lib.hid (xa.out.below hb5 (Nat.le_refl _))
      have xb := Lib.hid (xb.out.below hb5 (Nat.le_refl _))
      clear hb5
      have xa0 := xa.out.cell 0 rfl
      have xa1 := xa.out.cell 1 rfl
      have xa2 := xa.out.cell 2 rfl
      go_wp2_with fail
      refine (small_any ⟨ka, rqa, rna, rca, kqa, kna, kca⟩ _ true ⟨fun _ => ⟨⟨hga.out, by rw [hkk.out.1]; exact hG.out.2.1.1⟩, by rw [hss.out.1]; decide⟩, fun _ => rfl⟩ w7 (ha.out _ hq.out)).mono ?_
      clear xa0 xa1 xa2
      rintro e w8 ⟨rfl, hb5⟩
      have hq := Lib.hid (below_step hb5 hq.out)
      have xa := Lib.hid (xa.out.below hb5 (Nat.le_refl _))
      have xb := Lib.hid (xb.out.below hb5 (Nat.le_refl _))
      clear hb5
      have xb0 := xb.out.cell 0 rfl
      have xb1 := xb.out.cell 1 rfl
      have xb2 := xb.out.cell 2 rfl
      go_wp2_with fail
      refine (small_any ⟨kb, rqb, rnb, rcb, kqb, knb, kcb⟩ _ true ⟨fun _ => ⟨⟨hgb.out, by rw [hkk.out.2]; exact hG.out.2.1.1⟩, by rw [hss.out.2]; decide⟩, fun _ => rfl⟩ w8 (hb.out _ hq.out)).mono ?_
      clear xb0 xb1 xb2
      rintro e w9 ⟨rfl, hb5⟩
      have hq := Lib.hid (below_step hb5 hq.out)
      clear hb5
      have hfin := Lib.hid (below_step hq.out hd.out)
      clear hq hd ha hb
      go_wp2
      go_ret
      exact ⟨rfl, hfin.out⟩
    · have hx1 : (x != 0) = true := by simpa using hx0
      have hnf : Hid (¬ ((GoodC c ∧ c.kind ≠ 0) ∧ sizeC c = 4)) := by
        rcases hS.out with ⟨h, _⟩ | ⟨hg, ⟨h, _⟩ | ⟨_, h, _⟩⟩
        · exact fun h2 => h h2.1.1
        · exact fun h2 => h ⟨h2.1.2, h2.2⟩
        · exact absurd h hx0
      clear hS hx0
      go_wp2_with (first
        | ((with_reducible refine wpList_store_at rfl 25 (.tmp 3) (.tmp 17) rfl (o := 0) (vs := [.int .i64 ka, .slice rqa rna rca, .slice kqa kna kca]) rfl rfl xa.out xsA (Nat.le_refl _) (cont_one _ _ _ _ _ _ _) ?_)
           intro x1 h9 hg9
           have xa : Hid (RowV 25 x1 _ [.int .i64 ka, .slice rqa rna rca, .slice kqa kna kca]) := h9
           have xb := Lib.hid (RowV.gr xb.out hg9 (by omega))
           have xk := Lib.hid (RowV.gr xk.out hg9 (by omega))
           have xq := Lib.hid (Gr.below hg9 xq.out (by omega))
           have bx := Lib.hid (bx.out.gr hg9 (by have := hbl.out; omega))
           clear h9 hg9)
        | ((with_reducible refine wpList_store_at rfl 25 (.tmp 4) (.tmp 18) rfl (o := 0) (vs := [.int .i64 kb, .slice rqb rnb rcb, .slice kqb knb kcb]) rfl rfl xb.out xsB (Nat.le_refl _) (cont_one _ _ _ _ _ _ _) ?_)
           intro x2 h9 hg9
           have xb : Hid (RowV 25 x2 _ [.int .i64 kb, .slice rqb rnb rcb, .slice kqb knb kcb]) := h9
           have xa := Lib.hid (RowV.gr xa.out hg9 (by omega))
           have xk := Lib.hid (RowV.gr xk.out hg9 (by omega))
           have xq := Lib.hid (Gr.below hg9 xq.out (by omega))
           have bx := Lib.hid (bx.out.gr hg9 (by have := hbl.out; omega))
           clear h9 hg9)
        | ((with_reducible refine wpList_store_at rfl 28 (.tmp 5) (.tmp 19) rfl (o := 0) (vs := [.int .i64 st, .int .u16 si]) rfl rfl xk.out xsK (Nat.le_refl _) (key_one _ _) ?_)
           intro x3 h9 hg9
           have xk : Hid (RowV 28 x3 _ [.int .i64 st, .int .u16 si]) := h9
           have xa := Lib.hid (RowV.gr xa.out hg9 (by omega))
           have xb := Lib.hid (RowV.gr xb.out hg9 (by omega))
           have xq := Lib.hid (Gr.below hg9 xq.out (by omega))
           have bx := Lib.hid (bx.out.gr hg9 (by have := hbl.out; omega))
           clear h9 hg9)
        | (with_reducible refine wpList_load_at rfl 25 (.tmp 1) rfl Try.underlying25 rfl hs rfl bx.out.all ?_))
      have hd3 := Lib.hid (below_step xq.out hd.out)
      refine (full_any ⟨k, rq, rn, rc, kq, kn, kc⟩ c false ⟨fun h => (by cases h), fun h => absurd h hnf.out⟩ x3 (hv.out _ hd3.out)).mono ?_
      rintro e w4 ⟨rfl, hb4⟩
      have hfin := Lib.hid (below_step hb4 hd3.out)
      clear hb4 xq xa xb xk hd hd3
      go_wp2
      go_ret
      exact ⟨rfl, hfin.out⟩

set_option maxRecDepth 1000000 in
theorem back_lifted (os : Os) (started : os.Started) (H : Type) (enc : TypeId × Value → H) :
    ReturnsInHanded {} Try.checked os 5 .any (Rows.pageBackSpec.pre6 enc Try.prog Try.f5 Rows.pageBackRow.domain false) (Rows.pageBackSpec.post enc Try.prog Try.f5 false true false false) := by
  refine returnsInHanded_of_change (C := Try.checked) own started (by kernel_rfl) Try.func5
    (ChangeSpec.witness6 (enc := enc) (C := Try.checked) false ⟨#[], #[.agg #[.int .i64 0, .slice none 0 0, .slice none 0 0]], []⟩ 8 (by kernel_rfl) (by kernel_rfl) (by kernel_rfl) (by kernel_rfl)) ?_
  intro W base args ds gs before hval0 hW _ _
  have hval : ∀ (j : Nat) t v, Try.f5.params[j]? = some t → args[j]? = some v → Value.okWide Try.prog W .any base t v := hval0
  have hW' := hW
  obtain ⟨p, q, hA0, hV, rfl, _, _⟩ := hW
  have hA : DataW.TrodAll enc Try.prog W 0 (fun _ => true) true Try.f5.params.toList args.toList ds p := hA0
  rw [Try.params5] at hA hval
  obtain ⟨v0, d0, rfl, rfl, h0⟩ := trodAll_one hA
  obtain ⟨rfl, rfl⟩ := trodVars_none hV
  obtain ⟨k0, rq0, rn0, rc0, kq0, kn0, kc0, x0, rfl, hc0⟩ := open_cont (hval 0 25 v0 rfl rfl) h0
  refine (back_law k0 rq0 rn0 rc0 kq0 kn0 kc0 x0 W hc0).mono fun e W' ⟨he, hb⟩ => ?_
  subst he
  exact ⟨_, rfl, law_post laidOut (of_decide_eq_true (by kernel_rfl)) rfl (by kernel_rfl) Try.underlying4 hW' ⟨rfl, rfl, rfl⟩ hb⟩

set_option maxRecDepth 1000000 in
theorem back_holds : Rows.PageBackSaid :=
  OpenClaim.holds_of_wide 5 Try.f5 rfl rfl rfl rfl rfl rfl rfl ⟨rfl, rfl, rfl, rfl, rfl⟩ rfl rfl rfl rfl rfl (by kernel_rfl) Try.func5 (by kernel_rfl)
    (of_decide_eq_true (by kernel_rfl)) (by unfold Func.isWrapper; first | (rw [if_pos (by decide +kernel)]; kernel_rfl) | (rw [if_neg (by decide +kernel)]; exact ⟨rfl, rfl⟩))
    (fun os started H enc _ => back_lifted os started H enc)
end Go.Proofs.Ytaiepdhmlmnggaa
