/- Level of page. -/
import Derived.Test.YtaiepdhmlmnggaaPVa
import Derived.Test.YtaiepdhmlmnggaaPWk
namespace Go.Proofs.Ytaiepdhmlmnggaa
open Go.RowKit

theorem six_rows {w W : World} {T1 T2 T3 T4 T5 T6 : TypeId} {a b c d e f : List Value} (h : (((((w.alloc (.cells a.toArray T1)).alloc (.cells b.toArray T2)).alloc (.cells c.toArray T3)).alloc (.cells d.toArray T4)).alloc (.cells e.toArray T5)).alloc (.cells f.toArray T6) = W) :
    Below w.heap.size w W ∧ RowV T1 W w.heap.size a ∧ RowV T2 W (w.heap.size + 1) b ∧ RowV T3 W (w.heap.size + 2) c ∧ RowV T4 W (w.heap.size + 3) d ∧ RowV T5 W (w.heap.size + 4) e ∧ RowV T6 W (w.heap.size + 5) f ∧ W.heap.size = w.heap.size + 6 := by
  obtain ⟨V, hV⟩ : ∃ V, ((w.alloc (.cells a.toArray T1)).alloc (.cells b.toArray T2)).alloc (.cells c.toArray T3) = V := ⟨_, rfl⟩
  rw [hV] at h
  obtain ⟨b1, a1, a2, a3, a4⟩ := three_rows hV
  obtain ⟨b2, c1, c2, c3, c4⟩ := three_rows h
  have e4 : V.heap.size + 1 = w.heap.size + 4 := by omega
  have e5 : V.heap.size + 2 = w.heap.size + 5 := by omega
  rw [a4] at c1
  rw [e4] at c2
  rw [e5] at c3
  exact ⟨below_step b2 b1, a1.below b2, a2.below b2, a3.below b2, c1, c2, c3, by omega⟩
theorem cutJ_any (v : CV) (c : ContD) (i : Nat) (w : World) (h : v.On w c) (hk : c.kind = 1 ∨ c.kind = 2) (h1 : c.kind = 1 → c.kids = []) (h2 : c.kind = 2 → c.rows = []) (hs : sizeC c ≤ 1000000) (hi : i < sizeC c) : Calls Try.prog 53 #[v.val, .int .i64 i] w (CutPost c i w) := by
  have e1 := h.rl
  have e2 := h.kl
  unfold sizeC at hs hi
  rcases hk with e | e
  · have h3 := h1 e
    rw [h3] at hs hi
    simp only [List.length_nil] at hs hi
    exact cutR_any v c i w h e (by omega) (by omega)
  · have h3 := h2 e
    rw [h3] at hs hi
    simp only [List.length_nil] at hs hi
    exact cutK_any v c i w h (by omega) (by omega) (by omega)
def LevelPost (a b : ContD) (s : KeyD) (w : World) (e : Ending) (w' : World) : Prop := ∃ (vp vq : CV) (p q : ContD) (n : KeyD) (x : Int), e = .returned (.tuple #[vp.val, vq.val, .agg #[.int .i64 n.t, .int .u16 n.id], .int .i64 x]) ∧ LevelR a b s p q n x ∧ vp.On w' p ∧ vq.On w' q ∧ Below w.heap.size w w'
theorem lv_no {a b : ContD} {s : KeyD} (hg : GoodC a ∧ GoodC b) (h : ¬ LvOk a b s) : LevelR a b s zeroC zeroC zK 2 := .inr ⟨hg, .inl ⟨h, rfl, rfl, rfl, rfl⟩⟩
set_option maxRecDepth 100000 in
set_option maxHeartbeats 16000000 in
theorem level_any (v u : CV) (a b : ContD) (kt ki : Int) (w : World) (ha : v.On w a) (hb : u.On w b) (hko : KeyOk ⟨kt, ki⟩) :
    Calls Try.prog 28 #[v.val, u.val, .agg #[.int .i64 kt, .int .u16 ki]] w (LevelPost a b ⟨kt, ki⟩ w) := by
  have hcp := Lib.hid (fun y (hu : Below w.heap.size w y) => checkPair_any v u a b y (ha.below hu (Nat.le_refl _)) (hb.below hu (Nat.le_refl _)))
  have hza := Lib.hid (fun (hgc : GoodC a) y (hu : Below w.heap.size w y) => psize_any v a y (ha.below hu (Nat.le_refl _)) (Nat.le_trans (good_size hgc) (by decide)))
  have hzb := Lib.hid (fun (hgc : GoodC b) y (hu : Below w.heap.size w y) => psize_any u b y (hb.below hu (Nat.le_refl _)) (Nat.le_trans (good_size hgc) (by decide)))
  have hjo := Lib.hid (fun (hga : GoodC a) (hgb : GoodC b) (hk0 : a.kind ≠ 0) (hkk : a.kind = b.kind) y (hu : Below w.heap.size w y) => joined_any v u a b kt ki y (ha.below hu (Nat.le_refl _)) (hb.below hu (Nat.le_refl _)) hga hgb hk0 hkk hko)
  obtain ⟨k, rq, rn, rc, kq, kn, kc⟩ := v
  obtain ⟨k2, rq2, rn2, rc2, kq2, kn2, kc2⟩ := u
  obtain ⟨W, hW⟩ : ∃ W, (((((w.alloc (.cells #[.int .i64 k, .slice rq rn rc, .slice kq kn kc] 25)).alloc (.cells #[.int .i64 k2, .slice rq2 rn2 rc2, .slice kq2 kn2 kc2] 25)).alloc (.cells #[.int .i64 kt, .int .u16 ki] 28)).alloc (.cells #[.int .i64 0, .slice none 0 0, .slice none 0 0] 25)).alloc (.cells #[.int .i64 0, .slice none 0 0, .slice none 0 0] 25)).alloc (.cells #[.int .i64 0, .int .u16 0] 28) = W := ⟨_, rfl⟩
  have hbx := Lib.hid (six_rows (a := [.int .i64 k, .slice rq rn rc, .slice kq kn kc]) (b := [.int .i64 k2, .slice rq2 rn2 rc2, .slice kq2 kn2 kc2]) (c := [.int .i64 kt, .int .u16 ki]) (d := [.int .i64 0, .slice none 0 0, .slice none 0 0]) (e := [.int .i64 0, .slice none 0 0, .slice none 0 0]) (f := [.int .i64 0, .int .u16 0]) hW)
  have hs := sizeCont (.int .i64 k) (.slice rq rn rc) (.slice kq kn kc)
  have hs2 := sizeCont (.int .i64 k2) (.slice rq2 rn2 rc2) (.slice kq2 kn2 kc2)
  have hs3 := sizeKey kt ki
  have hz := sizeCont (.int .i64 0) (.slice none 0 0) (.slice none 0 0)
  have hzk := sizeKey 0 0
  have ba := Lib.hid hbx.out.2.1.boxed
  have bb := Lib.hid hbx.out.2.2.1.boxed
  have bk := Lib.hid hbx.out.2.2.2.1.boxed
  have oa := Lib.hid hbx.out.2.1
  have ob := Lib.hid hbx.out.2.2.1
  have ok := Lib.hid hbx.out.2.2.2.1
  have ra := Lib.hid hbx.out.2.2.2.2.1
  have rb := Lib.hid hbx.out.2.2.2.2.2.1
  have rk := Lib.hid hbx.out.2.2.2.2.2.2.1
  have hd := Lib.hid hbx.out.1
  clear ha hb hko hbx
  show Calls _ _ #[.agg #[.int .i64 k, .slice rq rn rc, .slice kq kn kc], .agg #[.int .i64 k2, .slice rq2 rn2 rc2, .slice kq2 kn2 kc2], .agg #[.int .i64 kt, .int .u16 ki]] _ _
  go_enter Try.func28, Try.ntmps28
  go_wp2_with (first
    | (with_reducible refine wpList_load_at rfl 25 (.tmp 3) rfl Try.underlying25 rfl hs rfl ba.out.all ?_)
    | (with_reducible refine wpList_load_at rfl 25 (.tmp 4) rfl Try.underlying25 rfl hs2 rfl bb.out.all ?_))
  refine (hcp.out W hd.out).mono ?_
  clear hcp hW
  rintro e w1 ⟨x, rfl, hx, hb1⟩
  have ba := Lib.hid (ba.out.below hb1 (Nat.le_refl _))
  have bb := Lib.hid (bb.out.below hb1 (Nat.le_refl _))
  have bk := Lib.hid (bk.out.below hb1 (Nat.le_refl _))
  have oa := Lib.hid (oa.out.below hb1)
  have ob := Lib.hid (ob.out.below hb1)
  have ok := Lib.hid (ok.out.below hb1)
  have ra := Lib.hid (ra.out.below hb1)
  have rb := Lib.hid (rb.out.below hb1)
  have rk := Lib.hid (rk.out.below hb1)
  have hd := Lib.hid (below_step hb1 hd.out)
  clear hb1
  rcases hx with ⟨rfl, hn⟩ | ⟨hga, hgb, hk, rfl⟩ | ⟨hga, hgb, hk0, hkk, rfl⟩
  · have hn' := Lib.hid hn
    clear hza hzb hjo hn ba bb bk oa ob ok
    go_wp2_with (first
      | ((with_reducible refine wpList_store_at rfl 25 (.tmp 6) (.tmp 19) rfl (o := 0) (vs := [.int .i64 0, .slice none 0 0, .slice none 0 0]) rfl rfl ra.out hz (Nat.le_refl _) (cont_one _ _ _ _ _ _ _) ?_)
         intro wa1 h9 hg9
         have ra := Lib.hid h9
         have rb := Lib.hid (RowV.gr rb.out hg9 (by omega))
         have rk := Lib.hid (RowV.gr rk.out hg9 (by omega))
         have hd := Lib.hid (Gr.below hg9 hd.out (by omega))
         clear h9 hg9)
      | ((with_reducible refine wpList_store_at rfl 25 (.tmp 7) (.tmp 20) rfl (o := 0) (vs := [.int .i64 0, .slice none 0 0, .slice none 0 0]) rfl rfl rb.out hz (Nat.le_refl _) (cont_one _ _ _ _ _ _ _) ?_)
         intro wa2 h9 hg9
         have rb := Lib.hid h9
         have ra := Lib.hid (RowV.gr ra.out hg9 (by omega))
         have rk := Lib.hid (RowV.gr rk.out hg9 (by omega))
         have hd := Lib.hid (Gr.below hg9 hd.out (by omega))
         clear h9 hg9)
      | ((with_reducible refine wpList_store_at rfl 28 (.tmp 8) (.tmp 21) rfl (o := 0) (vs := [.int .i64 0, .int .u16 0]) rfl rfl rk.out hzk (Nat.le_refl _) (key_one _ _) ?_)
         intro wa3 h9 hg9
         have rk := Lib.hid h9
         have ra := Lib.hid (RowV.gr ra.out hg9 (by omega))
         have rb := Lib.hid (RowV.gr rb.out hg9 (by omega))
         have hd := Lib.hid (Gr.below hg9 hd.out (by omega))
         clear h9 hg9))
    have s0 : RowV 25 wa3 (w.heap.size + 3) [.int .i64 0, .slice none 0 0, .slice none 0 0] := ra.out
    have m00 := s0.cell 0
    have m01 := s0.cell 1
    have m02 := s0.cell 2
    have s1 : RowV 25 wa3 (w.heap.size + 4) [.int .i64 0, .slice none 0 0, .slice none 0 0] := rb.out
    have m10 := s1.cell 0
    have m11 := s1.cell 1
    have m12 := s1.cell 2
    have s2 : RowV 28 wa3 (w.heap.size + 5) [.int .i64 0, .int .u16 0] := rk.out
    have m20 := s2.cell 0
    have m21 := s2.cell 1
    simp only [List.getElem?_cons_zero, List.getElem?_cons_succ] at m00 m01 m02 m10 m11 m12 m20 m21
    clear s0 s1 s2
    refine bodyPost_ret (v := .tuple #[CV.val zV, CV.val zV, .agg #[.int .i64 zK.t, .int .u16 zK.id], .int .i64 160]) (by simp [results, Try.results28, go_sem, m00, m01, m02, m10, m11, m12, m20, m21, zV, zK]) rfl ?_
    exact ⟨zV, zV, zeroC, zeroC, zK, 160, rfl, .inl ⟨rfl, hn'.out, rfl, rfl, rfl⟩, zV_on _, zV_on _, hd.out⟩
  · have hn' : Hid (LevelR a b ⟨kt, ki⟩ zeroC zeroC zK 2) := lv_no ⟨hga, hgb⟩ fun h => by
      rcases hk with e | e
      · exact h.1.1 e
      · exact e h.1.2
    clear hza hzb hjo hga hgb hk ba bb bk oa ob ok
    go_wp2_with (first
      | ((with_reducible refine wpList_store_at rfl 25 (.tmp 6) (.tmp 19) rfl (o := 0) (vs := [.int .i64 0, .slice none 0 0, .slice none 0 0]) rfl rfl ra.out hz (Nat.le_refl _) (cont_one _ _ _ _ _ _ _) ?_)
         intro wb1 h9 hg9
         have ra := Lib.hid h9
         have rb := Lib.hid (RowV.gr rb.out hg9 (by omega))
         have rk := Lib.hid (RowV.gr rk.out hg9 (by omega))
         have hd := Lib.hid (Gr.below hg9 hd.out (by omega))
         clear h9 hg9)
      | ((with_reducible refine wpList_store_at rfl 25 (.tmp 7) (.tmp 20) rfl (o := 0) (vs := [.int .i64 0, .slice none 0 0, .slice none 0 0]) rfl rfl rb.out hz (Nat.le_refl _) (cont_one _ _ _ _ _ _ _) ?_)
         intro wb2 h9 hg9
         have rb := Lib.hid h9
         have ra := Lib.hid (RowV.gr ra.out hg9 (by omega))
         have rk := Lib.hid (RowV.gr rk.out hg9 (by omega))
         have hd := Lib.hid (Gr.below hg9 hd.out (by omega))
         clear h9 hg9)
      | ((with_reducible refine wpList_store_at rfl 28 (.tmp 8) (.tmp 21) rfl (o := 0) (vs := [.int .i64 0, .int .u16 0]) rfl rfl rk.out hzk (Nat.le_refl _) (key_one _ _) ?_)
         intro wb3 h9 hg9
         have rk := Lib.hid h9
         have ra := Lib.hid (RowV.gr ra.out hg9 (by omega))
         have rb := Lib.hid (RowV.gr rb.out hg9 (by omega))
         have hd := Lib.hid (Gr.below hg9 hd.out (by omega))
         clear h9 hg9))
    have s0 : RowV 25 wb3 (w.heap.size + 3) [.int .i64 0, .slice none 0 0, .slice none 0 0] := ra.out
    have m00 := s0.cell 0
    have m01 := s0.cell 1
    have m02 := s0.cell 2
    have s1 : RowV 25 wb3 (w.heap.size + 4) [.int .i64 0, .slice none 0 0, .slice none 0 0] := rb.out
    have m10 := s1.cell 0
    have m11 := s1.cell 1
    have m12 := s1.cell 2
    have s2 : RowV 28 wb3 (w.heap.size + 5) [.int .i64 0, .int .u16 0] := rk.out
    have m20 := s2.cell 0
    have m21 := s2.cell 1
    simp only [List.getElem?_cons_zero, List.getElem?_cons_succ] at m00 m01 m02 m10 m11 m12 m20 m21
    clear s0 s1 s2
    refine bodyPost_ret (v := .tuple #[CV.val zV, CV.val zV, .agg #[.int .i64 zK.t, .int .u16 zK.id], .int .i64 2]) (by simp [results, Try.results28, go_sem, m00, m01, m02, m10, m11, m12, m20, m21, zV, zK]) rfl ?_
    exact ⟨zV, zV, zeroC, zeroC, zK, 2, rfl, hn'.out, zV_on _, zV_on _, hd.out⟩
  · have hG := Lib.hid (And.intro hga hgb)
    have hK := Lib.hid (And.intro hk0 hkk)
    have hzz := Lib.hid (And.intro (good_size hga) (good_size hgb))
    have hza := Lib.hid (hza.out hga)
    have hzb := Lib.hid (hzb.out hgb)
    have hjo := Lib.hid (hjo.out hga hgb hk0 hkk)
    clear hga hgb hk0 hkk
    obtain ⟨m, hm⟩ : ∃ m, sizeC a = m := ⟨_, rfl⟩
    obtain ⟨n, hn⟩ : ∃ n, sizeC b = n := ⟨_, rfl⟩
    have hm' := Lib.hid hm
    have hn' := Lib.hid hn
    rw [hm] at hza hzz
    rw [hn] at hzb hzz
    have hm4 : m ≤ 4 := hzz.out.1
    have hn4 : n ≤ 4 := hzz.out.2
    obtain ⟨q, hq⟩ : ∃ q : Bool, ((m : Int) == (n : Int)) = q := ⟨_, rfl⟩
    have hq' := Lib.hid hq
    clear hm hn
    go_wp2_with fail
    refine wp_region_held (S := fun y => Below w1.heap.size w1 y) (by kernel_rfl) ?_
    change wpAnyH _ _ _ _ _ _ _ _ (World.drew w1)
    refine wpF.held _ _ _ ?_ _ (below_drew w1)
    refine fx (i := 0) (dst := some 23) rfl rfl (fx_load 25 (.tmp 3) (fun y hy => run_loadVar_at Try.underlying25 rfl hs _ (ba.out.below hy (Nat.le_refl _)).all)) ?_; go_frame
    refine fx (i := 1) (dst := some 24) (v := .int .i64 (m : Int)) rfl rfl (fx_call (fun y hy => (hza.out y (below_step hy hd.out)).mono fun e z h => ⟨h.1, below_step h.2 hy⟩)) ?_; go_frame
    refine fx (i := 2) (dst := some 25) rfl rfl (fx_load 25 (.tmp 4) (fun y hy => run_loadVar_at Try.underlying25 rfl hs2 _ (bb.out.below hy (Nat.le_refl _)).all)) ?_; go_frame
    refine fx (i := 3) (dst := some 26) (v := .int .i64 (n : Int)) rfl rfl (fx_call (fun y hy => (hzb.out y (below_step hy hd.out)).mono fun e z h => ⟨h.1, below_step h.2 hy⟩)) ?_; go_frame
    refine fx (i := 4) (dst := some 27) (v := .bool q) rfl rfl (fx_read (fun u hu => by go_simp)) ?_; go_frame
    refine fx_done (fun w2 hb1 => ?_) (by kernel_rfl) _
    have ba := Lib.hid (ba.out.below hb1 (Nat.le_refl _))
    have bb := Lib.hid (bb.out.below hb1 (Nat.le_refl _))
    have bk := Lib.hid (bk.out.below hb1 (Nat.le_refl _))
    have oa := Lib.hid (oa.out.below hb1)
    have ob := Lib.hid (ob.out.below hb1)
    have ok := Lib.hid (ok.out.below hb1)
    have ra := Lib.hid (ra.out.below hb1)
    have rb := Lib.hid (rb.out.below hb1)
    have rk := Lib.hid (rk.out.below hb1)
    have hd := Lib.hid (below_step hb1 hd.out)
    clear hb1 hq
    cases q with
    | true =>
      have hne : Hid (LevelR a b ⟨kt, ki⟩ zeroC zeroC zK 2) := lv_no hG.out fun h => h.2.1 (by rw [hm'.out, hn'.out]; have h2 := hq'.out; simp at h2; omega)
      clear hza hzb hjo ba bb bk oa ob ok
      go_wp2_with (first
        | ((with_reducible refine wpList_store_at rfl 25 (.tmp 6) (.tmp 28) rfl (o := 0) (vs := [.int .i64 0, .slice none 0 0, .slice none 0 0]) rfl rfl ra.out hz (Nat.le_refl _) (cont_one _ _ _ _ _ _ _) ?_)
           intro wc1 h9 hg9
           have ra := Lib.hid h9
           have rb := Lib.hid (RowV.gr rb.out hg9 (by omega))
           have rk := Lib.hid (RowV.gr rk.out hg9 (by omega))
           have hd := Lib.hid (Gr.below hg9 hd.out (by omega))
           clear h9 hg9)
        | ((with_reducible refine wpList_store_at rfl 25 (.tmp 7) (.tmp 29) rfl (o := 0) (vs := [.int .i64 0, .slice none 0 0, .slice none 0 0]) rfl rfl rb.out hz (Nat.le_refl _) (cont_one _ _ _ _ _ _ _) ?_)
           intro wc2 h9 hg9
           have rb := Lib.hid h9
           have ra := Lib.hid (RowV.gr ra.out hg9 (by omega))
           have rk := Lib.hid (RowV.gr rk.out hg9 (by omega))
           have hd := Lib.hid (Gr.below hg9 hd.out (by omega))
           clear h9 hg9)
        | ((with_reducible refine wpList_store_at rfl 28 (.tmp 8) (.tmp 30) rfl (o := 0) (vs := [.int .i64 0, .int .u16 0]) rfl rfl rk.out hzk (Nat.le_refl _) (key_one _ _) ?_)
           intro wc3 h9 hg9
           have rk := Lib.hid h9
           have ra := Lib.hid (RowV.gr ra.out hg9 (by omega))
           have rb := Lib.hid (RowV.gr rb.out hg9 (by omega))
           have hd := Lib.hid (Gr.below hg9 hd.out (by omega))
           clear h9 hg9))
      have s0 : RowV 25 wc3 (w.heap.size + 3) [.int .i64 0, .slice none 0 0, .slice none 0 0] := ra.out
      have m00 := s0.cell 0
      have m01 := s0.cell 1
      have m02 := s0.cell 2
      have s1 : RowV 25 wc3 (w.heap.size + 4) [.int .i64 0, .slice none 0 0, .slice none 0 0] := rb.out
      have m10 := s1.cell 0
      have m11 := s1.cell 1
      have m12 := s1.cell 2
      have s2 : RowV 28 wc3 (w.heap.size + 5) [.int .i64 0, .int .u16 0] := rk.out
      have m20 := s2.cell 0
      have m21 := s2.cell 1
      simp only [List.getElem?_cons_zero, List.getElem?_cons_succ] at m00 m01 m02 m10 m11 m12 m20 m21
      clear s0 s1 s2
      refine bodyPost_ret (v := .tuple #[CV.val zV, CV.val zV, .agg #[.int .i64 zK.t, .int .u16 zK.id], .int .i64 2]) (by simp [results, Try.results28, go_sem, m00, m01, m02, m10, m11, m12, m20, m21, zV, zK]) rfl ?_
      exact ⟨zV, zV, zeroC, zeroC, zK, 2, rfl, hne.out, zV_on _, zV_on _, hd.out⟩
    | false =>
      have hne : Hid (m ≠ n) := fun h => by have := hq'.out; rw [h] at this; simp at this
      have ew : IntKind.i64.wrap ((m : Int) - 1) = (m : Int) - 1 := IntWalk.i64_in _ (by omega)
      have ew2 : IntKind.i64.wrap ((m : Int) + 1) = ((m + 1 : Nat) : Int) := by rw [IntWalk.i64_in _ (by omega)]; omega
      go_wp2_with (first
        | (with_reducible refine wpList_load_at rfl 25 (.tmp 3) rfl Try.underlying25 rfl hs rfl ba.out.all ?_))
      refine (hza.out w2 hd.out).mono ?_
      rintro e w3 ⟨rfl, hb1⟩
      have ba := Lib.hid (ba.out.below hb1 (Nat.le_refl _))
      have bb := Lib.hid (bb.out.below hb1 (Nat.le_refl _))
      have bk := Lib.hid (bk.out.below hb1 (Nat.le_refl _))
      have oa := Lib.hid (oa.out.below hb1)
      have ob := Lib.hid (ob.out.below hb1)
      have ok := Lib.hid (ok.out.below hb1)
      have ra := Lib.hid (ra.out.below hb1)
      have rb := Lib.hid (rb.out.below hb1)
      have rk := Lib.hid (rk.out.below hb1)
      have hd := Lib.hid (below_step hb1 hd.out)
      clear hb1
      obtain ⟨q, hq⟩ : ∃ q : Bool, decide (m < n) = q := ⟨_, rfl⟩
      have hq' := Lib.hid hq
      go_wp2_with fail
      refine wp_region_held (S := fun y => Below w3.heap.size w3 y) (by kernel_rfl) ?_
      change wpAnyH _ _ _ _ _ _ _ _ (World.drew w3)
      refine wpF.held _ _ _ ?_ _ (below_drew w3)
      refine fx (i := 0) (dst := some 34) rfl rfl (fx_load 25 (.tmp 3) (fun y hy => run_loadVar_at Try.underlying25 rfl hs _ (ba.out.below hy (Nat.le_refl _)).all)) ?_; go_frame
      refine fx (i := 1) (dst := some 35) (v := .int .i64 (m : Int)) rfl rfl (fx_call (fun y hy => (hza.out y (below_step hy hd.out)).mono fun e z h => ⟨h.1, below_step h.2 hy⟩)) ?_; go_frame
      refine fx (i := 2) (dst := some 36) rfl rfl (fx_load 25 (.tmp 4) (fun y hy => run_loadVar_at Try.underlying25 rfl hs2 _ (bb.out.below hy (Nat.le_refl _)).all)) ?_; go_frame
      refine fx (i := 3) (dst := some 37) (v := .int .i64 (n : Int)) rfl rfl (fx_call (fun y hy => (hzb.out y (below_step hy hd.out)).mono fun e z h => ⟨h.1, below_step h.2 hy⟩)) ?_; go_frame
      refine fx (i := 4) (dst := some 38) (v := .bool q) rfl rfl (fx_read (fun u hu => by go_simp)) ?_; go_frame
      refine fx_done (fun w4 hb1 => ?_) (by kernel_rfl) _
      have ba := Lib.hid (ba.out.below hb1 (Nat.le_refl _))
      have bb := Lib.hid (bb.out.below hb1 (Nat.le_refl _))
      have bk := Lib.hid (bk.out.below hb1 (Nat.le_refl _))
      have oa := Lib.hid (oa.out.below hb1)
      have ob := Lib.hid (ob.out.below hb1)
      have ok := Lib.hid (ok.out.below hb1)
      have ra := Lib.hid (ra.out.below hb1)
      have rb := Lib.hid (rb.out.below hb1)
      have rk := Lib.hid (rk.out.below hb1)
      have hd := Lib.hid (below_step hb1 hd.out)
      clear hb1 hq hzb
      have hjn : Hid (RiseC (joinC a b ⟨kt, ki⟩) → NearC (joinC a b ⟨kt, ki⟩)) := fun h => join_near hG.out.1 hG.out.2 (kind_in hG.out.1 hK.out.1) hK.out.2 h
      have hjk : Hid ((joinC a b ⟨kt, ki⟩).kind = 1 ∨ (joinC a b ⟨kt, ki⟩).kind = 2) := by
        show _ ∨ _
        rw [joinC_kind (kind_in hG.out.1 hK.out.1)]
        exact kind_in hG.out.1 hK.out.1
      have hjz : Hid (sizeC (joinC a b ⟨kt, ki⟩) ≤ 1000000) := by
        show _ ≤ _
        rw [join_size hG.out.1 hG.out.2 (kind_in hG.out.1 hK.out.1) hK.out.2, hm'.out, hn'.out]
        omega
      cases q with
      | true =>
        clear ew
        go_wp2_with (first
          | (with_reducible refine wpList_load_at rfl 25 (.tmp 3) rfl Try.underlying25 rfl hs rfl ba.out.all ?_))
        refine (hza.out w4 hd.out).mono ?_
        rintro e w5 ⟨rfl, hb1⟩
        have ba := Lib.hid (ba.out.below hb1 (Nat.le_refl _))
        have bb := Lib.hid (bb.out.below hb1 (Nat.le_refl _))
        have bk := Lib.hid (bk.out.below hb1 (Nat.le_refl _))
        have oa := Lib.hid (oa.out.below hb1)
        have ob := Lib.hid (ob.out.below hb1)
        have ok := Lib.hid (ok.out.below hb1)
        have ra := Lib.hid (ra.out.below hb1)
        have rb := Lib.hid (rb.out.below hb1)
        have rk := Lib.hid (rk.out.below hb1)
        have hd := Lib.hid (below_step hb1 hd.out)
        clear hb1
        obtain ⟨L, hL⟩ : ∃ L, m + 1 = L := ⟨_, rfl⟩
        have hat : Hid (lvAt a b = L) := by
          have h1 := of_decide_eq_true hq'.out
          show lvAt a b = L
          unfold lvAt
          rw [hm'.out, hn'.out, if_pos (by omega), hL]
        rw [hL] at ew2
        have hL7 : L ≤ 7 := by omega
        clear hL
        clear hza
        go_wp2_with (first
          | (with_reducible refine wpList_load_at rfl 25 (.tmp 3) rfl Try.underlying25 rfl hs rfl ba.out.all ?_)
          | (with_reducible refine wpList_load_at rfl 25 (.tmp 4) rfl Try.underlying25 rfl hs2 rfl bb.out.all ?_)
          | (with_reducible refine wpList_load_at rfl 28 (.tmp 5) rfl Try.underlying28 rfl hs3 rfl bk.out.all ?_))
        refine (hjo.out w5 hd.out).mono ?_
        clear hjo ba bb bk
        rintro e w6 ⟨⟨k5, rq5, rn5, rc5, kq5, kn5, kc5⟩, rfl, hvj, hfv, hb1⟩
        simp only [CV.val]
        have hvj := Lib.hid hvj
        have hfv : Hid ((∀ a, rq5 = some a → w5.heap.size ≤ a.block ∧ a.block < w6.heap.size) ∧ (∀ a, kq5 = some a → w5.heap.size ≤ a.block ∧ a.block < w6.heap.size)) := hfv
        have hlt : Hid (w.heap.size + 5 < w5.heap.size) := rk.out.lt
        have oa := Lib.hid (oa.out.below hb1)
        have ob := Lib.hid (ob.out.below hb1)
        have ok := Lib.hid (ok.out.below hb1)
        have ra := Lib.hid (ra.out.below hb1)
        have rb := Lib.hid (rb.out.below hb1)
        have rk := Lib.hid (rk.out.below hb1)
        have hd := Lib.hid (below_step hb1 hd.out)
        clear hb1
        go_wp2_with fail
        refine (longer_any (L : Int) w6).mono ?_
        rintro e w7 ⟨rfl, hcg, hb1⟩
        have hz67 := Lib.hid hb1.size
        have hcg := Lib.hid hcg
        have oa := Lib.hid (oa.out.below hb1)
        have ob := Lib.hid (ob.out.below hb1)
        have ok := Lib.hid (ok.out.below hb1)
        have ra := Lib.hid (ra.out.below hb1)
        have rb := Lib.hid (rb.out.below hb1)
        have rk := Lib.hid (rk.out.below hb1)
        have hvj := Lib.hid (CV.On.below hvj.out hb1 (Nat.le_refl _))
        have hd := Lib.hid (below_step hb1 hd.out)
        clear hb1
        obtain ⟨w8, hw8⟩ : ∃ x, w7.alloc (.cells #[longV w6.heap.size, .func (.func 58) #[] #[], .func (.func 59) #[] #[]] 79) = x := ⟨_, rfl⟩
        have hbn := Lib.hid (one_box (xs := [longV w6.heap.size, .func (.func 58) #[] #[], .func (.func 59) #[] #[]]) hw8)
        have hb1 := hbn.out.1
        have hz68 : Hid (w6.heap.size ≤ w8.heap.size) := Nat.le_trans hz67.out hb1.size
        have hcg := Lib.hid (cell_keeps hb1 (Nat.le_refl _) hcg.out)
        have oa := Lib.hid (oa.out.below hb1)
        have ob := Lib.hid (ob.out.below hb1)
        have ok := Lib.hid (ok.out.below hb1)
        have ra := Lib.hid (ra.out.below hb1)
        have rb := Lib.hid (rb.out.below hb1)
        have rk := Lib.hid (rk.out.below hb1)
        have hvj := Lib.hid (CV.On.below hvj.out hb1 (Nat.le_refl _))
        have hd := Lib.hid (below_step hb1 hd.out)
        clear hb1
        have hco := Lib.hid (come3_any ⟨k5, rq5, rn5, rc5, kq5, kn5, kc5⟩ _ (L : Int) w6.heap.size w7.heap.size w8 hvj.out hjz.out hcg.out (hbn.out.2.1.cell 0 rfl) (hbn.out.2.1.cell 1 rfl) (hbn.out.2.1.cell 2 rfl))
        clear hbn hcg
        go_wp2_with fail
        refine hco.out.mono ?_
        clear hco hw8
        rintro e w9 ⟨⟨k6, rq6, rn6, rc6, kq6, kn6, kc6⟩, x, rfl, hx, hb1⟩
        have hz69 : Hid (w6.heap.size ≤ w9.heap.size) := Nat.le_trans hz68.out hb1.size
        simp only [CV.val]
        have oa := Lib.hid (oa.out.below hb1)
        have ob := Lib.hid (ob.out.below hb1)
        have ok := Lib.hid (ok.out.below hb1)
        have ra := Lib.hid (ra.out.below hb1)
        have rb := Lib.hid (rb.out.below hb1)
        have rk := Lib.hid (rk.out.below hb1)
        have hvj := Lib.hid (CV.On.below hvj.out hb1 (Nat.le_refl _))
        have hd := Lib.hid (below_step hb1 hd.out)
        clear hb1
        have hx' := Lib.hid hx
        clear hx
        obtain ⟨y0, hy0⟩ : ∃ x, w9.alloc (.cells #[.int .i64 0, .slice none 0 0, .slice none 0 0] 25) = x := ⟨_, rfl⟩
        have yr := Lib.hid (one_row (xs := [.int .i64 0, .slice none 0 0, .slice none 0 0]) hy0)
        have hb1 := yr.out.1
        have yj := Lib.hid yr.out.2.1
        have hl9 : Hid (w.heap.size + 5 < w9.heap.size) := rk.out.lt
        have hf9 : Hid ((∀ a, rq5 = some a → a.block ≠ w9.heap.size) ∧ (∀ a, kq5 = some a → a.block ≠ w9.heap.size)) := ⟨fun a e => by have h1 := (hfv.out.1 a e).2; have h2 := hz69.out; omega, fun a e => by have h1 := (hfv.out.2 a e).2; have h2 := hz69.out; omega⟩
        have oa := Lib.hid (oa.out.below hb1)
        have ob := Lib.hid (ob.out.below hb1)
        have ok := Lib.hid (ok.out.below hb1)
        have ra := Lib.hid (ra.out.below hb1)
        have rb := Lib.hid (rb.out.below hb1)
        have rk := Lib.hid (rk.out.below hb1)
        have hvj := Lib.hid (CV.On.below hvj.out hb1 (Nat.le_refl _))
        have hd := Lib.hid (below_step hb1 hd.out)
        clear hb1 yr
        rcases hx'.out with ⟨hP, he, rfl⟩ | ⟨hP, he, rfl⟩
        rotate_left
        · have hno : Hid (LevelR a b ⟨kt, ki⟩ zeroC zeroC zK 2) := lv_no hG.out fun h => hP ⟨by have := h.2.2.1; rw [hat.out] at this; omega, h.2.2.2.1, h.2.2.2.2⟩
          clear hx' hP he
          go_wp2_with (first
            | ((with_reducible refine wpList_store_at rfl 25 (.tmp 12) (.tmp 51) rfl (o := 0) (vs := [.int .i64 k6, .slice rq6 rn6 rc6, .slice kq6 kn6 kc6]) rfl rfl yj.out (sizeCont (.int .i64 k6) (.slice rq6 rn6 rc6) (.slice kq6 kn6 kc6)) (Nat.le_refl _) (cont_one _ _ _ _ _ _ _) ?_)
               intro y1 h9 hg9
               have yx : Hid (RowV 25 y1 w9.heap.size [.int .i64 k6, .slice rq6 rn6 rc6, .slice kq6 kn6 kc6]) := h9
               have oa := Lib.hid (RowV.gr oa.out hg9 (by have := hl9.out; omega))
               have ob := Lib.hid (RowV.gr ob.out hg9 (by have := hl9.out; omega))
               have ok := Lib.hid (RowV.gr ok.out hg9 (by have := hl9.out; omega))
               have ra := Lib.hid (RowV.gr ra.out hg9 (by have := hl9.out; omega))
               have rb := Lib.hid (RowV.gr rb.out hg9 (by have := hl9.out; omega))
               have rk := Lib.hid (RowV.gr rk.out hg9 (by have := hl9.out; omega))
               have hvj := Lib.hid (ContOn.gr hvj.out hg9 hf9.out.1 hf9.out.2)
               have hd := Lib.hid (Gr.below hg9 hd.out (by have := hl9.out; omega))
               clear h9 hg9 yj)
            | ((with_reducible refine wpList_store_at rfl 25 (.tmp 6) (.tmp 55) rfl (o := 0) (vs := [.int .i64 0, .slice none 0 0, .slice none 0 0]) rfl rfl ra.out hz (Nat.le_refl _) (cont_one _ _ _ _ _ _ _) ?_)
               intro wd1 h9 hg9
               have ra := Lib.hid h9
               have rb := Lib.hid (RowV.gr rb.out hg9 (by omega))
               have rk := Lib.hid (RowV.gr rk.out hg9 (by omega))
               have hd := Lib.hid (Gr.below hg9 hd.out (by omega))
               clear h9 hg9)
            | ((with_reducible refine wpList_store_at rfl 25 (.tmp 7) (.tmp 56) rfl (o := 0) (vs := [.int .i64 0, .slice none 0 0, .slice none 0 0]) rfl rfl rb.out hz (Nat.le_refl _) (cont_one _ _ _ _ _ _ _) ?_)
               intro wd2 h9 hg9
               have rb := Lib.hid h9
               have ra := Lib.hid (RowV.gr ra.out hg9 (by omega))
               have rk := Lib.hid (RowV.gr rk.out hg9 (by omega))
               have hd := Lib.hid (Gr.below hg9 hd.out (by omega))
               clear h9 hg9)
            | ((with_reducible refine wpList_store_at rfl 28 (.tmp 8) (.tmp 57) rfl (o := 0) (vs := [.int .i64 0, .int .u16 0]) rfl rfl rk.out hzk (Nat.le_refl _) (key_one _ _) ?_)
               intro wd3 h9 hg9
               have rk := Lib.hid h9
               have ra := Lib.hid (RowV.gr ra.out hg9 (by omega))
               have rb := Lib.hid (RowV.gr rb.out hg9 (by omega))
               have hd := Lib.hid (Gr.below hg9 hd.out (by omega))
               clear h9 hg9))
          have s0 : RowV 25 wd3 (w.heap.size + 3) [.int .i64 0, .slice none 0 0, .slice none 0 0] := ra.out
          have m00 := s0.cell 0
          have m01 := s0.cell 1
          have m02 := s0.cell 2
          have s1 : RowV 25 wd3 (w.heap.size + 4) [.int .i64 0, .slice none 0 0, .slice none 0 0] := rb.out
          have m10 := s1.cell 0
          have m11 := s1.cell 1
          have m12 := s1.cell 2
          have s2 : RowV 28 wd3 (w.heap.size + 5) [.int .i64 0, .int .u16 0] := rk.out
          have m20 := s2.cell 0
          have m21 := s2.cell 1
          simp only [List.getElem?_cons_zero, List.getElem?_cons_succ] at m00 m01 m02 m10 m11 m12 m20 m21
          clear s0 s1 s2
          refine bodyPost_ret (v := .tuple #[CV.val zV, CV.val zV, .agg #[.int .i64 zK.t, .int .u16 zK.id], .int .i64 2]) (by simp [results, Try.results28, go_sem, m00, m01, m02, m10, m11, m12, m20, m21, zV, zK]) rfl ?_
          exact ⟨zV, zV, zeroC, zeroC, zK, 2, rfl, hno.out, zV_on _, zV_on _, hd.out⟩
        · have hP := Lib.hid hP
          have he := Lib.hid he
          have hs6 := sizeCont (.int .i64 k6) (.slice rq6 rn6 rc6) (.slice kq6 kn6 kc6)
          clear hx'
          go_wp2_with (first
            | ((with_reducible refine wpList_store_at rfl 25 (.tmp 12) (.tmp 51) rfl (o := 0) (vs := [.int .i64 k6, .slice rq6 rn6 rc6, .slice kq6 kn6 kc6]) rfl rfl yj.out (sizeCont (.int .i64 k6) (.slice rq6 rn6 rc6) (.slice kq6 kn6 kc6)) (Nat.le_refl _) (cont_one _ _ _ _ _ _ _) ?_)
               intro y1 h9 hg9
               have yx : Hid (RowV 25 y1 w9.heap.size [.int .i64 k6, .slice rq6 rn6 rc6, .slice kq6 kn6 kc6]) := h9
               have oa := Lib.hid (RowV.gr oa.out hg9 (by have := hl9.out; omega))
               have ob := Lib.hid (RowV.gr ob.out hg9 (by have := hl9.out; omega))
               have ok := Lib.hid (RowV.gr ok.out hg9 (by have := hl9.out; omega))
               have ra := Lib.hid (RowV.gr ra.out hg9 (by have := hl9.out; omega))
               have rb := Lib.hid (RowV.gr rb.out hg9 (by have := hl9.out; omega))
               have rk := Lib.hid (RowV.gr rk.out hg9 (by have := hl9.out; omega))
               have hvj := Lib.hid (ContOn.gr hvj.out hg9 hf9.out.1 hf9.out.2)
               have hd := Lib.hid (Gr.below hg9 hd.out (by have := hl9.out; omega))
               have bx := Lib.hid yx.out.boxed
               clear h9 hg9 yj)
            | (with_reducible refine wpList_load_at rfl 25 (.tmp 12) rfl Try.underlying25 rfl hs6 rfl bx.out.all ?_))
          obtain ⟨hlen, hri, hap⟩ := hP.out
          have hJr : Hid (LvOk a b ⟨kt, ki⟩) := ⟨hK.out, by rw [hm'.out, hn'.out]; exact hne.out, by rw [hat.out]; omega, hri, hap⟩
          obtain ⟨rfl, rfl, rfl, rfl, rfl, rfl, rfl⟩ : k6 = k5 ∧ rq6 = rq5 ∧ rn6 = rn5 ∧ rc6 = rc5 ∧ kq6 = kq5 ∧ kn6 = kn5 ∧ kc6 = kc5 := by have h := he.out; simp only [CV.mk.injEq] at h; exact h
          have hnr := hjn.out hri
          have hcu := Lib.hid (fun y (hu : Below y1.heap.size y1 y) => cutJ_any ⟨k6, rq6, rn6, rc6, kq6, kn6, kc6⟩ _ L y (CV.On.below hvj.out hu (Nat.le_refl _)) hjk.out (fun e => (hnr.r e).2) (fun e => (hnr.k e).2.2) hjz.out (by omega))
          clear hlen hri hap hnr hP he yx
          refine (hcu.out y1 (Below.refl _ _)).mono ?_
          clear hcu bx
          rintro e z1 ⟨⟨ka, rqa, rna, rca, kqa, kna, kca⟩, ⟨kb, rqb, rnb, rcb, kqb, knb, kcb⟩, rfl, hA, hB, hfa, hfb, hb1⟩
          obtain ⟨⟨st, si⟩, hcs⟩ : ∃ s, cutS (joinC a b ⟨kt, ki⟩) L = s := ⟨_, rfl⟩
          have hcs := Lib.hid hcs
          rw [hcs.out]
          simp only [CV.val]
          have hly : w.heap.size + 5 < y1.heap.size := rk.out.lt
          have hfr : Hid (((∀ a, rqa = some a → ∀ j, j ≤ 5 → a.block ≠ w.heap.size + j) ∧ (∀ a, kqa = some a → ∀ j, j ≤ 5 → a.block ≠ w.heap.size + j)) ∧ ((∀ a, rqb = some a → ∀ j, j ≤ 5 → a.block ≠ w.heap.size + j) ∧ (∀ a, kqb = some a → ∀ j, j ≤ 5 → a.block ≠ w.heap.size + j))) :=
            ⟨⟨fun a e j hj => (by have := (hfa.1 a e).1; omega), fun a e j hj => (by have := (hfa.2 a e).1; omega)⟩, ⟨fun a e j hj => (by have := (hfb.1 a e).1; omega), fun a e j hj => (by have := (hfb.2 a e).1; omega)⟩⟩
          have hA := Lib.hid hA
          have hB := Lib.hid hB
          have xsA := sizeCont (.int .i64 ka) (.slice rqa rna rca) (.slice kqa kna kca)
          have xsB := sizeCont (.int .i64 kb) (.slice rqb rnb rcb) (.slice kqb knb kcb)
          have xsK := sizeKey st si
          have oa := Lib.hid (oa.out.below hb1)
          have ob := Lib.hid (ob.out.below hb1)
          have ok := Lib.hid (ok.out.below hb1)
          have ra := Lib.hid (ra.out.below hb1)
          have rb := Lib.hid (rb.out.below hb1)
          have rk := Lib.hid (rk.out.below hb1)
          have hd := Lib.hid (below_step hb1 hd.out)
          clear hb1 hfa hfb hly hvj
          go_wp2_with (first
            | ((with_reducible refine wpList_store_at rfl 25 (.tmp 3) (.tmp 63) rfl (o := 0) (vs := [.int .i64 ka, .slice rqa rna rca, .slice kqa kna kca]) rfl rfl oa.out xsA (Nat.le_refl _) (cont_one _ _ _ _ _ _ _) ?_)
               intro z2 h9 hg9
               have oa : Hid (RowV 25 z2 _ [.int .i64 ka, .slice rqa rna rca, .slice kqa kna kca]) := h9
               have ob := Lib.hid (RowV.gr ob.out hg9 (by omega))
               have ok := Lib.hid (RowV.gr ok.out hg9 (by omega))
               have ra := Lib.hid (RowV.gr ra.out hg9 (by omega))
               have rb := Lib.hid (RowV.gr rb.out hg9 (by omega))
               have rk := Lib.hid (RowV.gr rk.out hg9 (by omega))
               have hA := Lib.hid (ContOn.gr hA.out hg9 (fun a e => (hfr.out.1.1 a e 0 (by decide))) (fun a e => (hfr.out.1.2 a e 0 (by decide))))
               have hB := Lib.hid (ContOn.gr hB.out hg9 (fun a e => (hfr.out.2.1 a e 0 (by decide))) (fun a e => (hfr.out.2.2 a e 0 (by decide))))
               have hd := Lib.hid (Gr.below hg9 hd.out (by omega))
               clear h9 hg9)
            | ((with_reducible refine wpList_store_at rfl 25 (.tmp 4) (.tmp 64) rfl (o := 0) (vs := [.int .i64 kb, .slice rqb rnb rcb, .slice kqb knb kcb]) rfl rfl ob.out xsB (Nat.le_refl _) (cont_one _ _ _ _ _ _ _) ?_)
               intro z3 h9 hg9
               have ob : Hid (RowV 25 z3 _ [.int .i64 kb, .slice rqb rnb rcb, .slice kqb knb kcb]) := h9
               have oa := Lib.hid (RowV.gr oa.out hg9 (by omega))
               have ok := Lib.hid (RowV.gr ok.out hg9 (by omega))
               have ra := Lib.hid (RowV.gr ra.out hg9 (by omega))
               have rb := Lib.hid (RowV.gr rb.out hg9 (by omega))
               have rk := Lib.hid (RowV.gr rk.out hg9 (by omega))
               have hA := Lib.hid (ContOn.gr hA.out hg9 (fun a e => (hfr.out.1.1 a e 1 (by decide))) (fun a e => (hfr.out.1.2 a e 1 (by decide))))
               have hB := Lib.hid (ContOn.gr hB.out hg9 (fun a e => (hfr.out.2.1 a e 1 (by decide))) (fun a e => (hfr.out.2.2 a e 1 (by decide))))
               have hd := Lib.hid (Gr.below hg9 hd.out (by omega))
               clear h9 hg9)
            | ((with_reducible refine wpList_store_at rfl 28 (.tmp 5) (.tmp 65) rfl (o := 0) (vs := [.int .i64 st, .int .u16 si]) rfl rfl ok.out xsK (Nat.le_refl _) (key_one _ _) ?_)
               intro z4 h9 hg9
               have ok : Hid (RowV 28 z4 _ [.int .i64 st, .int .u16 si]) := h9
               have oa := Lib.hid (RowV.gr oa.out hg9 (by omega))
               have ob := Lib.hid (RowV.gr ob.out hg9 (by omega))
               have ra := Lib.hid (RowV.gr ra.out hg9 (by omega))
               have rb := Lib.hid (RowV.gr rb.out hg9 (by omega))
               have rk := Lib.hid (RowV.gr rk.out hg9 (by omega))
               have hA := Lib.hid (ContOn.gr hA.out hg9 (fun a e => (hfr.out.1.1 a e 2 (by decide))) (fun a e => (hfr.out.1.2 a e 2 (by decide))))
               have hB := Lib.hid (ContOn.gr hB.out hg9 (fun a e => (hfr.out.2.1 a e 2 (by decide))) (fun a e => (hfr.out.2.2 a e 2 (by decide))))
               have hd := Lib.hid (Gr.below hg9 hd.out (by omega))
               clear h9 hg9))
          have b1 := Lib.hid oa.out.boxed
          have b2 := Lib.hid ob.out.boxed
          have b3 := Lib.hid ok.out.boxed
          clear oa ob ok
          refine wp_region_held (S := fun u => Boxed u w.heap.size [.int .i64 ka, .slice rqa rna rca, .slice kqa kna kca] ∧ Boxed u (w.heap.size + 1) [.int .i64 kb, .slice rqb rnb rcb, .slice kqb knb kcb] ∧ Boxed u (w.heap.size + 2) [.int .i64 st, .int .u16 si]) (by kernel_rfl) ?_
          change wpAnyH _ _ _ _ _ _ _ _ (World.drew z4)
          have hS0 : Hid (Boxed z4.drew w.heap.size [.int .i64 ka, .slice rqa rna rca, .slice kqa kna kca] ∧ Boxed z4.drew (w.heap.size + 1) [.int .i64 kb, .slice rqb rnb rcb, .slice kqb knb kcb] ∧ Boxed z4.drew (w.heap.size + 2) [.int .i64 st, .int .u16 si]) := ⟨b1.out.below (below_drew _) (Nat.le_refl _), b2.out.below (below_drew _) (Nat.le_refl _), b3.out.below (below_drew _) (Nat.le_refl _)⟩
          have ra := Lib.hid (ra.out.below (below_drew z4))
          have rb := Lib.hid (rb.out.below (below_drew z4))
          have rk := Lib.hid (rk.out.below (below_drew z4))
          have hA := Lib.hid (hA.out.below (below_drew z4) (Nat.le_refl _))
          have hB := Lib.hid (hB.out.below (below_drew z4) (Nat.le_refl _))
          have hd := Lib.hid (below_step (below_drew z4) hd.out)
          clear b1 b2 b3
          generalize World.drew z4 = y0' at hS0 ra rb rk hA hB hd ⊢
          refine held_tk (i := 0) (dst := some 66) rfl rfl (y_load_agg 25 (.tmp 3) rfl rfl rfl (fun u hu => run_loadVar_at Try.underlying25 rfl (sizeCont (.int .i64 ka) (.slice rqa rna rca) (.slice kqa kna kca)) _ hu.1.all)) hS0.out ?_; go_frame
          refine held_tk (i := 1) (dst := some 67) rfl rfl (y_load_agg 25 (.tmp 4) rfl rfl rfl (fun u hu => run_loadVar_at Try.underlying25 rfl (sizeCont (.int .i64 kb) (.slice rqb rnb rcb) (.slice kqb knb kcb)) _ hu.2.1.all)) hS0.out ?_; go_frame
          refine held_tk (i := 2) (dst := some 68) rfl rfl (y_load_agg 28 (.tmp 5) rfl rfl rfl (fun u hu => run_loadVar_at Try.underlying28 rfl (sizeKey st si) _ hu.2.2.all)) hS0.out ?_; go_frame
          obtain ⟨y1', hst, h9, hg9⟩ := run_storeVar_at (P := Try.prog) (ty := 25) (o := 0) (vs := [.int .i64 ka, .slice rqa rna rca, .slice kqa kna kca]) ra.out (sizeCont _ _ _) (Nat.le_refl _) (cont_one _ _ _ _ _ _ _)
          replace ra : Hid (RowV 25 y1' (w.heap.size + 3) [.int .i64 ka, .slice rqa rna rca, .slice kqa kna kca]) := h9
          replace rb := Lib.hid (RowV.gr rb.out hg9 (by omega))
          replace rk := Lib.hid (RowV.gr rk.out hg9 (by omega))
          replace hA := Lib.hid (ContOn.gr hA.out hg9 (fun a e => (hfr.out.1.1 a e 3 (by decide))) (fun a e => (hfr.out.1.2 a e 3 (by decide))))
          replace hB := Lib.hid (ContOn.gr hB.out hg9 (fun a e => (hfr.out.2.1 a e 3 (by decide))) (fun a e => (hfr.out.2.2 a e 3 (by decide))))
          replace hS0 := Lib.hid (And.intro (hS0.out.1.gr hg9 (by omega)) (And.intro (hS0.out.2.1.gr hg9 (by omega)) (hS0.out.2.2.gr hg9 (by omega))))
          replace hd := Lib.hid (Gr.below hg9 hd.out (by omega))
          clear h9 hg9
          refine held_skip (i := 3) (dst := none) (w' := y1') rfl rfl (by kernel_rfl) rfl (run_store_op (x := .tmp 6) (y := .tmp 66) rfl rfl rfl hst) hS0.out ?_; go_frame
          clear hst
          obtain ⟨y2', hst, h9, hg9⟩ := run_storeVar_at (P := Try.prog) (ty := 25) (o := 0) (vs := [.int .i64 kb, .slice rqb rnb rcb, .slice kqb knb kcb]) rb.out (sizeCont _ _ _) (Nat.le_refl _) (cont_one _ _ _ _ _ _ _)
          replace rb : Hid (RowV 25 y2' (w.heap.size + 4) [.int .i64 kb, .slice rqb rnb rcb, .slice kqb knb kcb]) := h9
          replace ra := Lib.hid (RowV.gr ra.out hg9 (by omega))
          replace rk := Lib.hid (RowV.gr rk.out hg9 (by omega))
          replace hA := Lib.hid (ContOn.gr hA.out hg9 (fun a e => (hfr.out.1.1 a e 4 (by decide))) (fun a e => (hfr.out.1.2 a e 4 (by decide))))
          replace hB := Lib.hid (ContOn.gr hB.out hg9 (fun a e => (hfr.out.2.1 a e 4 (by decide))) (fun a e => (hfr.out.2.2 a e 4 (by decide))))
          replace hS0 := Lib.hid (And.intro (hS0.out.1.gr hg9 (by omega)) (And.intro (hS0.out.2.1.gr hg9 (by omega)) (hS0.out.2.2.gr hg9 (by omega))))
          replace hd := Lib.hid (Gr.below hg9 hd.out (by omega))
          clear h9 hg9
          refine held_skip (i := 4) (dst := none) (w' := y2') rfl rfl (by kernel_rfl) rfl (run_store_op (x := .tmp 7) (y := .tmp 67) rfl rfl rfl hst) hS0.out ?_; go_frame
          clear hst
          obtain ⟨y3', hst, h9, hg9⟩ := run_storeVar_at (P := Try.prog) (ty := 28) (o := 0) (vs := [.int .i64 st, .int .u16 si]) rk.out (sizeKey _ _) (Nat.le_refl _) (key_one _ _)
          replace rk : Hid (RowV 28 y3' (w.heap.size + 5) [.int .i64 st, .int .u16 si]) := h9
          replace ra := Lib.hid (RowV.gr ra.out hg9 (by omega))
          replace rb := Lib.hid (RowV.gr rb.out hg9 (by omega))
          replace hA := Lib.hid (ContOn.gr hA.out hg9 (fun a e => (hfr.out.1.1 a e 5 (by decide))) (fun a e => (hfr.out.1.2 a e 5 (by decide))))
          replace hB := Lib.hid (ContOn.gr hB.out hg9 (fun a e => (hfr.out.2.1 a e 5 (by decide))) (fun a e => (hfr.out.2.2 a e 5 (by decide))))
          replace hS0 := Lib.hid (And.intro (hS0.out.1.gr hg9 (by omega)) (And.intro (hS0.out.2.1.gr hg9 (by omega)) (hS0.out.2.2.gr hg9 (by omega))))
          replace hd := Lib.hid (Gr.below hg9 hd.out (by omega))
          clear h9 hg9
          refine held_skip (i := 5) (dst := none) (w' := y3') rfl rfl (by kernel_rfl) rfl (run_store_op (x := .tmp 8) (y := .tmp 68) rfl rfl rfl hst) hS0.out ?_; go_frame
          clear hst
          refine held_tk (i := 6) (dst := some 9) (v := .int .i64 0) rfl rfl (.inl ⟨rfl, fun u hu => by go_simp⟩) hS0.out ?_; go_frame
          refine wpAnyH_done (by kernel_rfl) ?_ _
          have s0 : RowV 25 y3' (w.heap.size + 3) [.int .i64 ka, .slice rqa rna rca, .slice kqa kna kca] := ra.out
          have m00 := s0.cell 0
          have m01 := s0.cell 1
          have m02 := s0.cell 2
          have s1 : RowV 25 y3' (w.heap.size + 4) [.int .i64 kb, .slice rqb rnb rcb, .slice kqb knb kcb] := rb.out
          have m10 := s1.cell 0
          have m11 := s1.cell 1
          have m12 := s1.cell 2
          have s2 : RowV 28 y3' (w.heap.size + 5) [.int .i64 st, .int .u16 si] := rk.out
          have m20 := s2.cell 0
          have m21 := s2.cell 1
          simp only [List.getElem?_cons_zero, List.getElem?_cons_succ] at m00 m01 m02 m10 m11 m12 m20 m21
          clear s0 s1 s2
          go_wp2
          refine bodyPost_ret (v := .tuple #[.agg #[.int .i64 ka, .slice rqa rna rca, .slice kqa kna kca], .agg #[.int .i64 kb, .slice rqb rnb rcb, .slice kqb knb kcb], .agg #[.int .i64 st, .int .u16 si], .int .i64 0]) (by simp [results, Try.results28, go_sem, m00, m01, m02, m10, m11, m12, m20, m21]) rfl ?_
          exact ⟨⟨ka, rqa, rna, rca, kqa, kna, kca⟩, ⟨kb, rqb, rnb, rcb, kqb, knb, kcb⟩, cutA (joinC a b ⟨kt, ki⟩) L, cutB (joinC a b ⟨kt, ki⟩) L, ⟨st, si⟩, 0, rfl, .inr ⟨hG.out, .inr ⟨hJr.out, rfl, by rw [hat.out], by rw [hat.out], by rw [hat.out]; exact hcs.out.symm⟩⟩, hA.out, hB.out, hd.out⟩
      | false =>
        clear ew2
        obtain ⟨L, hL⟩ : ∃ L, m - 1 = L := ⟨_, rfl⟩
        have h1 := of_decide_eq_false hq'.out
        have h2 := hne.out
        have hat : Hid (lvAt a b = L) := by
          show lvAt a b = L
          unfold lvAt
          rw [hm'.out, hn'.out, if_neg (by omega), hL]
        have ew3 : (m : Int) - 1 = (L : Int) := by omega
        rw [ew3]
        have hL7 : L ≤ 7 := by omega
        clear hL h1 h2 ew ew3
        clear hza
        go_wp2_with (first
          | (with_reducible refine wpList_load_at rfl 25 (.tmp 3) rfl Try.underlying25 rfl hs rfl ba.out.all ?_)
          | (with_reducible refine wpList_load_at rfl 25 (.tmp 4) rfl Try.underlying25 rfl hs2 rfl bb.out.all ?_)
          | (with_reducible refine wpList_load_at rfl 28 (.tmp 5) rfl Try.underlying28 rfl hs3 rfl bk.out.all ?_))
        refine (hjo.out w4 hd.out).mono ?_
        clear hjo ba bb bk
        rintro e w6 ⟨⟨k5, rq5, rn5, rc5, kq5, kn5, kc5⟩, rfl, hvj, hfv, hb1⟩
        simp only [CV.val]
        have hvj := Lib.hid hvj
        have hfv : Hid ((∀ a, rq5 = some a → w4.heap.size ≤ a.block ∧ a.block < w6.heap.size) ∧ (∀ a, kq5 = some a → w4.heap.size ≤ a.block ∧ a.block < w6.heap.size)) := hfv
        have hlt : Hid (w.heap.size + 5 < w4.heap.size) := rk.out.lt
        have oa := Lib.hid (oa.out.below hb1)
        have ob := Lib.hid (ob.out.below hb1)
        have ok := Lib.hid (ok.out.below hb1)
        have ra := Lib.hid (ra.out.below hb1)
        have rb := Lib.hid (rb.out.below hb1)
        have rk := Lib.hid (rk.out.below hb1)
        have hd := Lib.hid (below_step hb1 hd.out)
        clear hb1
        go_wp2_with fail
        refine (longer_any (L : Int) w6).mono ?_
        rintro e w7 ⟨rfl, hcg, hb1⟩
        have hz67 := Lib.hid hb1.size
        have hcg := Lib.hid hcg
        have oa := Lib.hid (oa.out.below hb1)
        have ob := Lib.hid (ob.out.below hb1)
        have ok := Lib.hid (ok.out.below hb1)
        have ra := Lib.hid (ra.out.below hb1)
        have rb := Lib.hid (rb.out.below hb1)
        have rk := Lib.hid (rk.out.below hb1)
        have hvj := Lib.hid (CV.On.below hvj.out hb1 (Nat.le_refl _))
        have hd := Lib.hid (below_step hb1 hd.out)
        clear hb1
        obtain ⟨w8, hw8⟩ : ∃ x, w7.alloc (.cells #[longV w6.heap.size, .func (.func 58) #[] #[], .func (.func 59) #[] #[]] 79) = x := ⟨_, rfl⟩
        have hbn := Lib.hid (one_box (xs := [longV w6.heap.size, .func (.func 58) #[] #[], .func (.func 59) #[] #[]]) hw8)
        have hb1 := hbn.out.1
        have hz68 : Hid (w6.heap.size ≤ w8.heap.size) := Nat.le_trans hz67.out hb1.size
        have hcg := Lib.hid (cell_keeps hb1 (Nat.le_refl _) hcg.out)
        have oa := Lib.hid (oa.out.below hb1)
        have ob := Lib.hid (ob.out.below hb1)
        have ok := Lib.hid (ok.out.below hb1)
        have ra := Lib.hid (ra.out.below hb1)
        have rb := Lib.hid (rb.out.below hb1)
        have rk := Lib.hid (rk.out.below hb1)
        have hvj := Lib.hid (CV.On.below hvj.out hb1 (Nat.le_refl _))
        have hd := Lib.hid (below_step hb1 hd.out)
        clear hb1
        have hco := Lib.hid (come3_any ⟨k5, rq5, rn5, rc5, kq5, kn5, kc5⟩ _ (L : Int) w6.heap.size w7.heap.size w8 hvj.out hjz.out hcg.out (hbn.out.2.1.cell 0 rfl) (hbn.out.2.1.cell 1 rfl) (hbn.out.2.1.cell 2 rfl))
        clear hbn hcg
        go_wp2_with fail
        refine hco.out.mono ?_
        clear hco hw8
        rintro e w9 ⟨⟨k6, rq6, rn6, rc6, kq6, kn6, kc6⟩, x, rfl, hx, hb1⟩
        have hz69 : Hid (w6.heap.size ≤ w9.heap.size) := Nat.le_trans hz68.out hb1.size
        simp only [CV.val]
        have oa := Lib.hid (oa.out.below hb1)
        have ob := Lib.hid (ob.out.below hb1)
        have ok := Lib.hid (ok.out.below hb1)
        have ra := Lib.hid (ra.out.below hb1)
        have rb := Lib.hid (rb.out.below hb1)
        have rk := Lib.hid (rk.out.below hb1)
        have hvj := Lib.hid (CV.On.below hvj.out hb1 (Nat.le_refl _))
        have hd := Lib.hid (below_step hb1 hd.out)
        clear hb1
        have hx' := Lib.hid hx
        clear hx
        obtain ⟨y0, hy0⟩ : ∃ x, w9.alloc (.cells #[.int .i64 0, .slice none 0 0, .slice none 0 0] 25) = x := ⟨_, rfl⟩
        have yr := Lib.hid (one_row (xs := [.int .i64 0, .slice none 0 0, .slice none 0 0]) hy0)
        have hb1 := yr.out.1
        have yj := Lib.hid yr.out.2.1
        have hl9 : Hid (w.heap.size + 5 < w9.heap.size) := rk.out.lt
        have hf9 : Hid ((∀ a, rq5 = some a → a.block ≠ w9.heap.size) ∧ (∀ a, kq5 = some a → a.block ≠ w9.heap.size)) := ⟨fun a e => by have h1 := (hfv.out.1 a e).2; have h2 := hz69.out; omega, fun a e => by have h1 := (hfv.out.2 a e).2; have h2 := hz69.out; omega⟩
        have oa := Lib.hid (oa.out.below hb1)
        have ob := Lib.hid (ob.out.below hb1)
        have ok := Lib.hid (ok.out.below hb1)
        have ra := Lib.hid (ra.out.below hb1)
        have rb := Lib.hid (rb.out.below hb1)
        have rk := Lib.hid (rk.out.below hb1)
        have hvj := Lib.hid (CV.On.below hvj.out hb1 (Nat.le_refl _))
        have hd := Lib.hid (below_step hb1 hd.out)
        clear hb1 yr
        rcases hx'.out with ⟨hP, he, rfl⟩ | ⟨hP, he, rfl⟩
        rotate_left
        · have hno : Hid (LevelR a b ⟨kt, ki⟩ zeroC zeroC zK 2) := lv_no hG.out fun h => hP ⟨by have := h.2.2.1; rw [hat.out] at this; omega, h.2.2.2.1, h.2.2.2.2⟩
          clear hx' hP he
          go_wp2_with (first
            | ((with_reducible refine wpList_store_at rfl 25 (.tmp 12) (.tmp 51) rfl (o := 0) (vs := [.int .i64 k6, .slice rq6 rn6 rc6, .slice kq6 kn6 kc6]) rfl rfl yj.out (sizeCont (.int .i64 k6) (.slice rq6 rn6 rc6) (.slice kq6 kn6 kc6)) (Nat.le_refl _) (cont_one _ _ _ _ _ _ _) ?_)
               intro y1 h9 hg9
               have yx : Hid (RowV 25 y1 w9.heap.size [.int .i64 k6, .slice rq6 rn6 rc6, .slice kq6 kn6 kc6]) := h9
               have oa := Lib.hid (RowV.gr oa.out hg9 (by have := hl9.out; omega))
               have ob := Lib.hid (RowV.gr ob.out hg9 (by have := hl9.out; omega))
               have ok := Lib.hid (RowV.gr ok.out hg9 (by have := hl9.out; omega))
               have ra := Lib.hid (RowV.gr ra.out hg9 (by have := hl9.out; omega))
               have rb := Lib.hid (RowV.gr rb.out hg9 (by have := hl9.out; omega))
               have rk := Lib.hid (RowV.gr rk.out hg9 (by have := hl9.out; omega))
               have hvj := Lib.hid (ContOn.gr hvj.out hg9 hf9.out.1 hf9.out.2)
               have hd := Lib.hid (Gr.below hg9 hd.out (by have := hl9.out; omega))
               clear h9 hg9 yj)
            | ((with_reducible refine wpList_store_at rfl 25 (.tmp 6) (.tmp 55) rfl (o := 0) (vs := [.int .i64 0, .slice none 0 0, .slice none 0 0]) rfl rfl ra.out hz (Nat.le_refl _) (cont_one _ _ _ _ _ _ _) ?_)
               intro wd1 h9 hg9
               have ra := Lib.hid h9
               have rb := Lib.hid (RowV.gr rb.out hg9 (by omega))
               have rk := Lib.hid (RowV.gr rk.out hg9 (by omega))
               have hd := Lib.hid (Gr.below hg9 hd.out (by omega))
               clear h9 hg9)
            | ((with_reducible refine wpList_store_at rfl 25 (.tmp 7) (.tmp 56) rfl (o := 0) (vs := [.int .i64 0, .slice none 0 0, .slice none 0 0]) rfl rfl rb.out hz (Nat.le_refl _) (cont_one _ _ _ _ _ _ _) ?_)
               intro wd2 h9 hg9
               have rb := Lib.hid h9
               have ra := Lib.hid (RowV.gr ra.out hg9 (by omega))
               have rk := Lib.hid (RowV.gr rk.out hg9 (by omega))
               have hd := Lib.hid (Gr.below hg9 hd.out (by omega))
               clear h9 hg9)
            | ((with_reducible refine wpList_store_at rfl 28 (.tmp 8) (.tmp 57) rfl (o := 0) (vs := [.int .i64 0, .int .u16 0]) rfl rfl rk.out hzk (Nat.le_refl _) (key_one _ _) ?_)
               intro wd3 h9 hg9
               have rk := Lib.hid h9
               have ra := Lib.hid (RowV.gr ra.out hg9 (by omega))
               have rb := Lib.hid (RowV.gr rb.out hg9 (by omega))
               have hd := Lib.hid (Gr.below hg9 hd.out (by omega))
               clear h9 hg9))
          have s0 : RowV 25 wd3 (w.heap.size + 3) [.int .i64 0, .slice none 0 0, .slice none 0 0] := ra.out
          have m00 := s0.cell 0
          have m01 := s0.cell 1
          have m02 := s0.cell 2
          have s1 : RowV 25 wd3 (w.heap.size + 4) [.int .i64 0, .slice none 0 0, .slice none 0 0] := rb.out
          have m10 := s1.cell 0
          have m11 := s1.cell 1
          have m12 := s1.cell 2
          have s2 : RowV 28 wd3 (w.heap.size + 5) [.int .i64 0, .int .u16 0] := rk.out
          have m20 := s2.cell 0
          have m21 := s2.cell 1
          simp only [List.getElem?_cons_zero, List.getElem?_cons_succ] at m00 m01 m02 m10 m11 m12 m20 m21
          clear s0 s1 s2
          refine bodyPost_ret (v := .tuple #[CV.val zV, CV.val zV, .agg #[.int .i64 zK.t, .int .u16 zK.id], .int .i64 2]) (by simp [results, Try.results28, go_sem, m00, m01, m02, m10, m11, m12, m20, m21, zV, zK]) rfl ?_
          exact ⟨zV, zV, zeroC, zeroC, zK, 2, rfl, hno.out, zV_on _, zV_on _, hd.out⟩
        · have hP := Lib.hid hP
          have he := Lib.hid he
          have hs6 := sizeCont (.int .i64 k6) (.slice rq6 rn6 rc6) (.slice kq6 kn6 kc6)
          clear hx'
          go_wp2_with (first
            | ((with_reducible refine wpList_store_at rfl 25 (.tmp 12) (.tmp 51) rfl (o := 0) (vs := [.int .i64 k6, .slice rq6 rn6 rc6, .slice kq6 kn6 kc6]) rfl rfl yj.out (sizeCont (.int .i64 k6) (.slice rq6 rn6 rc6) (.slice kq6 kn6 kc6)) (Nat.le_refl _) (cont_one _ _ _ _ _ _ _) ?_)
               intro y1 h9 hg9
               have yx : Hid (RowV 25 y1 w9.heap.size [.int .i64 k6, .slice rq6 rn6 rc6, .slice kq6 kn6 kc6]) := h9
               have oa := Lib.hid (RowV.gr oa.out hg9 (by have := hl9.out; omega))
               have ob := Lib.hid (RowV.gr ob.out hg9 (by have := hl9.out; omega))
               have ok := Lib.hid (RowV.gr ok.out hg9 (by have := hl9.out; omega))
               have ra := Lib.hid (RowV.gr ra.out hg9 (by have := hl9.out; omega))
               have rb := Lib.hid (RowV.gr rb.out hg9 (by have := hl9.out; omega))
               have rk := Lib.hid (RowV.gr rk.out hg9 (by have := hl9.out; omega))
               have hvj := Lib.hid (ContOn.gr hvj.out hg9 hf9.out.1 hf9.out.2)
               have hd := Lib.hid (Gr.below hg9 hd.out (by have := hl9.out; omega))
               have bx := Lib.hid yx.out.boxed
               clear h9 hg9 yj)
            | (with_reducible refine wpList_load_at rfl 25 (.tmp 12) rfl Try.underlying25 rfl hs6 rfl bx.out.all ?_))
          obtain ⟨hlen, hri, hap⟩ := hP.out
          have hJr : Hid (LvOk a b ⟨kt, ki⟩) := ⟨hK.out, by rw [hm'.out, hn'.out]; exact hne.out, by rw [hat.out]; omega, hri, hap⟩
          obtain ⟨rfl, rfl, rfl, rfl, rfl, rfl, rfl⟩ : k6 = k5 ∧ rq6 = rq5 ∧ rn6 = rn5 ∧ rc6 = rc5 ∧ kq6 = kq5 ∧ kn6 = kn5 ∧ kc6 = kc5 := by have h := he.out; simp only [CV.mk.injEq] at h; exact h
          have hnr := hjn.out hri
          have hcu := Lib.hid (fun y (hu : Below y1.heap.size y1 y) => cutJ_any ⟨k6, rq6, rn6, rc6, kq6, kn6, kc6⟩ _ L y (CV.On.below hvj.out hu (Nat.le_refl _)) hjk.out (fun e => (hnr.r e).2) (fun e => (hnr.k e).2.2) hjz.out (by omega))
          clear hlen hri hap hnr hP he yx
          refine (hcu.out y1 (Below.refl _ _)).mono ?_
          clear hcu bx
          rintro e z1 ⟨⟨ka, rqa, rna, rca, kqa, kna, kca⟩, ⟨kb, rqb, rnb, rcb, kqb, knb, kcb⟩, rfl, hA, hB, hfa, hfb, hb1⟩
          obtain ⟨⟨st, si⟩, hcs⟩ : ∃ s, cutS (joinC a b ⟨kt, ki⟩) L = s := ⟨_, rfl⟩
          have hcs := Lib.hid hcs
          rw [hcs.out]
          simp only [CV.val]
          have hly : w.heap.size + 5 < y1.heap.size := rk.out.lt
          have hfr : Hid (((∀ a, rqa = some a → ∀ j, j ≤ 5 → a.block ≠ w.heap.size + j) ∧ (∀ a, kqa = some a → ∀ j, j ≤ 5 → a.block ≠ w.heap.size + j)) ∧ ((∀ a, rqb = some a → ∀ j, j ≤ 5 → a.block ≠ w.heap.size + j) ∧ (∀ a, kqb = some a → ∀ j, j ≤ 5 → a.block ≠ w.heap.size + j))) :=
            ⟨⟨fun a e j hj => (by have := (hfa.1 a e).1; omega), fun a e j hj => (by have := (hfa.2 a e).1; omega)⟩, ⟨fun a e j hj => (by have := (hfb.1 a e).1; omega), fun a e j hj => (by have := (hfb.2 a e).1; omega)⟩⟩
          have hA := Lib.hid hA
          have hB := Lib.hid hB
          have xsA := sizeCont (.int .i64 ka) (.slice rqa rna rca) (.slice kqa kna kca)
          have xsB := sizeCont (.int .i64 kb) (.slice rqb rnb rcb) (.slice kqb knb kcb)
          have xsK := sizeKey st si
          have oa := Lib.hid (oa.out.below hb1)
          have ob := Lib.hid (ob.out.below hb1)
          have ok := Lib.hid (ok.out.below hb1)
          have ra := Lib.hid (ra.out.below hb1)
          have rb := Lib.hid (rb.out.below hb1)
          have rk := Lib.hid (rk.out.below hb1)
          have hd := Lib.hid (below_step hb1 hd.out)
          clear hb1 hfa hfb hly hvj
          go_wp2_with (first
            | ((with_reducible refine wpList_store_at rfl 25 (.tmp 3) (.tmp 63) rfl (o := 0) (vs := [.int .i64 ka, .slice rqa rna rca, .slice kqa kna kca]) rfl rfl oa.out xsA (Nat.le_refl _) (cont_one _ _ _ _ _ _ _) ?_)
               intro z2 h9 hg9
               have oa : Hid (RowV 25 z2 _ [.int .i64 ka, .slice rqa rna rca, .slice kqa kna kca]) := h9
               have ob := Lib.hid (RowV.gr ob.out hg9 (by omega))
               have ok := Lib.hid (RowV.gr ok.out hg9 (by omega))
               have ra := Lib.hid (RowV.gr ra.out hg9 (by omega))
               have rb := Lib.hid (RowV.gr rb.out hg9 (by omega))
               have rk := Lib.hid (RowV.gr rk.out hg9 (by omega))
               have hA := Lib.hid (ContOn.gr hA.out hg9 (fun a e => (hfr.out.1.1 a e 0 (by decide))) (fun a e => (hfr.out.1.2 a e 0 (by decide))))
               have hB := Lib.hid (ContOn.gr hB.out hg9 (fun a e => (hfr.out.2.1 a e 0 (by decide))) (fun a e => (hfr.out.2.2 a e 0 (by decide))))
               have hd := Lib.hid (Gr.below hg9 hd.out (by omega))
               clear h9 hg9)
            | ((with_reducible refine wpList_store_at rfl 25 (.tmp 4) (.tmp 64) rfl (o := 0) (vs := [.int .i64 kb, .slice rqb rnb rcb, .slice kqb knb kcb]) rfl rfl ob.out xsB (Nat.le_refl _) (cont_one _ _ _ _ _ _ _) ?_)
               intro z3 h9 hg9
               have ob : Hid (RowV 25 z3 _ [.int .i64 kb, .slice rqb rnb rcb, .slice kqb knb kcb]) := h9
               have oa := Lib.hid (RowV.gr oa.out hg9 (by omega))
               have ok := Lib.hid (RowV.gr ok.out hg9 (by omega))
               have ra := Lib.hid (RowV.gr ra.out hg9 (by omega))
               have rb := Lib.hid (RowV.gr rb.out hg9 (by omega))
               have rk := Lib.hid (RowV.gr rk.out hg9 (by omega))
               have hA := Lib.hid (ContOn.gr hA.out hg9 (fun a e => (hfr.out.1.1 a e 1 (by decide))) (fun a e => (hfr.out.1.2 a e 1 (by decide))))
               have hB := Lib.hid (ContOn.gr hB.out hg9 (fun a e => (hfr.out.2.1 a e 1 (by decide))) (fun a e => (hfr.out.2.2 a e 1 (by decide))))
               have hd := Lib.hid (Gr.below hg9 hd.out (by omega))
               clear h9 hg9)
            | ((with_reducible refine wpList_store_at rfl 28 (.tmp 5) (.tmp 65) rfl (o := 0) (vs := [.int .i64 st, .int .u16 si]) rfl rfl ok.out xsK (Nat.le_refl _) (key_one _ _) ?_)
               intro z4 h9 hg9
               have ok : Hid (RowV 28 z4 _ [.int .i64 st, .int .u16 si]) := h9
               have oa := Lib.hid (RowV.gr oa.out hg9 (by omega))
               have ob := Lib.hid (RowV.gr ob.out hg9 (by omega))
               have ra := Lib.hid (RowV.gr ra.out hg9 (by omega))
               have rb := Lib.hid (RowV.gr rb.out hg9 (by omega))
               have rk := Lib.hid (RowV.gr rk.out hg9 (by omega))
               have hA := Lib.hid (ContOn.gr hA.out hg9 (fun a e => (hfr.out.1.1 a e 2 (by decide))) (fun a e => (hfr.out.1.2 a e 2 (by decide))))
               have hB := Lib.hid (ContOn.gr hB.out hg9 (fun a e => (hfr.out.2.1 a e 2 (by decide))) (fun a e => (hfr.out.2.2 a e 2 (by decide))))
               have hd := Lib.hid (Gr.below hg9 hd.out (by omega))
               clear h9 hg9))
          have b1 := Lib.hid oa.out.boxed
          have b2 := Lib.hid ob.out.boxed
          have b3 := Lib.hid ok.out.boxed
          clear oa ob ok
          refine wp_region_held (S := fun u => Boxed u w.heap.size [.int .i64 ka, .slice rqa rna rca, .slice kqa kna kca] ∧ Boxed u (w.heap.size + 1) [.int .i64 kb, .slice rqb rnb rcb, .slice kqb knb kcb] ∧ Boxed u (w.heap.size + 2) [.int .i64 st, .int .u16 si]) (by kernel_rfl) ?_
          change wpAnyH _ _ _ _ _ _ _ _ (World.drew z4)
          have hS0 : Hid (Boxed z4.drew w.heap.size [.int .i64 ka, .slice rqa rna rca, .slice kqa kna kca] ∧ Boxed z4.drew (w.heap.size + 1) [.int .i64 kb, .slice rqb rnb rcb, .slice kqb knb kcb] ∧ Boxed z4.drew (w.heap.size + 2) [.int .i64 st, .int .u16 si]) := ⟨b1.out.below (below_drew _) (Nat.le_refl _), b2.out.below (below_drew _) (Nat.le_refl _), b3.out.below (below_drew _) (Nat.le_refl _)⟩
          have ra := Lib.hid (ra.out.below (below_drew z4))
          have rb := Lib.hid (rb.out.below (below_drew z4))
          have rk := Lib.hid (rk.out.below (below_drew z4))
          have hA := Lib.hid (hA.out.below (below_drew z4) (Nat.le_refl _))
          have hB := Lib.hid (hB.out.below (below_drew z4) (Nat.le_refl _))
          have hd := Lib.hid (below_step (below_drew z4) hd.out)
          clear b1 b2 b3
          generalize World.drew z4 = y0' at hS0 ra rb rk hA hB hd ⊢
          refine held_tk (i := 0) (dst := some 66) rfl rfl (y_load_agg 25 (.tmp 3) rfl rfl rfl (fun u hu => run_loadVar_at Try.underlying25 rfl (sizeCont (.int .i64 ka) (.slice rqa rna rca) (.slice kqa kna kca)) _ hu.1.all)) hS0.out ?_; go_frame
          refine held_tk (i := 1) (dst := some 67) rfl rfl (y_load_agg 25 (.tmp 4) rfl rfl rfl (fun u hu => run_loadVar_at Try.underlying25 rfl (sizeCont (.int .i64 kb) (.slice rqb rnb rcb) (.slice kqb knb kcb)) _ hu.2.1.all)) hS0.out ?_; go_frame
          refine held_tk (i := 2) (dst := some 68) rfl rfl (y_load_agg 28 (.tmp 5) rfl rfl rfl (fun u hu => run_loadVar_at Try.underlying28 rfl (sizeKey st si) _ hu.2.2.all)) hS0.out ?_; go_frame
          obtain ⟨y1', hst, h9, hg9⟩ := run_storeVar_at (P := Try.prog) (ty := 25) (o := 0) (vs := [.int .i64 ka, .slice rqa rna rca, .slice kqa kna kca]) ra.out (sizeCont _ _ _) (Nat.le_refl _) (cont_one _ _ _ _ _ _ _)
          replace ra : Hid (RowV 25 y1' (w.heap.size + 3) [.int .i64 ka, .slice rqa rna rca, .slice kqa kna kca]) := h9
          replace rb := Lib.hid (RowV.gr rb.out hg9 (by omega))
          replace rk := Lib.hid (RowV.gr rk.out hg9 (by omega))
          replace hA := Lib.hid (ContOn.gr hA.out hg9 (fun a e => (hfr.out.1.1 a e 3 (by decide))) (fun a e => (hfr.out.1.2 a e 3 (by decide))))
          replace hB := Lib.hid (ContOn.gr hB.out hg9 (fun a e => (hfr.out.2.1 a e 3 (by decide))) (fun a e => (hfr.out.2.2 a e 3 (by decide))))
          replace hS0 := Lib.hid (And.intro (hS0.out.1.gr hg9 (by omega)) (And.intro (hS0.out.2.1.gr hg9 (by omega)) (hS0.out.2.2.gr hg9 (by omega))))
          replace hd := Lib.hid (Gr.below hg9 hd.out (by omega))
          clear h9 hg9
          refine held_skip (i := 3) (dst := none) (w' := y1') rfl rfl (by kernel_rfl) rfl (run_store_op (x := .tmp 6) (y := .tmp 66) rfl rfl rfl hst) hS0.out ?_; go_frame
          clear hst
          obtain ⟨y2', hst, h9, hg9⟩ := run_storeVar_at (P := Try.prog) (ty := 25) (o := 0) (vs := [.int .i64 kb, .slice rqb rnb rcb, .slice kqb knb kcb]) rb.out (sizeCont _ _ _) (Nat.le_refl _) (cont_one _ _ _ _ _ _ _)
          replace rb : Hid (RowV 25 y2' (w.heap.size + 4) [.int .i64 kb, .slice rqb rnb rcb, .slice kqb knb kcb]) := h9
          replace ra := Lib.hid (RowV.gr ra.out hg9 (by omega))
          replace rk := Lib.hid (RowV.gr rk.out hg9 (by omega))
          replace hA := Lib.hid (ContOn.gr hA.out hg9 (fun a e => (hfr.out.1.1 a e 4 (by decide))) (fun a e => (hfr.out.1.2 a e 4 (by decide))))
          replace hB := Lib.hid (ContOn.gr hB.out hg9 (fun a e => (hfr.out.2.1 a e 4 (by decide))) (fun a e => (hfr.out.2.2 a e 4 (by decide))))
          replace hS0 := Lib.hid (And.intro (hS0.out.1.gr hg9 (by omega)) (And.intro (hS0.out.2.1.gr hg9 (by omega)) (hS0.out.2.2.gr hg9 (by omega))))
          replace hd := Lib.hid (Gr.below hg9 hd.out (by omega))
          clear h9 hg9
          refine held_skip (i := 4) (dst := none) (w' := y2') rfl rfl (by kernel_rfl) rfl (run_store_op (x := .tmp 7) (y := .tmp 67) rfl rfl rfl hst) hS0.out ?_; go_frame
          clear hst
          obtain ⟨y3', hst, h9, hg9⟩ := run_storeVar_at (P := Try.prog) (ty := 28) (o := 0) (vs := [.int .i64 st, .int .u16 si]) rk.out (sizeKey _ _) (Nat.le_refl _) (key_one _ _)
          replace rk : Hid (RowV 28 y3' (w.heap.size + 5) [.int .i64 st, .int .u16 si]) := h9
          replace ra := Lib.hid (RowV.gr ra.out hg9 (by omega))
          replace rb := Lib.hid (RowV.gr rb.out hg9 (by omega))
          replace hA := Lib.hid (ContOn.gr hA.out hg9 (fun a e => (hfr.out.1.1 a e 5 (by decide))) (fun a e => (hfr.out.1.2 a e 5 (by decide))))
          replace hB := Lib.hid (ContOn.gr hB.out hg9 (fun a e => (hfr.out.2.1 a e 5 (by decide))) (fun a e => (hfr.out.2.2 a e 5 (by decide))))
          replace hS0 := Lib.hid (And.intro (hS0.out.1.gr hg9 (by omega)) (And.intro (hS0.out.2.1.gr hg9 (by omega)) (hS0.out.2.2.gr hg9 (by omega))))
          replace hd := Lib.hid (Gr.below hg9 hd.out (by omega))
          clear h9 hg9
          refine held_skip (i := 5) (dst := none) (w' := y3') rfl rfl (by kernel_rfl) rfl (run_store_op (x := .tmp 8) (y := .tmp 68) rfl rfl rfl hst) hS0.out ?_; go_frame
          clear hst
          refine held_tk (i := 6) (dst := some 9) (v := .int .i64 0) rfl rfl (.inl ⟨rfl, fun u hu => by go_simp⟩) hS0.out ?_; go_frame
          refine wpAnyH_done (by kernel_rfl) ?_ _
          have s0 : RowV 25 y3' (w.heap.size + 3) [.int .i64 ka, .slice rqa rna rca, .slice kqa kna kca] := ra.out
          have m00 := s0.cell 0
          have m01 := s0.cell 1
          have m02 := s0.cell 2
          have s1 : RowV 25 y3' (w.heap.size + 4) [.int .i64 kb, .slice rqb rnb rcb, .slice kqb knb kcb] := rb.out
          have m10 := s1.cell 0
          have m11 := s1.cell 1
          have m12 := s1.cell 2
          have s2 : RowV 28 y3' (w.heap.size + 5) [.int .i64 st, .int .u16 si] := rk.out
          have m20 := s2.cell 0
          have m21 := s2.cell 1
          simp only [List.getElem?_cons_zero, List.getElem?_cons_succ] at m00 m01 m02 m10 m11 m12 m20 m21
          clear s0 s1 s2
          go_wp2
          refine bodyPost_ret (v := .tuple #[.agg #[.int .i64 ka, .slice rqa rna rca, .slice kqa kna kca], .agg #[.int .i64 kb, .slice rqb rnb rcb, .slice kqb knb kcb], .agg #[.int .i64 st, .int .u16 si], .int .i64 0]) (by simp [results, Try.results28, go_sem, m00, m01, m02, m10, m11, m12, m20, m21]) rfl ?_
          exact ⟨⟨ka, rqa, rna, rca, kqa, kna, kca⟩, ⟨kb, rqb, rnb, rcb, kqb, knb, kcb⟩, cutA (joinC a b ⟨kt, ki⟩) L, cutB (joinC a b ⟨kt, ki⟩) L, ⟨st, si⟩, 0, rfl, .inr ⟨hG.out, .inr ⟨hJr.out, rfl, by rw [hat.out], by rw [hat.out], by rw [hat.out]; exact hcs.out.symm⟩⟩, hA.out, hB.out, hd.out⟩
end Go.Proofs.Ytaiepdhmlmnggaa
