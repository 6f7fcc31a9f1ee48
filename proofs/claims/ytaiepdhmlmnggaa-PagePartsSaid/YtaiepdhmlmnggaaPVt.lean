/- The document's Level of two pages. -/
import Derived.Test.YtaiepdhmlmnggaaPVq
namespace Go.Proofs.Ytaiepdhmlmnggaa
open Go.RowKit

def LevD (a b : ContD) (s : KeyD) (p q : ContD) (n : KeyD) (ok : Bool) : Prop := (ok = true ∧ LvOk a b s ∧ p = cutA (joinC a b s) (lvAt a b) ∧ q = cutB (joinC a b s) (lvAt a b) ∧ n = cutS (joinC a b s) (lvAt a b)) ∨ (ok = false ∧ ¬ LvOk a b s ∧ p = zeroC ∧ q = zeroC ∧ n = zK)
def LevDPost (a b : ContD) (s : KeyD) (w : World) (e : Ending) (w' : World) : Prop := ∃ (vp vq : CV) (p q : ContD) (n : KeyD) (ok : Bool), e = .returned (.tuple #[vp.val, vq.val, .agg #[.int .i64 n.t, .int .u16 n.id], .bool ok]) ∧ LevD a b s p q n ok ∧ vp.On w' p ∧ vq.On w' q ∧ Below w.heap.size w w'
theorem refCut_any (v : CV) (c : ContD) (K : Nat) (w : World) (h : v.On w c) (hk : c.kind = 1 ∨ c.kind = 2) (h1 : c.kind = 1 → c.kids = []) (h2 : c.kind = 2 → c.rows = []) (hs : sizeC c ≤ 1000000) (hK : K ≤ sizeC c) : Calls Try.prog 29 #[v.val, .int .i64 K] w (CutPost c K w) := by
  have e1 := h.rl
  have e2 := h.kl
  unfold sizeC at hs hK
  rcases hk with e | e
  · have h3 := h1 e
    rw [h3] at hs hK
    simp only [List.length_nil] at hs hK
    exact refCutR_any v c K w h e h3 (by omega) (by omega)
  · have h3 := h2 e
    rw [h3] at hs hK
    simp only [List.length_nil] at hs hK
    exact refCutK_any v c K w h e h3 (by omega) (by omega)
set_option maxRecDepth 100000 in
set_option maxHeartbeats 16000000 in
theorem refLevel_any (v u : CV) (a b : ContD) (kt ki : Int) (w : World) (ha : v.On w a) (hb : u.On w b) (hga : GoodC a) (hgb : GoodC b) (hko : KeyOk ⟨kt, ki⟩) :
    Calls Try.prog 31 #[v.val, u.val, .agg #[.int .i64 kt, .int .u16 ki]] w (LevDPost a b ⟨kt, ki⟩ w) := by
  have hza := Lib.hid (fun y (hu : Below w.heap.size w y) => refSize_any v a y (ha.below hu (Nat.le_refl _)) (Nat.le_trans (good_size hga) (by decide)))
  have hzb := Lib.hid (fun y (hu : Below w.heap.size w y) => refSize_any u b y (hb.below hu (Nat.le_refl _)) (Nat.le_trans (good_size hgb) (by decide)))
  have hsm : Hid ((v.rn ≤ 1000000 ∧ v.kn ≤ 1000000) ∧ (u.rn ≤ 1000000 ∧ u.kn ≤ 1000000)) := by
    have h1 := good_size hga
    have h2 := good_size hgb
    have h3 := ha.rl
    have h4 := ha.kl
    have h5 := hb.rl
    have h6 := hb.kl
    unfold sizeC at h1 h2
    exact ⟨⟨by omega, by omega⟩, ⟨by omega, by omega⟩⟩
  have hbo := Lib.hid (fun y (hu : Below w.heap.size w y) => refBoth_any v u a b kt ki y (ha.below hu (Nat.le_refl _)) (hb.below hu (Nat.le_refl _)) hko hsm.out.1.1 hsm.out.1.2 hsm.out.2.1 hsm.out.2.2)
  have hkda : Hid (v.k = a.kind) := ha.kind
  have hkdb : Hid (u.k = b.kind) := hb.kind
  have hoks := Lib.hid (And.intro ha.kids.ok hb.kids.ok)
  have hko' := Lib.hid hko
  have hG := Lib.hid (And.intro hga hgb)
  obtain ⟨k, rq, rn, rc, kq, kn, kc⟩ := v
  obtain ⟨k2, rq2, rn2, rc2, kq2, kn2, kc2⟩ := u
  simp only at hkda hkdb
  obtain ⟨W, hW⟩ : ∃ W, (((((w.alloc (.cells #[.int .i64 k, .slice rq rn rc, .slice kq kn kc] 25)).alloc (.cells #[.int .i64 k2, .slice rq2 rn2 rc2, .slice kq2 kn2 kc2] 25)).alloc (.cells #[.int .i64 kt, .int .u16 ki] 28)).alloc (.cells #[.int .i64 0, .slice none 0 0, .slice none 0 0] 25)).alloc (.cells #[.int .i64 0, .slice none 0 0, .slice none 0 0] 25)).alloc (.cells #[.int .i64 0, .int .u16 0] 28) = W := ⟨_, rfl⟩
  have hbx := Lib.hid (six_rows (a := [.int .i64 k, .slice rq rn rc, .slice kq kn kc]) (b := [.int .i64 k2, .slice rq2 rn2 rc2, .slice kq2 kn2 kc2]) (c := [.int .i64 kt, .int .u16 ki]) (d := [.int .i64 0, .slice none 0 0, .slice none 0 0]) (e := [.int .i64 0, .slice none 0 0, .slice none 0 0]) (f := [.int .i64 0, .int .u16 0]) hW)
  have hs := sizeCont (.int .i64 k) (.slice rq rn rc) (.slice kq kn kc)
  have hs2 := sizeCont (.int .i64 k2) (.slice rq2 rn2 rc2) (.slice kq2 kn2 kc2)
  have hs3 := sizeKey kt ki
  have hz := sizeCont (.int .i64 0) (.slice none 0 0) (.slice none 0 0)
  have hzk := sizeKey 0 0
  have ba := Lib.hid hbx.out.2.1.boxed
  have bb := Lib.hid hbx.out.2.2.1.boxed
  have bk := Lib.hid hbx.out.2.2.2.1.boxed
  have ra := Lib.hid hbx.out.2.2.2.2.1
  have rb := Lib.hid hbx.out.2.2.2.2.2.1
  have rk := Lib.hid hbx.out.2.2.2.2.2.2.1
  have hd := Lib.hid hbx.out.1
  obtain ⟨m, hm⟩ : ∃ m, sizeC a = m := ⟨_, rfl⟩
  obtain ⟨n, hn⟩ : ∃ n, sizeC b = n := ⟨_, rfl⟩
  have hm' := Lib.hid hm
  have hn' := Lib.hid hn
  rw [hm] at hza
  rw [hn] at hzb
  have hm4 : m ≤ 4 := by rw [← hm]; exact good_size hga
  have hn4 : n ≤ 4 := by rw [← hn]; exact good_size hgb
  clear ha hb hko hga hgb hm hn hbx
  show Calls _ _ #[.agg #[.int .i64 k, .slice rq rn rc, .slice kq kn kc], .agg #[.int .i64 k2, .slice rq2 rn2 rc2, .slice kq2 kn2 kc2], .agg #[.int .i64 kt, .int .u16 ki]] _ _
  go_enter Try.func31, Try.ntmps31
  go_wp2_with fail
  refine wp_region_held (S := fun y => Below W.heap.size W y) (by kernel_rfl) ?_
  change wpAnyH _ _ _ _ _ _ _ _ (World.drew W)
  refine wpF.held _ _ _ ?_ _ (below_drew W)
  by_cases hkk : k = k2
  rotate_left
  · have d1 : (k != k2) = true := by simpa using hkk
    have hno : Hid (¬ LvOk a b ⟨kt, ki⟩) := fun h => hkk (by rw [hkda.out, hkdb.out]; exact h.1.2)
    clear hkk hza hzb hbo
    refine fx (i := 0) (dst := some 15) (v := .pointer (some ⟨w.heap.size, 0, none⟩)) rfl rfl (fx_read (fun u hu => by go_simp)) ?_; go_frame
    refine fx (i := 1) (dst := some 16) (v := .int .i64 k) rfl rfl (fx_read (fun y hy => by have e0 := (ba.out.below hy (Nat.le_refl _)).cell 0 rfl; go_simp)) ?_; go_frame
    refine fx (i := 2) (dst := some 17) (v := .pointer (some ⟨w.heap.size + 1, 0, none⟩)) rfl rfl (fx_read (fun u hu => by go_simp)) ?_; go_frame
    refine fx (i := 3) (dst := some 18) (v := .int .i64 k2) rfl rfl (fx_read (fun y hy => by have e0 := (bb.out.below hy (Nat.le_refl _)).cell 0 rfl; go_simp)) ?_; go_frame
    refine fx (i := 4) (dst := some 19) (v := .bool true) rfl rfl (fx_read (fun u hu => by go_simp)) ?_; go_frame
    refine fx (i := 5) (dst := some 20) (v := .bool true) rfl rfl (fx_read (fun u hu => by go_simp)) ?_; go_frame
    refine fx (i := 6) (dst := some 21) (v := undef) rfl rfl (fx_off (by rfl)) ?_; go_frame
    refine fx (i := 7) (dst := some 22) (v := undef) rfl rfl (fx_off (by rfl)) ?_; go_frame
    refine fx (i := 8) (dst := some 23) (v := undef) rfl rfl (fx_off (by rfl)) ?_; go_frame
    refine fx (i := 9) (dst := some 24) (v := .bool true) rfl rfl (fx_read (fun u hu => by go_simp)) ?_; go_frame
    refine fx (i := 10) (dst := some 25) (v := .bool true) rfl rfl (fx_read (fun u hu => by go_simp)) ?_; go_frame
    refine fx (i := 11) (dst := some 26) (v := undef) rfl rfl (fx_off (by rfl)) ?_; go_frame
    refine fx (i := 12) (dst := some 27) (v := undef) rfl rfl (fx_off (by rfl)) ?_; go_frame
    refine fx (i := 13) (dst := some 28) (v := undef) rfl rfl (fx_off (by rfl)) ?_; go_frame
    refine fx (i := 14) (dst := some 29) (v := undef) rfl rfl (fx_off (by rfl)) ?_; go_frame
    refine fx (i := 15) (dst := some 30) (v := undef) rfl rfl (fx_off (by rfl)) ?_; go_frame
    refine fx (i := 16) (dst := some 31) (v := .bool true) rfl rfl (fx_read (fun u hu => by go_simp)) ?_; go_frame
    refine fx_done (fun w1 hb1 => ?_) (by kernel_rfl) _
    have ra := Lib.hid (ra.out.below hb1)
    have rb := Lib.hid (rb.out.below hb1)
    have rk := Lib.hid (rk.out.below hb1)
    have hd := Lib.hid (below_step hb1 hd.out)
    clear hb1
    clear ba bb bk hW
    go_wp2_with (first
      | ((with_reducible refine wpList_store_at rfl 25 (.tmp 6) (.tmp 32) rfl (o := 0) (vs := [.int .i64 0, .slice none 0 0, .slice none 0 0]) rfl rfl ra.out hz (Nat.le_refl _) (cont_one _ _ _ _ _ _ _) ?_)
         intro wa1 h9 hg9
         have ra : Hid (RowV 25 wa1 _ [.int .i64 0, .slice none 0 0, .slice none 0 0]) := h9
         have rb := Lib.hid (RowV.gr rb.out hg9 (by omega))
         have rk := Lib.hid (RowV.gr rk.out hg9 (by omega))
         have hd := Lib.hid (Gr.below hg9 hd.out (by omega))
         clear h9 hg9)
      | ((with_reducible refine wpList_store_at rfl 25 (.tmp 7) (.tmp 33) rfl (o := 0) (vs := [.int .i64 0, .slice none 0 0, .slice none 0 0]) rfl rfl rb.out hz (Nat.le_refl _) (cont_one _ _ _ _ _ _ _) ?_)
         intro wa2 h9 hg9
         have rb : Hid (RowV 25 wa2 _ [.int .i64 0, .slice none 0 0, .slice none 0 0]) := h9
         have ra := Lib.hid (RowV.gr ra.out hg9 (by omega))
         have rk := Lib.hid (RowV.gr rk.out hg9 (by omega))
         have hd := Lib.hid (Gr.below hg9 hd.out (by omega))
         clear h9 hg9)
      | ((with_reducible refine wpList_store_at rfl 28 (.tmp 8) (.tmp 34) rfl (o := 0) (vs := [.int .i64 0, .int .u16 0]) rfl rfl rk.out hzk (Nat.le_refl _) (key_one _ _) ?_)
         intro wa3 h9 hg9
         have rk : Hid (RowV 28 wa3 _ [.int .i64 0, .int .u16 0]) := h9
         have ra := Lib.hid (RowV.gr ra.out hg9 (by omega))
         have rb := Lib.hid (RowV.gr rb.out hg9 (by omega))
         have hd := Lib.hid (Gr.below hg9 hd.out (by omega))
         clear h9 hg9))
    have s0 : RowV 25 wa3 (w.heap.size + 3) [.int .i64 0, .slice none 0 0, .slice none 0 0] := ra.out
    have m00 := s0.cell 0
    have m01 := s0.cell 1
    have m02 := s0.cell 2
    have s1 : RowV 25 wa3 (w.heap.size + 4) [.int .i64 0, .slice none 0 0, .slice none 0 0] := rb.out
    have m10 := s1.cell 0
    have m11 := s1.cell 1
    have m12 := s1.cell 2
    have s2 : RowV 28 wa3 (w.heap.size + 5) [.int .i64 0, .int .u16 0] := rk.out
    have m20 := s2.cell 0
    have m21 := s2.cell 1
    simp only [List.getElem?_cons_zero, List.getElem?_cons_succ] at m00 m01 m02 m10 m11 m12 m20 m21
    clear s0 s1 s2
    refine bodyPost_ret (v := .tuple #[CV.val zV, CV.val zV, .agg #[.int .i64 zK.t, .int .u16 zK.id], .bool false]) (by simp [results, Try.results31, go_sem, m00, m01, m02, m10, m11, m12, m20, m21, zV, zK]) rfl ?_
    exact ⟨zV, zV, zeroC, zeroC, zK, false, rfl, .inr ⟨rfl, hno.out, rfl, rfl, rfl⟩, zV_on _, zV_on _, hd.out⟩
  · subst hkk
    have d1 : (k != k) = false := by simp
    by_cases hk0 : k = 0
    · have d2 : (k == 0) = true := by simpa using hk0
      have hno : Hid (¬ LvOk a b ⟨kt, ki⟩) := fun h => h.1.1 (by rw [← hkda.out]; exact hk0)
      clear hk0 hza hzb hbo
      refine fx (i := 0) (dst := some 15) (v := .pointer (some ⟨w.heap.size, 0, none⟩)) rfl rfl (fx_read (fun u hu => by go_simp)) ?_; go_frame
      refine fx (i := 1) (dst := some 16) (v := .int .i64 k) rfl rfl (fx_read (fun y hy => by have e0 := (ba.out.below hy (Nat.le_refl _)).cell 0 rfl; go_simp)) ?_; go_frame
      refine fx (i := 2) (dst := some 17) (v := .pointer (some ⟨w.heap.size + 1, 0, none⟩)) rfl rfl (fx_read (fun u hu => by go_simp)) ?_; go_frame
      refine fx (i := 3) (dst := some 18) (v := .int .i64 k) rfl rfl (fx_read (fun y hy => by have e0 := (bb.out.below hy (Nat.le_refl _)).cell 0 rfl; go_simp)) ?_; go_frame
      refine fx (i := 4) (dst := some 19) (v := .bool false) rfl rfl (fx_read (fun u hu => by go_simp)) ?_; go_frame
      refine fx (i := 5) (dst := some 20) (v := .bool false) rfl rfl (fx_read (fun u hu => by go_simp)) ?_; go_frame
      refine fx (i := 6) (dst := some 21) (v := .pointer (some ⟨w.heap.size, 0, none⟩)) rfl rfl (fx_read (fun u hu => by go_simp)) ?_; go_frame
      refine fx (i := 7) (dst := some 22) (v := .int .i64 k) rfl rfl (fx_read (fun y hy => by have e0 := (ba.out.below hy (Nat.le_refl _)).cell 0 rfl; go_simp)) ?_; go_frame
      refine fx (i := 8) (dst := some 23) (v := .bool true) rfl rfl (fx_read (fun u hu => by go_simp)) ?_; go_frame
      refine fx (i := 9) (dst := some 24) (v := .bool true) rfl rfl (fx_read (fun u hu => by go_simp)) ?_; go_frame
      refine fx (i := 10) (dst := some 25) (v := .bool true) rfl rfl (fx_read (fun u hu => by go_simp)) ?_; go_frame
      refine fx (i := 11) (dst := some 26) (v := undef) rfl rfl (fx_off (by rfl)) ?_; go_frame
      refine fx (i := 12) (dst := some 27) (v := undef) rfl rfl (fx_off (by rfl)) ?_; go_frame
      refine fx (i := 13) (dst := some 28) (v := undef) rfl rfl (fx_off (by rfl)) ?_; go_frame
      refine fx (i := 14) (dst := some 29) (v := undef) rfl rfl (fx_off (by rfl)) ?_; go_frame
      refine fx (i := 15) (dst := some 30) (v := undef) rfl rfl (fx_off (by rfl)) ?_; go_frame
      refine fx (i := 16) (dst := some 31) (v := .bool true) rfl rfl (fx_read (fun u hu => by go_simp)) ?_; go_frame
      refine fx_done (fun w1 hb1 => ?_) (by kernel_rfl) _
      have ra := Lib.hid (ra.out.below hb1)
      have rb := Lib.hid (rb.out.below hb1)
      have rk := Lib.hid (rk.out.below hb1)
      have hd := Lib.hid (below_step hb1 hd.out)
      clear hb1
      clear ba bb bk hW
      go_wp2_with (first
        | ((with_reducible refine wpList_store_at rfl 25 (.tmp 6) (.tmp 32) rfl (o := 0) (vs := [.int .i64 0, .slice none 0 0, .slice none 0 0]) rfl rfl ra.out hz (Nat.le_refl _) (cont_one _ _ _ _ _ _ _) ?_)
           intro wb1 h9 hg9
           have ra : Hid (RowV 25 wb1 _ [.int .i64 0, .slice none 0 0, .slice none 0 0]) := h9
           have rb := Lib.hid (RowV.gr rb.out hg9 (by omega))
           have rk := Lib.hid (RowV.gr rk.out hg9 (by omega))
           have hd := Lib.hid (Gr.below hg9 hd.out (by omega))
           clear h9 hg9)
        | ((with_reducible refine wpList_store_at rfl 25 (.tmp 7) (.tmp 33) rfl (o := 0) (vs := [.int .i64 0, .slice none 0 0, .slice none 0 0]) rfl rfl rb.out hz (Nat.le_refl _) (cont_one _ _ _ _ _ _ _) ?_)
           intro wb2 h9 hg9
           have rb : Hid (RowV 25 wb2 _ [.int .i64 0, .slice none 0 0, .slice none 0 0]) := h9
           have ra := Lib.hid (RowV.gr ra.out hg9 (by omega))
           have rk := Lib.hid (RowV.gr rk.out hg9 (by omega))
           have hd := Lib.hid (Gr.below hg9 hd.out (by omega))
           clear h9 hg9)
        | ((with_reducible refine wpList_store_at rfl 28 (.tmp 8) (.tmp 34) rfl (o := 0) (vs := [.int .i64 0, .int .u16 0]) rfl rfl rk.out hzk (Nat.le_refl _) (key_one _ _) ?_)
           intro wb3 h9 hg9
           have rk : Hid (RowV 28 wb3 _ [.int .i64 0, .int .u16 0]) := h9
           have ra := Lib.hid (RowV.gr ra.out hg9 (by omega))
           have rb := Lib.hid (RowV.gr rb.out hg9 (by omega))
           have hd := Lib.hid (Gr.below hg9 hd.out (by omega))
           clear h9 hg9))
      have s0 : RowV 25 wb3 (w.heap.size + 3) [.int .i64 0, .slice none 0 0, .slice none 0 0] := ra.out
      have m00 := s0.cell 0
      have m01 := s0.cell 1
      have m02 := s0.cell 2
      have s1 : RowV 25 wb3 (w.heap.size + 4) [.int .i64 0, .slice none 0 0, .slice none 0 0] := rb.out
      have m10 := s1.cell 0
      have m11 := s1.cell 1
      have m12 := s1.cell 2
      have s2 : RowV 28 wb3 (w.heap.size + 5) [.int .i64 0, .int .u16 0] := rk.out
      have m20 := s2.cell 0
      have m21 := s2.cell 1
      simp only [List.getElem?_cons_zero, List.getElem?_cons_succ] at m00 m01 m02 m10 m11 m12 m20 m21
      clear s0 s1 s2
      refine bodyPost_ret (v := .tuple #[CV.val zV, CV.val zV, .agg #[.int .i64 zK.t, .int .u16 zK.id], .bool false]) (by simp [results, Try.results31, go_sem, m00, m01, m02, m10, m11, m12, m20, m21, zV, zK]) rfl ?_
      exact ⟨zV, zV, zeroC, zeroC, zK, false, rfl, .inr ⟨rfl, hno.out, rfl, rfl, rfl⟩, zV_on _, zV_on _, hd.out⟩
    · have d2 : (k == 0) = false := by simpa using hk0
      have hK : Hid (a.kind ≠ 0 ∧ a.kind = b.kind) := ⟨by rw [← hkda.out]; exact hk0, by rw [← hkda.out, ← hkdb.out]⟩
      clear hk0
      obtain ⟨q, hq⟩ : ∃ q : Bool, ((m : Int) == (n : Int)) = q := ⟨_, rfl⟩
      have hq' := Lib.hid hq
      refine fx (i := 0) (dst := some 15) (v := .pointer (some ⟨w.heap.size, 0, none⟩)) rfl rfl (fx_read (fun u hu => by go_simp)) ?_; go_frame
      refine fx (i := 1) (dst := some 16) (v := .int .i64 k) rfl rfl (fx_read (fun y hy => by have e0 := (ba.out.below hy (Nat.le_refl _)).cell 0 rfl; go_simp)) ?_; go_frame
      refine fx (i := 2) (dst := some 17) (v := .pointer (some ⟨w.heap.size + 1, 0, none⟩)) rfl rfl (fx_read (fun u hu => by go_simp)) ?_; go_frame
      refine fx (i := 3) (dst := some 18) (v := .int .i64 k) rfl rfl (fx_read (fun y hy => by have e0 := (bb.out.below hy (Nat.le_refl _)).cell 0 rfl; go_simp)) ?_; go_frame
      refine fx (i := 4) (dst := some 19) (v := .bool false) rfl rfl (fx_read (fun u hu => by go_simp)) ?_; go_frame
      refine fx (i := 5) (dst := some 20) (v := .bool false) rfl rfl (fx_read (fun u hu => by go_simp)) ?_; go_frame
      refine fx (i := 6) (dst := some 21) (v := .pointer (some ⟨w.heap.size, 0, none⟩)) rfl rfl (fx_read (fun u hu => by go_simp)) ?_; go_frame
      refine fx (i := 7) (dst := some 22) (v := .int .i64 k) rfl rfl (fx_read (fun y hy => by have e0 := (ba.out.below hy (Nat.le_refl _)).cell 0 rfl; go_simp)) ?_; go_frame
      refine fx (i := 8) (dst := some 23) (v := .bool false) rfl rfl (fx_read (fun u hu => by go_simp)) ?_; go_frame
      refine fx (i := 9) (dst := some 24) (v := .bool false) rfl rfl (fx_read (fun u hu => by go_simp)) ?_; go_frame
      refine fx (i := 10) (dst := some 25) (v := .bool false) rfl rfl (fx_read (fun u hu => by go_simp)) ?_; go_frame
      refine fx (i := 11) (dst := some 26) rfl rfl (fx_load 25 (.tmp 3) (fun y hy => run_loadVar_at Try.underlying25 rfl hs _ (ba.out.below hy (Nat.le_refl _)).all)) ?_; go_frame
      refine fx (i := 12) (dst := some 27) (v := .int .i64 (m : Int)) rfl rfl (fx_call (fun y hy => (hza.out y (below_step hy hd.out)).mono fun e z h => ⟨h.1, below_step h.2 hy⟩)) ?_; go_frame
      refine fx (i := 13) (dst := some 28) rfl rfl (fx_load 25 (.tmp 4) (fun y hy => run_loadVar_at Try.underlying25 rfl hs2 _ (bb.out.below hy (Nat.le_refl _)).all)) ?_; go_frame
      refine fx (i := 14) (dst := some 29) (v := .int .i64 (n : Int)) rfl rfl (fx_call (fun y hy => (hzb.out y (below_step hy hd.out)).mono fun e z h => ⟨h.1, below_step h.2 hy⟩)) ?_; go_frame
      refine fx (i := 15) (dst := some 30) (v := .bool q) rfl rfl (fx_read (fun u hu => by go_simp)) ?_; go_frame
      refine fx (i := 16) (dst := some 31) (v := .bool q) rfl rfl (fx_read (fun u hu => by go_simp)) ?_; go_frame
      refine fx_done (fun w1 hb1 => ?_) (by kernel_rfl) _
      have ba := Lib.hid (ba.out.below hb1 (Nat.le_refl _))
      have bb := Lib.hid (bb.out.below hb1 (Nat.le_refl _))
      have bk := Lib.hid (bk.out.below hb1 (Nat.le_refl _))
      have ra := Lib.hid (ra.out.below hb1)
      have rb := Lib.hid (rb.out.below hb1)
      have rk := Lib.hid (rk.out.below hb1)
      have hd := Lib.hid (below_step hb1 hd.out)
      clear hb1
      clear d1 d2 hW hq
      cases q with
      | true =>
        have hno : Hid (¬ LvOk a b ⟨kt, ki⟩) := fun h => h.2.1 (by rw [hm'.out, hn'.out]; have h2 := hq'.out; simp at h2; omega)
        clear ba bb bk hza hzb hbo
        go_wp2_with (first
          | ((with_reducible refine wpList_store_at rfl 25 (.tmp 6) (.tmp 32) rfl (o := 0) (vs := [.int .i64 0, .slice none 0 0, .slice none 0 0]) rfl rfl ra.out hz (Nat.le_refl _) (cont_one _ _ _ _ _ _ _) ?_)
             intro wc1 h9 hg9
             have ra : Hid (RowV 25 wc1 _ [.int .i64 0, .slice none 0 0, .slice none 0 0]) := h9
             have rb := Lib.hid (RowV.gr rb.out hg9 (by omega))
             have rk := Lib.hid (RowV.gr rk.out hg9 (by omega))
             have hd := Lib.hid (Gr.below hg9 hd.out (by omega))
             clear h9 hg9)
          | ((with_reducible refine wpList_store_at rfl 25 (.tmp 7) (.tmp 33) rfl (o := 0) (vs := [.int .i64 0, .slice none 0 0, .slice none 0 0]) rfl rfl rb.out hz (Nat.le_refl _) (cont_one _ _ _ _ _ _ _) ?_)
             intro wc2 h9 hg9
             have rb : Hid (RowV 25 wc2 _ [.int .i64 0, .slice none 0 0, .slice none 0 0]) := h9
             have ra := Lib.hid (RowV.gr ra.out hg9 (by omega))
             have rk := Lib.hid (RowV.gr rk.out hg9 (by omega))
             have hd := Lib.hid (Gr.below hg9 hd.out (by omega))
             clear h9 hg9)
          | ((with_reducible refine wpList_store_at rfl 28 (.tmp 8) (.tmp 34) rfl (o := 0) (vs := [.int .i64 0, .int .u16 0]) rfl rfl rk.out hzk (Nat.le_refl _) (key_one _ _) ?_)
             intro wc3 h9 hg9
             have rk : Hid (RowV 28 wc3 _ [.int .i64 0, .int .u16 0]) := h9
             have ra := Lib.hid (RowV.gr ra.out hg9 (by omega))
             have rb := Lib.hid (RowV.gr rb.out hg9 (by omega))
             have hd := Lib.hid (Gr.below hg9 hd.out (by omega))
             clear h9 hg9))
        have s0 : RowV 25 wc3 (w.heap.size + 3) [.int .i64 0, .slice none 0 0, .slice none 0 0] := ra.out
        have m00 := s0.cell 0
        have m01 := s0.cell 1
        have m02 := s0.cell 2
        have s1 : RowV 25 wc3 (w.heap.size + 4) [.int .i64 0, .slice none 0 0, .slice none 0 0] := rb.out
        have m10 := s1.cell 0
        have m11 := s1.cell 1
        have m12 := s1.cell 2
        have s2 : RowV 28 wc3 (w.heap.size + 5) [.int .i64 0, .int .u16 0] := rk.out
        have m20 := s2.cell 0
        have m21 := s2.cell 1
        simp only [List.getElem?_cons_zero, List.getElem?_cons_succ] at m00 m01 m02 m10 m11 m12 m20 m21
        clear s0 s1 s2
        refine bodyPost_ret (v := .tuple #[CV.val zV, CV.val zV, .agg #[.int .i64 zK.t, .int .u16 zK.id], .bool false]) (by simp [results, Try.results31, go_sem, m00, m01, m02, m10, m11, m12, m20, m21, zV, zK]) rfl ?_
        exact ⟨zV, zV, zeroC, zeroC, zK, false, rfl, .inr ⟨rfl, hno.out, rfl, rfl, rfl⟩, zV_on _, zV_on _, hd.out⟩
      | false =>
        have hne : Hid (m ≠ n) := fun h => by have := hq'.out; rw [h] at this; simp at this
        have ew : IntKind.i64.wrap ((m : Int) + 1) = (m : Int) + 1 := IntWalk.i64_in _ (by omega)
        have ew2 : IntKind.i64.wrap ((m : Int) - 1) = (m : Int) - 1 := IntWalk.i64_in _ (by omega)
        go_wp2_with (first
          | (with_reducible refine wpList_load_at rfl 25 (.tmp 3) rfl Try.underlying25 rfl hs rfl ba.out.all ?_))
        refine (hza.out w1 hd.out).mono ?_
        rintro e w2 ⟨rfl, hb1⟩
        have ba := Lib.hid (ba.out.below hb1 (Nat.le_refl _))
        have bb := Lib.hid (bb.out.below hb1 (Nat.le_refl _))
        have bk := Lib.hid (bk.out.below hb1 (Nat.le_refl _))
        have ra := Lib.hid (ra.out.below hb1)
        have rb := Lib.hid (rb.out.below hb1)
        have rk := Lib.hid (rk.out.below hb1)
        have hd := Lib.hid (below_step hb1 hd.out)
        clear hb1
        obtain ⟨q, hq⟩ : ∃ q : Bool, decide (n < m) = q := ⟨_, rfl⟩
        have hq' := Lib.hid hq
        go_wp2_with fail
        refine wp_region_held (S := fun y => Below w2.heap.size w2 y) (by kernel_rfl) ?_
        change wpAnyH _ _ _ _ _ _ _ _ (World.drew w2)
        refine wpF.held _ _ _ ?_ _ (below_drew w2)
        refine fx (i := 0) (dst := some 38) rfl rfl (fx_load 25 (.tmp 3) (fun y hy => run_loadVar_at Try.underlying25 rfl hs _ (ba.out.below hy (Nat.le_refl _)).all)) ?_; go_frame
        refine fx (i := 1) (dst := some 39) (v := .int .i64 (m : Int)) rfl rfl (fx_call (fun y hy => (hza.out y (below_step hy hd.out)).mono fun e z h => ⟨h.1, below_step h.2 hy⟩)) ?_; go_frame
        refine fx (i := 2) (dst := some 40) rfl rfl (fx_load 25 (.tmp 4) (fun y hy => run_loadVar_at Try.underlying25 rfl hs2 _ (bb.out.below hy (Nat.le_refl _)).all)) ?_; go_frame
        refine fx (i := 3) (dst := some 41) (v := .int .i64 (n : Int)) rfl rfl (fx_call (fun y hy => (hzb.out y (below_step hy hd.out)).mono fun e z h => ⟨h.1, below_step h.2 hy⟩)) ?_; go_frame
        refine fx (i := 4) (dst := some 42) (v := .bool q) rfl rfl (fx_read (fun u hu => by go_simp)) ?_; go_frame
        refine fx_done (fun w3 hb1 => ?_) (by kernel_rfl) _
        have ba := Lib.hid (ba.out.below hb1 (Nat.le_refl _))
        have bb := Lib.hid (bb.out.below hb1 (Nat.le_refl _))
        have bk := Lib.hid (bk.out.below hb1 (Nat.le_refl _))
        have ra := Lib.hid (ra.out.below hb1)
        have rb := Lib.hid (rb.out.below hb1)
        have rk := Lib.hid (rk.out.below hb1)
        have hd := Lib.hid (below_step hb1 hd.out)
        clear hb1
        clear hq hzb
        have hjk : Hid ((joinC a b ⟨kt, ki⟩).kind = 1 ∨ (joinC a b ⟨kt, ki⟩).kind = 2) := by
          show _ ∨ _
          rw [joinC_kind (kind_in hG.out.1 hK.out.1)]
          exact kind_in hG.out.1 hK.out.1
        have hjz : Hid (sizeC (joinC a b ⟨kt, ki⟩) = m + n) := by
          show _ = _
          rw [join_size hG.out.1 hG.out.2 (kind_in hG.out.1 hK.out.1) hK.out.2, hm'.out, hn'.out]
        have hje : Hid (bothC a b ⟨kt, ki⟩ = joinC a b ⟨kt, ki⟩) := both_join hG.out.1 hG.out.2 (kind_in hG.out.1 hK.out.1) hK.out.2
        have hj1 : Hid ((joinC a b ⟨kt, ki⟩).kind = 1 → (joinC a b ⟨kt, ki⟩).kids = []) := fun h => by
          have e : a.kind = 1 := by rw [joinC_kind (kind_in hG.out.1 hK.out.1)] at h; exact h
          unfold joinC; rw [if_pos e]
        have hj2 : Hid ((joinC a b ⟨kt, ki⟩).kind = 2 → (joinC a b ⟨kt, ki⟩).rows = []) := fun h => by
          have e : a.kind = 2 := by rw [joinC_kind (kind_in hG.out.1 hK.out.1)] at h; exact h
          unfold joinC; rw [if_neg (by omega)]
        cases q with
        | true =>
          go_wp2_with (first
            | (with_reducible refine wpList_load_at rfl 25 (.tmp 3) rfl Try.underlying25 rfl hs rfl ba.out.all ?_))
          refine (hza.out w3 hd.out).mono ?_
          rintro e w4 ⟨rfl, hb1⟩
          have ba := Lib.hid (ba.out.below hb1 (Nat.le_refl _))
          have bb := Lib.hid (bb.out.below hb1 (Nat.le_refl _))
          have bk := Lib.hid (bk.out.below hb1 (Nat.le_refl _))
          have ra := Lib.hid (ra.out.below hb1)
          have rb := Lib.hid (rb.out.below hb1)
          have rk := Lib.hid (rk.out.below hb1)
          have hd := Lib.hid (below_step hb1 hd.out)
          clear hb1
          have hlt := of_decide_eq_true hq'.out
          obtain ⟨L, hL⟩ : ∃ L, m - 1 = L := ⟨_, rfl⟩
          have hat : Hid (lvAt a b = L) := by
            show lvAt a b = L
            unfold lvAt
            rw [hm'.out, hn'.out, if_neg (by omega), hL]
          have ew3 : (m : Int) - 1 = (L : Int) := by omega
          replace ew2 : IntKind.i64.wrap ((m : Int) - 1) = (L : Int) := by rw [IntWalk.i64_in _ (by omega)]; omega
          have hLm : L ≤ m + n := by omega
          clear hza hL ew3
          go_wp2_with (first
            | (with_reducible refine wpList_load_at rfl 25 (.tmp 3) rfl Try.underlying25 rfl hs rfl ba.out.all ?_)
            | (with_reducible refine wpList_load_at rfl 25 (.tmp 4) rfl Try.underlying25 rfl hs2 rfl bb.out.all ?_)
            | (with_reducible refine wpList_load_at rfl 28 (.tmp 5) rfl Try.underlying28 rfl hs3 rfl bk.out.all ?_))
          refine (hbo.out w4 hd.out).mono ?_
          clear hbo
          rintro e w5 ⟨⟨k5, rq5, rn5, rc5, kq5, kn5, kc5⟩, rfl, hvj, hfv, hb1⟩
          rw [hje.out] at hvj
          simp only [CV.val]
          have hvj := Lib.hid hvj
          have hl5 : Hid (w.heap.size + 5 < w4.heap.size) := rk.out.lt
          have hfv : Hid ((∀ a, rq5 = some a → w4.heap.size ≤ a.block ∧ a.block < w5.heap.size) ∧ (∀ a, kq5 = some a → w4.heap.size ≤ a.block ∧ a.block < w5.heap.size)) := hfv
          have hz5 : Hid (w.heap.size + 5 < w5.heap.size) := Nat.lt_of_lt_of_le hl5.out hb1.size
          have ra := Lib.hid (ra.out.below hb1)
          have rb := Lib.hid (rb.out.below hb1)
          have rk := Lib.hid (rk.out.below hb1)
          have hd := Lib.hid (below_step hb1 hd.out)
          clear hb1
          clear ba bb bk
          obtain ⟨y0, hy0⟩ : ∃ x, w5.alloc (.cells #[.int .i64 0, .slice none 0 0, .slice none 0 0] 25) = x := ⟨_, rfl⟩
          have yr := Lib.hid (one_row (xs := [.int .i64 0, .slice none 0 0, .slice none 0 0]) hy0)
          have hb1 := yr.out.1
          have yj := Lib.hid yr.out.2.1
          have hs5 := sizeCont (.int .i64 k5) (.slice rq5 rn5 rc5) (.slice kq5 kn5 kc5)
          have hvj := Lib.hid (CV.On.below hvj.out hb1 (Nat.le_refl _))
          have ra := Lib.hid (ra.out.below hb1)
          have rb := Lib.hid (rb.out.below hb1)
          have rk := Lib.hid (rk.out.below hb1)
          have hd := Lib.hid (below_step hb1 hd.out)
          clear hb1
          go_wp2_with (first
            | ((with_reducible refine wpList_store_at rfl 25 (.tmp 11) (.tmp 49) rfl (o := 0) (vs := [.int .i64 k5, .slice rq5 rn5 rc5, .slice kq5 kn5 kc5]) rfl rfl yj.out hs5 (Nat.le_refl _) (cont_one _ _ _ _ _ _ _) ?_)
               intro y1 h9 hg9
               have yx : Hid (RowV 25 y1 w5.heap.size [.int .i64 k5, .slice rq5 rn5 rc5, .slice kq5 kn5 kc5]) := h9
               have yb := Lib.hid yx.out.boxed
               have ra := Lib.hid (RowV.gr ra.out hg9 (by have := hz5.out; omega))
               have rb := Lib.hid (RowV.gr rb.out hg9 (by have := hz5.out; omega))
               have rk := Lib.hid (RowV.gr rk.out hg9 (by have := hz5.out; omega))
               have hvj : Hid (CV.On ⟨k5, rq5, rn5, rc5, kq5, kn5, kc5⟩ y1 (joinC a b ⟨kt, ki⟩)) := (ContOn.gr hvj.out hg9 (fun a e => by have := (hfv.out.1 a e).2; omega) (fun a e => by have := (hfv.out.2 a e).2; omega))
               have hd := Lib.hid (Gr.below hg9 hd.out (by have := hz5.out; omega))
               clear h9 hg9 yj)
            | (with_reducible refine wpList_load_at rfl 25 (.tmp 11) rfl Try.underlying25 rfl hs5 rfl yb.out.all ?_))
          refine (refCut_any ⟨k5, rq5, rn5, rc5, kq5, kn5, kc5⟩ _ L y1 hvj.out hjk.out hj1.out hj2.out (by rw [hjz.out]; omega) (by rw [hjz.out]; exact hLm)).mono ?_
          clear hy0 yr
          rintro e w6 ⟨⟨ka, rqa, rna, rca, kqa, kna, kca⟩, ⟨kb, rqb, rnb, rcb, kqb, knb, kcb⟩, rfl, hA, hB, hfa, hfb, hb1⟩
          obtain ⟨⟨st, si⟩, hcs⟩ : ∃ s, cutS (joinC a b ⟨kt, ki⟩) L = s := ⟨_, rfl⟩
          have hcs := Lib.hid hcs
          rw [hcs.out]
          simp only [CV.val]
          have hA := Lib.hid hA
          have hB := Lib.hid hB
          have hly : Hid (w.heap.size + 5 < y1.heap.size) := rk.out.lt
          have hfa : Hid ((∀ a, rqa = some a → y1.heap.size ≤ a.block) ∧ (∀ a, kqa = some a → y1.heap.size ≤ a.block)) := ⟨fun a e => (hfa.1 a e).1, fun a e => (hfa.2 a e).1⟩
          have hfb : Hid ((∀ a, rqb = some a → y1.heap.size ≤ a.block) ∧ (∀ a, kqb = some a → y1.heap.size ≤ a.block)) := ⟨fun a e => (hfb.1 a e).1, fun a e => (hfb.2 a e).1⟩
          have yb := Lib.hid (yb.out.below hb1 (Nat.le_refl _))
          have hvj := Lib.hid (CV.On.below hvj.out hb1 (Nat.le_refl _))
          have hz6 : Hid (w.heap.size + 5 < w6.heap.size) := Nat.lt_of_lt_of_le hly.out hb1.size
          have ra := Lib.hid (ra.out.below hb1)
          have rb := Lib.hid (rb.out.below hb1)
          have rk := Lib.hid (rk.out.below hb1)
          have hd := Lib.hid (below_step hb1 hd.out)
          clear hb1
          clear yx
          obtain ⟨x0, hx0⟩ : ∃ x, ((w6.alloc (.cells #[.int .i64 0, .slice none 0 0, .slice none 0 0] 25)).alloc (.cells #[.int .i64 0, .slice none 0 0, .slice none 0 0] 25)).alloc (.cells #[.int .i64 0, .int .u16 0] 28) = x := ⟨_, rfl⟩
          have xr := Lib.hid (three_rows (xs := [.int .i64 0, .slice none 0 0, .slice none 0 0]) (ys := [.int .i64 0, .slice none 0 0, .slice none 0 0]) (zs := [.int .i64 0, .int .u16 0]) hx0)
          have xq := Lib.hid xr.out.1
          have xa := Lib.hid xr.out.2.1
          have xb := Lib.hid xr.out.2.2.1
          have xk := Lib.hid xr.out.2.2.2.1
          have xsA := sizeCont (.int .i64 ka) (.slice rqa rna rca) (.slice kqa kna kca)
          have xsB := sizeCont (.int .i64 kb) (.slice rqb rnb rcb) (.slice kqb knb kcb)
          have xsK := sizeKey st si
          clear xr
          go_wp2_with (first
            | ((with_reducible refine wpList_store_at rfl 25 (.tmp 12) (.tmp 54) rfl (o := 0) (vs := [.int .i64 ka, .slice rqa rna rca, .slice kqa kna kca]) rfl rfl xa.out xsA (Nat.le_refl _) (cont_one _ _ _ _ _ _ _) ?_)
               intro x1 h9 hg9
               have xa : Hid (RowV 25 x1 _ [.int .i64 ka, .slice rqa rna rca, .slice kqa kna kca]) := h9
               have xb := Lib.hid (RowV.gr xb.out hg9 (by omega))
               have xk := Lib.hid (RowV.gr xk.out hg9 (by omega))
               have xq := Lib.hid (Gr.below hg9 xq.out (by omega))
               clear h9 hg9)
            | ((with_reducible refine wpList_store_at rfl 25 (.tmp 13) (.tmp 55) rfl (o := 0) (vs := [.int .i64 kb, .slice rqb rnb rcb, .slice kqb knb kcb]) rfl rfl xb.out xsB (Nat.le_refl _) (cont_one _ _ _ _ _ _ _) ?_)
               intro x2 h9 hg9
               have xb : Hid (RowV 25 x2 _ [.int .i64 kb, .slice rqb rnb rcb, .slice kqb knb kcb]) := h9
               have xa := Lib.hid (RowV.gr xa.out hg9 (by omega))
               have xk := Lib.hid (RowV.gr xk.out hg9 (by omega))
               have xq := Lib.hid (Gr.below hg9 xq.out (by omega))
               clear h9 hg9)
            | ((with_reducible refine wpList_store_at rfl 28 (.tmp 14) (.tmp 56) rfl (o := 0) (vs := [.int .i64 st, .int .u16 si]) rfl rfl xk.out xsK (Nat.le_refl _) (key_one _ _) ?_)
               intro x3 h9 hg9
               have xk : Hid (RowV 28 x3 _ [.int .i64 st, .int .u16 si]) := h9
               have xa := Lib.hid (RowV.gr xa.out hg9 (by omega))
               have xb := Lib.hid (RowV.gr xb.out hg9 (by omega))
               have xq := Lib.hid (Gr.below hg9 xq.out (by omega))
               have bx := Lib.hid xa.out.boxed
               have by' := Lib.hid xb.out.boxed
               have bk := Lib.hid xk.out.boxed
               clear h9 hg9)
            | (with_reducible refine wpList_load_at rfl 25 (.tmp 13) rfl Try.underlying25 rfl xsB rfl by'.out.all ?_))
          have hb1 := xq.out
          have yb := Lib.hid (yb.out.below hb1 (Nat.le_refl _))
          have hvj := Lib.hid (CV.On.below hvj.out hb1 (Nat.le_refl _))
          have hA := Lib.hid (CV.On.below hA.out hb1 (Nat.le_refl _))
          have hB := Lib.hid (CV.On.below hB.out hb1 (Nat.le_refl _))
          have bx := Lib.hid xa.out.boxed
          have by' := Lib.hid xb.out.boxed
          have bk := Lib.hid xk.out.boxed
          clear xa xb xk xq hx0
          have ra := Lib.hid (ra.out.below hb1)
          have rb := Lib.hid (rb.out.below hb1)
          have rk := Lib.hid (rk.out.below hb1)
          have hd := Lib.hid (below_step hb1 hd.out)
          clear hb1
          obtain ⟨R, hR⟩ : ∃ R : Nat, m + n - L = R := ⟨_, rfl⟩
          have hcz := Lib.hid (cutA_size hjk.out hj1.out hj2.out (i := L) (by rw [hjz.out]; exact hLm))
          rw [hjz.out, hR] at hcz
          have hRR := Lib.hid hR
          have hR8 : R ≤ 8 := by omega
          clear hR
          have hsb := refSize_any ⟨kb, rqb, rnb, rcb, kqb, knb, kcb⟩ _ x3 hB.out (by rw [hcz.out.2]; omega)
          rw [hcz.out.2] at hsb
          refine hsb.mono ?_
          clear hsb
          rintro e w7 ⟨rfl, hb1⟩
          have yb := Lib.hid (yb.out.below hb1 (Nat.le_refl _))
          have hvj := Lib.hid (CV.On.below hvj.out hb1 (Nat.le_refl _))
          have hA := Lib.hid (CV.On.below hA.out hb1 (Nat.le_refl _))
          have hB := Lib.hid (CV.On.below hB.out hb1 (Nat.le_refl _))
          have bx := Lib.hid (bx.out.below hb1 (Nat.le_refl _))
          have by' := Lib.hid (by'.out.below hb1 (Nat.le_refl _))
          have bk := Lib.hid (bk.out.below hb1 (Nat.le_refl _))
          have ra := Lib.hid (ra.out.below hb1)
          have rb := Lib.hid (rb.out.below hb1)
          have rk := Lib.hid (rk.out.below hb1)
          have hd := Lib.hid (below_step hb1 hd.out)
          clear hb1
          obtain ⟨z, hz0⟩ : ∃ z : Bool, ((R : Int) == 0) = z := ⟨_, rfl⟩
          have hz0' := Lib.hid hz0
          cases z with
          | true =>
            have hno : Hid (¬ LvOk a b ⟨kt, ki⟩) := fun h => by
              have h1 := h.2.2.1
              rw [hat.out, hjz.out] at h1
              have h2 := hRR.out
              have h3 := hz0'.out
              simp at h3
              omega
            clear bx by' bk yb hvj hA hB
            go_wp2_with (first
              | ((with_reducible refine wpList_store_at rfl 25 (.tmp 6) (.tmp 75) rfl (o := 0) (vs := [.int .i64 0, .slice none 0 0, .slice none 0 0]) rfl rfl ra.out hz (Nat.le_refl _) (cont_one _ _ _ _ _ _ _) ?_)
                 intro wd1 h9 hg9
                 have ra : Hid (RowV 25 wd1 _ [.int .i64 0, .slice none 0 0, .slice none 0 0]) := h9
                 have rb := Lib.hid (RowV.gr rb.out hg9 (by omega))
                 have rk := Lib.hid (RowV.gr rk.out hg9 (by omega))
                 have hd := Lib.hid (Gr.below hg9 hd.out (by omega))
                 clear h9 hg9)
              | ((with_reducible refine wpList_store_at rfl 25 (.tmp 7) (.tmp 76) rfl (o := 0) (vs := [.int .i64 0, .slice none 0 0, .slice none 0 0]) rfl rfl rb.out hz (Nat.le_refl _) (cont_one _ _ _ _ _ _ _) ?_)
                 intro wd2 h9 hg9
                 have rb : Hid (RowV 25 wd2 _ [.int .i64 0, .slice none 0 0, .slice none 0 0]) := h9
                 have ra := Lib.hid (RowV.gr ra.out hg9 (by omega))
                 have rk := Lib.hid (RowV.gr rk.out hg9 (by omega))
                 have hd := Lib.hid (Gr.below hg9 hd.out (by omega))
                 clear h9 hg9)
              | ((with_reducible refine wpList_store_at rfl 28 (.tmp 8) (.tmp 77) rfl (o := 0) (vs := [.int .i64 0, .int .u16 0]) rfl rfl rk.out hzk (Nat.le_refl _) (key_one _ _) ?_)
                 intro wd3 h9 hg9
                 have rk : Hid (RowV 28 wd3 _ [.int .i64 0, .int .u16 0]) := h9
                 have ra := Lib.hid (RowV.gr ra.out hg9 (by omega))
                 have rb := Lib.hid (RowV.gr rb.out hg9 (by omega))
                 have hd := Lib.hid (Gr.below hg9 hd.out (by omega))
                 clear h9 hg9))
            have s0 : RowV 25 wd3 (w.heap.size + 3) [.int .i64 0, .slice none 0 0, .slice none 0 0] := ra.out
            have m00 := s0.cell 0
            have m01 := s0.cell 1
            have m02 := s0.cell 2
            have s1 : RowV 25 wd3 (w.heap.size + 4) [.int .i64 0, .slice none 0 0, .slice none 0 0] := rb.out
            have m10 := s1.cell 0
            have m11 := s1.cell 1
            have m12 := s1.cell 2
            have s2 : RowV 28 wd3 (w.heap.size + 5) [.int .i64 0, .int .u16 0] := rk.out
            have m20 := s2.cell 0
            have m21 := s2.cell 1
            simp only [List.getElem?_cons_zero, List.getElem?_cons_succ] at m00 m01 m02 m10 m11 m12 m20 m21
            clear s0 s1 s2
            refine bodyPost_ret (v := .tuple #[CV.val zV, CV.val zV, .agg #[.int .i64 zK.t, .int .u16 zK.id], .bool false]) (by simp [results, Try.results31, go_sem, m00, m01, m02, m10, m11, m12, m20, m21, zV, zK]) rfl ?_
            exact ⟨zV, zV, zeroC, zeroC, zK, false, rfl, .inr ⟨rfl, hno.out, rfl, rfl, rfl⟩, zV_on _, zV_on _, hd.out⟩
          | false =>
            obtain ⟨rs, hrs⟩ := bool_of (RiseC (joinC a b ⟨kt, ki⟩) ∧ ApartC (joinC a b ⟨kt, ki⟩))
            have hrs' := Lib.hid hrs
            have hrc := Lib.hid (refRises_any ⟨k5, rq5, rn5, rc5, kq5, kn5, kc5⟩ _ rs hrs w7 hvj.out)
            clear hrs
            have e0 := yb.out.cell 0 rfl
            have e1 := yb.out.cell 1 rfl
            have e2 := yb.out.cell 2 rfl
            go_wp2_with fail
            refine hrc.out.mono ?_
            clear hrc yb hvj hs5
            rintro e w8 ⟨rfl, hb1⟩
            have hA := Lib.hid (CV.On.below hA.out hb1 (Nat.le_refl _))
            have hB := Lib.hid (CV.On.below hB.out hb1 (Nat.le_refl _))
            have bx := Lib.hid (bx.out.below hb1 (Nat.le_refl _))
            have by' := Lib.hid (by'.out.below hb1 (Nat.le_refl _))
            have bk := Lib.hid (bk.out.below hb1 (Nat.le_refl _))
            have ra := Lib.hid (ra.out.below hb1)
            have rb := Lib.hid (rb.out.below hb1)
            have rk := Lib.hid (rk.out.below hb1)
            have hd := Lib.hid (below_step hb1 hd.out)
            clear hb1
            cases rs with
            | false =>
              have hno : Hid (¬ LvOk a b ⟨kt, ki⟩) := fun h => by have := hrs'.out.2 h.2.2.2; cases this
              clear bx by' bk hA hB
              go_wp2_with (first
                | ((with_reducible refine wpList_store_at rfl 25 (.tmp 6) (.tmp 75) rfl (o := 0) (vs := [.int .i64 0, .slice none 0 0, .slice none 0 0]) rfl rfl ra.out hz (Nat.le_refl _) (cont_one _ _ _ _ _ _ _) ?_)
                   intro we1 h9 hg9
                   have ra : Hid (RowV 25 we1 _ [.int .i64 0, .slice none 0 0, .slice none 0 0]) := h9
                   have rb := Lib.hid (RowV.gr rb.out hg9 (by omega))
                   have rk := Lib.hid (RowV.gr rk.out hg9 (by omega))
                   have hd := Lib.hid (Gr.below hg9 hd.out (by omega))
                   clear h9 hg9)
                | ((with_reducible refine wpList_store_at rfl 25 (.tmp 7) (.tmp 76) rfl (o := 0) (vs := [.int .i64 0, .slice none 0 0, .slice none 0 0]) rfl rfl rb.out hz (Nat.le_refl _) (cont_one _ _ _ _ _ _ _) ?_)
                   intro we2 h9 hg9
                   have rb : Hid (RowV 25 we2 _ [.int .i64 0, .slice none 0 0, .slice none 0 0]) := h9
                   have ra := Lib.hid (RowV.gr ra.out hg9 (by omega))
                   have rk := Lib.hid (RowV.gr rk.out hg9 (by omega))
                   have hd := Lib.hid (Gr.below hg9 hd.out (by omega))
                   clear h9 hg9)
                | ((with_reducible refine wpList_store_at rfl 28 (.tmp 8) (.tmp 77) rfl (o := 0) (vs := [.int .i64 0, .int .u16 0]) rfl rfl rk.out hzk (Nat.le_refl _) (key_one _ _) ?_)
                   intro we3 h9 hg9
                   have rk : Hid (RowV 28 we3 _ [.int .i64 0, .int .u16 0]) := h9
                   have ra := Lib.hid (RowV.gr ra.out hg9 (by omega))
                   have rb := Lib.hid (RowV.gr rb.out hg9 (by omega))
                   have hd := Lib.hid (Gr.below hg9 hd.out (by omega))
                   clear h9 hg9))
              have s0 : RowV 25 we3 (w.heap.size + 3) [.int .i64 0, .slice none 0 0, .slice none 0 0] := ra.out
              have m00 := s0.cell 0
              have m01 := s0.cell 1
              have m02 := s0.cell 2
              have s1 : RowV 25 we3 (w.heap.size + 4) [.int .i64 0, .slice none 0 0, .slice none 0 0] := rb.out
              have m10 := s1.cell 0
              have m11 := s1.cell 1
              have m12 := s1.cell 2
              have s2 : RowV 28 we3 (w.heap.size + 5) [.int .i64 0, .int .u16 0] := rk.out
              have m20 := s2.cell 0
              have m21 := s2.cell 1
              simp only [List.getElem?_cons_zero, List.getElem?_cons_succ] at m00 m01 m02 m10 m11 m12 m20 m21
              clear s0 s1 s2
              refine bodyPost_ret (v := .tuple #[CV.val zV, CV.val zV, .agg #[.int .i64 zK.t, .int .u16 zK.id], .bool false]) (by simp [results, Try.results31, go_sem, m00, m01, m02, m10, m11, m12, m20, m21, zV, zK]) rfl ?_
              exact ⟨zV, zV, zeroC, zeroC, zK, false, rfl, .inr ⟨rfl, hno.out, rfl, rfl, rfl⟩, zV_on _, zV_on _, hd.out⟩
            | true =>
              have hok : Hid (LvOk a b ⟨kt, ki⟩) := ⟨hK.out, by rw [hm'.out, hn'.out]; exact hne.out, by
                rw [hat.out, hjz.out]
                have h2 := hRR.out
                have h3 := hz0'.out
                simp at h3
                omega, (hrs'.out.1 rfl).1, (hrs'.out.1 rfl).2⟩
              have hfi := Lib.hid (level_fine hG.out.1 hG.out.2 hok.out hoks.out.1 hoks.out.2 hko'.out)
              rw [hat.out] at hfi
              have e0 := bx.out.cell 0 rfl
              have e1 := bx.out.cell 1 rfl
              have e2 := bx.out.cell 2 rfl
              go_wp2_with fail
              refine (right_doc ka rqa rna rca kqa kna kca _ w8 hA.out).mono ?_
              rintro e w9 ⟨gb, rfl, hgb, hb1⟩
              obtain rfl : gb = true := hgb.2 hfi.out.1
              clear hgb e0 e1 e2
              have hA := Lib.hid (CV.On.below hA.out hb1 (Nat.le_refl _))
              have hB := Lib.hid (CV.On.below hB.out hb1 (Nat.le_refl _))
              have bx := Lib.hid (bx.out.below hb1 (Nat.le_refl _))
              have by' := Lib.hid (by'.out.below hb1 (Nat.le_refl _))
              have bk := Lib.hid (bk.out.below hb1 (Nat.le_refl _))
              have ra := Lib.hid (ra.out.below hb1)
              have rb := Lib.hid (rb.out.below hb1)
              have rk := Lib.hid (rk.out.below hb1)
              have hd := Lib.hid (below_step hb1 hd.out)
              clear hb1
              have e0 := by'.out.cell 0 rfl
              have e1 := by'.out.cell 1 rfl
              have e2 := by'.out.cell 2 rfl
              go_wp2_with fail
              refine (right_doc kb rqb rnb rcb kqb knb kcb _ w9 hB.out).mono ?_
              rintro e w10 ⟨gb, rfl, hgb, hb1⟩
              obtain rfl : gb = true := hgb.2 hfi.out.2.1
              clear hgb e0 e1 e2
              have hA := Lib.hid (CV.On.below hA.out hb1 (Nat.le_refl _))
              have hB := Lib.hid (CV.On.below hB.out hb1 (Nat.le_refl _))
              have bx := Lib.hid (bx.out.below hb1 (Nat.le_refl _))
              have by' := Lib.hid (by'.out.below hb1 (Nat.le_refl _))
              have bk := Lib.hid (bk.out.below hb1 (Nat.le_refl _))
              have ra := Lib.hid (ra.out.below hb1)
              have rb := Lib.hid (rb.out.below hb1)
              have rk := Lib.hid (rk.out.below hb1)
              have hd := Lib.hid (below_step hb1 hd.out)
              clear hb1
              go_wp2_with fail
              refine wp_region_held (S := fun u => Boxed u w6.heap.size [.int .i64 ka, .slice rqa rna rca, .slice kqa kna kca] ∧ Boxed u (w6.heap.size + 1) [.int .i64 kb, .slice rqb rnb rcb, .slice kqb knb kcb] ∧ Boxed u (w6.heap.size + 2) [.int .i64 st, .int .u16 si]) (by kernel_rfl) ?_
              change wpAnyH _ _ _ _ _ _ _ _ (World.drew w10)
              have hS0 : Hid (Boxed w10.drew w6.heap.size [.int .i64 ka, .slice rqa rna rca, .slice kqa kna kca] ∧ Boxed w10.drew (w6.heap.size + 1) [.int .i64 kb, .slice rqb rnb rcb, .slice kqb knb kcb] ∧ Boxed w10.drew (w6.heap.size + 2) [.int .i64 st, .int .u16 si]) := ⟨bx.out.below (below_drew _) (Nat.le_refl _), by'.out.below (below_drew _) (Nat.le_refl _), bk.out.below (below_drew _) (Nat.le_refl _)⟩
              have ra := Lib.hid (ra.out.below (below_drew w10))
              have rb := Lib.hid (rb.out.below (below_drew w10))
              have rk := Lib.hid (rk.out.below (below_drew w10))
              have hA := Lib.hid (hA.out.below (below_drew w10) (Nat.le_refl _))
              have hB := Lib.hid (hB.out.below (below_drew w10) (Nat.le_refl _))
              have hd := Lib.hid (below_step (below_drew w10) hd.out)
              clear bx by' bk
              generalize World.drew w10 = y0' at hS0 ra rb rk hA hB hd ⊢
              refine held_tk (i := 0) (dst := some 78) rfl rfl (y_load_agg 25 (.tmp 12) rfl rfl rfl (fun u hu => run_loadVar_at Try.underlying25 rfl xsA _ hu.1.all)) hS0.out ?_; go_frame
              refine held_tk (i := 1) (dst := some 79) rfl rfl (y_load_agg 25 (.tmp 13) rfl rfl rfl (fun u hu => run_loadVar_at Try.underlying25 rfl xsB _ hu.2.1.all)) hS0.out ?_; go_frame
              refine held_tk (i := 2) (dst := some 80) rfl rfl (y_load_agg 28 (.tmp 14) rfl rfl rfl (fun u hu => run_loadVar_at Try.underlying28 rfl xsK _ hu.2.2.all)) hS0.out ?_; go_frame
              obtain ⟨y1', hst, h9, hg9⟩ := run_storeVar_at (P := Try.prog) (ty := 25) (o := 0) (vs := [.int .i64 ka, .slice rqa rna rca, .slice kqa kna kca]) ra.out (sizeCont _ _ _) (Nat.le_refl _) (cont_one _ _ _ _ _ _ _)
              replace ra : Hid (RowV 25 y1' (w.heap.size + 3) [.int .i64 ka, .slice rqa rna rca, .slice kqa kna kca]) := h9
              replace rb := Lib.hid (RowV.gr rb.out hg9 (by omega))
              replace rk := Lib.hid (RowV.gr rk.out hg9 (by omega))
              replace hA := Lib.hid (ContOn.gr hA.out hg9 (fun a e => by have := hfa.out.1 a e; have := hly.out; omega) (fun a e => by have := hfa.out.2 a e; have := hly.out; omega))
              replace hB := Lib.hid (ContOn.gr hB.out hg9 (fun a e => by have := hfb.out.1 a e; have := hly.out; omega) (fun a e => by have := hfb.out.2 a e; have := hly.out; omega))
              replace hS0 := Lib.hid (And.intro (hS0.out.1.gr hg9 (by have := hz6.out; omega)) (And.intro (hS0.out.2.1.gr hg9 (by have := hz6.out; omega)) (hS0.out.2.2.gr hg9 (by have := hz6.out; omega))))
              replace hd := Lib.hid (Gr.below hg9 hd.out (by omega))
              clear h9 hg9
              refine held_skip (i := 3) (dst := none) (w' := y1') rfl rfl (by kernel_rfl) rfl (run_store_op (x := .tmp 6) (y := .tmp 78) rfl rfl rfl hst) hS0.out ?_; go_frame
              clear hst
              obtain ⟨y2', hst, h9, hg9⟩ := run_storeVar_at (P := Try.prog) (ty := 25) (o := 0) (vs := [.int .i64 kb, .slice rqb rnb rcb, .slice kqb knb kcb]) rb.out (sizeCont _ _ _) (Nat.le_refl _) (cont_one _ _ _ _ _ _ _)
              replace rb : Hid (RowV 25 y2' (w.heap.size + 4) [.int .i64 kb, .slice rqb rnb rcb, .slice kqb knb kcb]) := h9
              replace ra := Lib.hid (RowV.gr ra.out hg9 (by omega))
              replace rk := Lib.hid (RowV.gr rk.out hg9 (by omega))
              replace hA := Lib.hid (ContOn.gr hA.out hg9 (fun a e => by have := hfa.out.1 a e; have := hly.out; omega) (fun a e => by have := hfa.out.2 a e; have := hly.out; omega))
              replace hB := Lib.hid (ContOn.gr hB.out hg9 (fun a e => by have := hfb.out.1 a e; have := hly.out; omega) (fun a e => by have := hfb.out.2 a e; have := hly.out; omega))
              replace hS0 := Lib.hid (And.intro (hS0.out.1.gr hg9 (by have := hz6.out; omega)) (And.intro (hS0.out.2.1.gr hg9 (by have := hz6.out; omega)) (hS0.out.2.2.gr hg9 (by have := hz6.out; omega))))
              replace hd := Lib.hid (Gr.below hg9 hd.out (by omega))
              clear h9 hg9
              refine held_skip (i := 4) (dst := none) (w' := y2') rfl rfl (by kernel_rfl) rfl (run_store_op (x := .tmp 7) (y := .tmp 79) rfl rfl rfl hst) hS0.out ?_; go_frame
              clear hst
              obtain ⟨y3', hst, h9, hg9⟩ := run_storeVar_at (P := Try.prog) (ty := 28) (o := 0) (vs := [.int .i64 st, .int .u16 si]) rk.out (sizeKey _ _) (Nat.le_refl _) (key_one _ _)
              replace rk : Hid (RowV 28 y3' (w.heap.size + 5) [.int .i64 st, .int .u16 si]) := h9
              replace ra := Lib.hid (RowV.gr ra.out hg9 (by omega))
              replace rb := Lib.hid (RowV.gr rb.out hg9 (by omega))
              replace hA := Lib.hid (ContOn.gr hA.out hg9 (fun a e => by have := hfa.out.1 a e; have := hly.out; omega) (fun a e => by have := hfa.out.2 a e; have := hly.out; omega))
              replace hB := Lib.hid (ContOn.gr hB.out hg9 (fun a e => by have := hfb.out.1 a e; have := hly.out; omega) (fun a e => by have := hfb.out.2 a e; have := hly.out; omega))
              replace hS0 := Lib.hid (And.intro (hS0.out.1.gr hg9 (by have := hz6.out; omega)) (And.intro (hS0.out.2.1.gr hg9 (by have := hz6.out; omega)) (hS0.out.2.2.gr hg9 (by have := hz6.out; omega))))
              replace hd := Lib.hid (Gr.below hg9 hd.out (by omega))
              clear h9 hg9
              refine held_skip (i := 5) (dst := none) (w' := y3') rfl rfl (by kernel_rfl) rfl (run_store_op (x := .tmp 8) (y := .tmp 80) rfl rfl rfl hst) hS0.out ?_; go_frame
              clear hst
              refine held_tk (i := 6) (dst := some 9) (v := .bool true) rfl rfl (.inl ⟨rfl, fun u hu => by go_simp⟩) hS0.out ?_; go_frame
              refine wpAnyH_done (by kernel_rfl) ?_ _
              have s0 : RowV 25 y3' (w.heap.size + 3) [.int .i64 ka, .slice rqa rna rca, .slice kqa kna kca] := ra.out
              have m00 := s0.cell 0
              have m01 := s0.cell 1
              have m02 := s0.cell 2
              have s1 : RowV 25 y3' (w.heap.size + 4) [.int .i64 kb, .slice rqb rnb rcb, .slice kqb knb kcb] := rb.out
              have m10 := s1.cell 0
              have m11 := s1.cell 1
              have m12 := s1.cell 2
              have s2 : RowV 28 y3' (w.heap.size + 5) [.int .i64 st, .int .u16 si] := rk.out
              have m20 := s2.cell 0
              have m21 := s2.cell 1
              simp only [List.getElem?_cons_zero, List.getElem?_cons_succ] at m00 m01 m02 m10 m11 m12 m20 m21
              clear s0 s1 s2
              go_wp2
              refine bodyPost_ret (v := .tuple #[.agg #[.int .i64 ka, .slice rqa rna rca, .slice kqa kna kca], .agg #[.int .i64 kb, .slice rqb rnb rcb, .slice kqb knb kcb], .agg #[.int .i64 st, .int .u16 si], .bool true]) (by simp [results, Try.results31, go_sem, m00, m01, m02, m10, m11, m12, m20, m21]) rfl ?_
              exact ⟨⟨ka, rqa, rna, rca, kqa, kna, kca⟩, ⟨kb, rqb, rnb, rcb, kqb, knb, kcb⟩, _, _, ⟨st, si⟩, true, rfl, .inl ⟨rfl, hok.out, by rw [hat.out], by rw [hat.out], by rw [hat.out]; exact hcs.out.symm⟩, hA.out, hB.out, hd.out⟩
        | false =>
          have hlt := of_decide_eq_false hq'.out
          have hlt2 := hne.out
          obtain ⟨L, hL⟩ : ∃ L, m + 1 = L := ⟨_, rfl⟩
          have hat : Hid (lvAt a b = L) := by
            show lvAt a b = L
            unfold lvAt
            rw [hm'.out, hn'.out, if_pos (by omega), hL]
          have ew3 : (m : Int) + 1 = (L : Int) := by omega
          rw [ew3]
          have hLm : L ≤ m + n := by omega
          clear hza hL ew3
          go_wp2_with (first
            | (with_reducible refine wpList_load_at rfl 25 (.tmp 3) rfl Try.underlying25 rfl hs rfl ba.out.all ?_)
            | (with_reducible refine wpList_load_at rfl 25 (.tmp 4) rfl Try.underlying25 rfl hs2 rfl bb.out.all ?_)
            | (with_reducible refine wpList_load_at rfl 28 (.tmp 5) rfl Try.underlying28 rfl hs3 rfl bk.out.all ?_))
          refine (hbo.out w3 hd.out).mono ?_
          clear hbo
          rintro e w5 ⟨⟨k5, rq5, rn5, rc5, kq5, kn5, kc5⟩, rfl, hvj, hfv, hb1⟩
          rw [hje.out] at hvj
          simp only [CV.val]
          have hvj := Lib.hid hvj
          have hl5 : Hid (w.heap.size + 5 < w3.heap.size) := rk.out.lt
          have hfv : Hid ((∀ a, rq5 = some a → w3.heap.size ≤ a.block ∧ a.block < w5.heap.size) ∧ (∀ a, kq5 = some a → w3.heap.size ≤ a.block ∧ a.block < w5.heap.size)) := hfv
          have hz5 : Hid (w.heap.size + 5 < w5.heap.size) := Nat.lt_of_lt_of_le hl5.out hb1.size
          have ra := Lib.hid (ra.out.below hb1)
          have rb := Lib.hid (rb.out.below hb1)
          have rk := Lib.hid (rk.out.below hb1)
          have hd := Lib.hid (below_step hb1 hd.out)
          clear hb1
          clear ba bb bk
          obtain ⟨y0, hy0⟩ : ∃ x, w5.alloc (.cells #[.int .i64 0, .slice none 0 0, .slice none 0 0] 25) = x := ⟨_, rfl⟩
          have yr := Lib.hid (one_row (xs := [.int .i64 0, .slice none 0 0, .slice none 0 0]) hy0)
          have hb1 := yr.out.1
          have yj := Lib.hid yr.out.2.1
          have hs5 := sizeCont (.int .i64 k5) (.slice rq5 rn5 rc5) (.slice kq5 kn5 kc5)
          have hvj := Lib.hid (CV.On.below hvj.out hb1 (Nat.le_refl _))
          have ra := Lib.hid (ra.out.below hb1)
          have rb := Lib.hid (rb.out.below hb1)
          have rk := Lib.hid (rk.out.below hb1)
          have hd := Lib.hid (below_step hb1 hd.out)
          clear hb1
          go_wp2_with (first
            | ((with_reducible refine wpList_store_at rfl 25 (.tmp 11) (.tmp 49) rfl (o := 0) (vs := [.int .i64 k5, .slice rq5 rn5 rc5, .slice kq5 kn5 kc5]) rfl rfl yj.out hs5 (Nat.le_refl _) (cont_one _ _ _ _ _ _ _) ?_)
               intro y1 h9 hg9
               have yx : Hid (RowV 25 y1 w5.heap.size [.int .i64 k5, .slice rq5 rn5 rc5, .slice kq5 kn5 kc5]) := h9
               have yb := Lib.hid yx.out.boxed
               have ra := Lib.hid (RowV.gr ra.out hg9 (by have := hz5.out; omega))
               have rb := Lib.hid (RowV.gr rb.out hg9 (by have := hz5.out; omega))
               have rk := Lib.hid (RowV.gr rk.out hg9 (by have := hz5.out; omega))
               have hvj : Hid (CV.On ⟨k5, rq5, rn5, rc5, kq5, kn5, kc5⟩ y1 (joinC a b ⟨kt, ki⟩)) := (ContOn.gr hvj.out hg9 (fun a e => by have := (hfv.out.1 a e).2; omega) (fun a e => by have := (hfv.out.2 a e).2; omega))
               have hd := Lib.hid (Gr.below hg9 hd.out (by have := hz5.out; omega))
               clear h9 hg9 yj)
            | (with_reducible refine wpList_load_at rfl 25 (.tmp 11) rfl Try.underlying25 rfl hs5 rfl yb.out.all ?_))
          refine (refCut_any ⟨k5, rq5, rn5, rc5, kq5, kn5, kc5⟩ _ L y1 hvj.out hjk.out hj1.out hj2.out (by rw [hjz.out]; omega) (by rw [hjz.out]; exact hLm)).mono ?_
          clear hy0 yr
          rintro e w6 ⟨⟨ka, rqa, rna, rca, kqa, kna, kca⟩, ⟨kb, rqb, rnb, rcb, kqb, knb, kcb⟩, rfl, hA, hB, hfa, hfb, hb1⟩
          obtain ⟨⟨st, si⟩, hcs⟩ : ∃ s, cutS (joinC a b ⟨kt, ki⟩) L = s := ⟨_, rfl⟩
          have hcs := Lib.hid hcs
          rw [hcs.out]
          simp only [CV.val]
          have hA := Lib.hid hA
          have hB := Lib.hid hB
          have hly : Hid (w.heap.size + 5 < y1.heap.size) := rk.out.lt
          have hfa : Hid ((∀ a, rqa = some a → y1.heap.size ≤ a.block) ∧ (∀ a, kqa = some a → y1.heap.size ≤ a.block)) := ⟨fun a e => (hfa.1 a e).1, fun a e => (hfa.2 a e).1⟩
          have hfb : Hid ((∀ a, rqb = some a → y1.heap.size ≤ a.block) ∧ (∀ a, kqb = some a → y1.heap.size ≤ a.block)) := ⟨fun a e => (hfb.1 a e).1, fun a e => (hfb.2 a e).1⟩
          have yb := Lib.hid (yb.out.below hb1 (Nat.le_refl _))
          have hvj := Lib.hid (CV.On.below hvj.out hb1 (Nat.le_refl _))
          have hz6 : Hid (w.heap.size + 5 < w6.heap.size) := Nat.lt_of_lt_of_le hly.out hb1.size
          have ra := Lib.hid (ra.out.below hb1)
          have rb := Lib.hid (rb.out.below hb1)
          have rk := Lib.hid (rk.out.below hb1)
          have hd := Lib.hid (below_step hb1 hd.out)
          clear hb1
          clear yx
          obtain ⟨x0, hx0⟩ : ∃ x, ((w6.alloc (.cells #[.int .i64 0, .slice none 0 0, .slice none 0 0] 25)).alloc (.cells #[.int .i64 0, .slice none 0 0, .slice none 0 0] 25)).alloc (.cells #[.int .i64 0, .int .u16 0] 28) = x := ⟨_, rfl⟩
          have xr := Lib.hid (three_rows (xs := [.int .i64 0, .slice none 0 0, .slice none 0 0]) (ys := [.int .i64 0, .slice none 0 0, .slice none 0 0]) (zs := [.int .i64 0, .int .u16 0]) hx0)
          have xq := Lib.hid xr.out.1
          have xa := Lib.hid xr.out.2.1
          have xb := Lib.hid xr.out.2.2.1
          have xk := Lib.hid xr.out.2.2.2.1
          have xsA := sizeCont (.int .i64 ka) (.slice rqa rna rca) (.slice kqa kna kca)
          have xsB := sizeCont (.int .i64 kb) (.slice rqb rnb rcb) (.slice kqb knb kcb)
          have xsK := sizeKey st si
          clear xr
          go_wp2_with (first
            | ((with_reducible refine wpList_store_at rfl 25 (.tmp 12) (.tmp 54) rfl (o := 0) (vs := [.int .i64 ka, .slice rqa rna rca, .slice kqa kna kca]) rfl rfl xa.out xsA (Nat.le_refl _) (cont_one _ _ _ _ _ _ _) ?_)
               intro x1 h9 hg9
               have xa : Hid (RowV 25 x1 _ [.int .i64 ka, .slice rqa rna rca, .slice kqa kna kca]) := h9
               have xb := Lib.hid (RowV.gr xb.out hg9 (by omega))
               have xk := Lib.hid (RowV.gr xk.out hg9 (by omega))
               have xq := Lib.hid (Gr.below hg9 xq.out (by omega))
               clear h9 hg9)
            | ((with_reducible refine wpList_store_at rfl 25 (.tmp 13) (.tmp 55) rfl (o := 0) (vs := [.int .i64 kb, .slice rqb rnb rcb, .slice kqb knb kcb]) rfl rfl xb.out xsB (Nat.le_refl _) (cont_one _ _ _ _ _ _ _) ?_)
               intro x2 h9 hg9
               have xb : Hid (RowV 25 x2 _ [.int .i64 kb, .slice rqb rnb rcb, .slice kqb knb kcb]) := h9
               have xa := Lib.hid (RowV.gr xa.out hg9 (by omega))
               have xk := Lib.hid (RowV.gr xk.out hg9 (by omega))
               have xq := Lib.hid (Gr.below hg9 xq.out (by omega))
               clear h9 hg9)
            | ((with_reducible refine wpList_store_at rfl 28 (.tmp 14) (.tmp 56) rfl (o := 0) (vs := [.int .i64 st, .int .u16 si]) rfl rfl xk.out xsK (Nat.le_refl _) (key_one _ _) ?_)
               intro x3 h9 hg9
               have xk : Hid (RowV 28 x3 _ [.int .i64 st, .int .u16 si]) := h9
               have xa := Lib.hid (RowV.gr xa.out hg9 (by omega))
               have xb := Lib.hid (RowV.gr xb.out hg9 (by omega))
               have xq := Lib.hid (Gr.below hg9 xq.out (by omega))
               have bx := Lib.hid xa.out.boxed
               have by' := Lib.hid xb.out.boxed
               have bk := Lib.hid xk.out.boxed
               clear h9 hg9)
            | (with_reducible refine wpList_load_at rfl 25 (.tmp 13) rfl Try.underlying25 rfl xsB rfl by'.out.all ?_))
          have hb1 := xq.out
          have yb := Lib.hid (yb.out.below hb1 (Nat.le_refl _))
          have hvj := Lib.hid (CV.On.below hvj.out hb1 (Nat.le_refl _))
          have hA := Lib.hid (CV.On.below hA.out hb1 (Nat.le_refl _))
          have hB := Lib.hid (CV.On.below hB.out hb1 (Nat.le_refl _))
          have bx := Lib.hid xa.out.boxed
          have by' := Lib.hid xb.out.boxed
          have bk := Lib.hid xk.out.boxed
          clear xa xb xk xq hx0
          have ra := Lib.hid (ra.out.below hb1)
          have rb := Lib.hid (rb.out.below hb1)
          have rk := Lib.hid (rk.out.below hb1)
          have hd := Lib.hid (below_step hb1 hd.out)
          clear hb1
          obtain ⟨R, hR⟩ : ∃ R : Nat, m + n - L = R := ⟨_, rfl⟩
          have hcz := Lib.hid (cutA_size hjk.out hj1.out hj2.out (i := L) (by rw [hjz.out]; exact hLm))
          rw [hjz.out, hR] at hcz
          have hRR := Lib.hid hR
          have hR8 : R ≤ 8 := by omega
          clear hR
          have hsb := refSize_any ⟨kb, rqb, rnb, rcb, kqb, knb, kcb⟩ _ x3 hB.out (by rw [hcz.out.2]; omega)
          rw [hcz.out.2] at hsb
          refine hsb.mono ?_
          clear hsb
          rintro e w7 ⟨rfl, hb1⟩
          have yb := Lib.hid (yb.out.below hb1 (Nat.le_refl _))
          have hvj := Lib.hid (CV.On.below hvj.out hb1 (Nat.le_refl _))
          have hA := Lib.hid (CV.On.below hA.out hb1 (Nat.le_refl _))
          have hB := Lib.hid (CV.On.below hB.out hb1 (Nat.le_refl _))
          have bx := Lib.hid (bx.out.below hb1 (Nat.le_refl _))
          have by' := Lib.hid (by'.out.below hb1 (Nat.le_refl _))
          have bk := Lib.hid (bk.out.below hb1 (Nat.le_refl _))
          have ra := Lib.hid (ra.out.below hb1)
          have rb := Lib.hid (rb.out.below hb1)
          have rk := Lib.hid (rk.out.below hb1)
          have hd := Lib.hid (below_step hb1 hd.out)
          clear hb1
          obtain ⟨z, hz0⟩ : ∃ z : Bool, ((R : Int) == 0) = z := ⟨_, rfl⟩
          have hz0' := Lib.hid hz0
          cases z with
          | true =>
            have hno : Hid (¬ LvOk a b ⟨kt, ki⟩) := fun h => by
              have h1 := h.2.2.1
              rw [hat.out, hjz.out] at h1
              have h2 := hRR.out
              have h3 := hz0'.out
              simp at h3
              omega
            clear bx by' bk yb hvj hA hB
            go_wp2_with (first
              | ((with_reducible refine wpList_store_at rfl 25 (.tmp 6) (.tmp 75) rfl (o := 0) (vs := [.int .i64 0, .slice none 0 0, .slice none 0 0]) rfl rfl ra.out hz (Nat.le_refl _) (cont_one _ _ _ _ _ _ _) ?_)
                 intro wd1 h9 hg9
                 have ra : Hid (RowV 25 wd1 _ [.int .i64 0, .slice none 0 0, .slice none 0 0]) := h9
                 have rb := Lib.hid (RowV.gr rb.out hg9 (by omega))
                 have rk := Lib.hid (RowV.gr rk.out hg9 (by omega))
                 have hd := Lib.hid (Gr.below hg9 hd.out (by omega))
                 clear h9 hg9)
              | ((with_reducible refine wpList_store_at rfl 25 (.tmp 7) (.tmp 76) rfl (o := 0) (vs := [.int .i64 0, .slice none 0 0, .slice none 0 0]) rfl rfl rb.out hz (Nat.le_refl _) (cont_one _ _ _ _ _ _ _) ?_)
                 intro wd2 h9 hg9
                 have rb : Hid (RowV 25 wd2 _ [.int .i64 0, .slice none 0 0, .slice none 0 0]) := h9
                 have ra := Lib.hid (RowV.gr ra.out hg9 (by omega))
                 have rk := Lib.hid (RowV.gr rk.out hg9 (by omega))
                 have hd := Lib.hid (Gr.below hg9 hd.out (by omega))
                 clear h9 hg9)
              | ((with_reducible refine wpList_store_at rfl 28 (.tmp 8) (.tmp 77) rfl (o := 0) (vs := [.int .i64 0, .int .u16 0]) rfl rfl rk.out hzk (Nat.le_refl _) (key_one _ _) ?_)
                 intro wd3 h9 hg9
                 have rk : Hid (RowV 28 wd3 _ [.int .i64 0, .int .u16 0]) := h9
                 have ra := Lib.hid (RowV.gr ra.out hg9 (by omega))
                 have rb := Lib.hid (RowV.gr rb.out hg9 (by omega))
                 have hd := Lib.hid (Gr.below hg9 hd.out (by omega))
                 clear h9 hg9))
            have s0 : RowV 25 wd3 (w.heap.size + 3) [.int .i64 0, .slice none 0 0, .slice none 0 0] := ra.out
            have m00 := s0.cell 0
            have m01 := s0.cell 1
            have m02 := s0.cell 2
            have s1 : RowV 25 wd3 (w.heap.size + 4) [.int .i64 0, .slice none 0 0, .slice none 0 0] := rb.out
            have m10 := s1.cell 0
            have m11 := s1.cell 1
            have m12 := s1.cell 2
            have s2 : RowV 28 wd3 (w.heap.size + 5) [.int .i64 0, .int .u16 0] := rk.out
            have m20 := s2.cell 0
            have m21 := s2.cell 1
            simp only [List.getElem?_cons_zero, List.getElem?_cons_succ] at m00 m01 m02 m10 m11 m12 m20 m21
            clear s0 s1 s2
            refine bodyPost_ret (v := .tuple #[CV.val zV, CV.val zV, .agg #[.int .i64 zK.t, .int .u16 zK.id], .bool false]) (by simp [results, Try.results31, go_sem, m00, m01, m02, m10, m11, m12, m20, m21, zV, zK]) rfl ?_
            exact ⟨zV, zV, zeroC, zeroC, zK, false, rfl, .inr ⟨rfl, hno.out, rfl, rfl, rfl⟩, zV_on _, zV_on _, hd.out⟩
          | false =>
            obtain ⟨rs, hrs⟩ := bool_of (RiseC (joinC a b ⟨kt, ki⟩) ∧ ApartC (joinC a b ⟨kt, ki⟩))
            have hrs' := Lib.hid hrs
            have hrc := Lib.hid (refRises_any ⟨k5, rq5, rn5, rc5, kq5, kn5, kc5⟩ _ rs hrs w7 hvj.out)
            clear hrs
            have e0 := yb.out.cell 0 rfl
            have e1 := yb.out.cell 1 rfl
            have e2 := yb.out.cell 2 rfl
            go_wp2_with fail
            refine hrc.out.mono ?_
            clear hrc yb hvj hs5
            rintro e w8 ⟨rfl, hb1⟩
            have hA := Lib.hid (CV.On.below hA.out hb1 (Nat.le_refl _))
            have hB := Lib.hid (CV.On.below hB.out hb1 (Nat.le_refl _))
            have bx := Lib.hid (bx.out.below hb1 (Nat.le_refl _))
            have by' := Lib.hid (by'.out.below hb1 (Nat.le_refl _))
            have bk := Lib.hid (bk.out.below hb1 (Nat.le_refl _))
            have ra := Lib.hid (ra.out.below hb1)
            have rb := Lib.hid (rb.out.below hb1)
            have rk := Lib.hid (rk.out.below hb1)
            have hd := Lib.hid (below_step hb1 hd.out)
            clear hb1
            cases rs with
            | false =>
              have hno : Hid (¬ LvOk a b ⟨kt, ki⟩) := fun h => by have := hrs'.out.2 h.2.2.2; cases this
              clear bx by' bk hA hB
              go_wp2_with (first
                | ((with_reducible refine wpList_store_at rfl 25 (.tmp 6) (.tmp 75) rfl (o := 0) (vs := [.int .i64 0, .slice none 0 0, .slice none 0 0]) rfl rfl ra.out hz (Nat.le_refl _) (cont_one _ _ _ _ _ _ _) ?_)
                   intro we1 h9 hg9
                   have ra : Hid (RowV 25 we1 _ [.int .i64 0, .slice none 0 0, .slice none 0 0]) := h9
                   have rb := Lib.hid (RowV.gr rb.out hg9 (by omega))
                   have rk := Lib.hid (RowV.gr rk.out hg9 (by omega))
                   have hd := Lib.hid (Gr.below hg9 hd.out (by omega))
                   clear h9 hg9)
                | ((with_reducible refine wpList_store_at rfl 25 (.tmp 7) (.tmp 76) rfl (o := 0) (vs := [.int .i64 0, .slice none 0 0, .slice none 0 0]) rfl rfl rb.out hz (Nat.le_refl _) (cont_one _ _ _ _ _ _ _) ?_)
                   intro we2 h9 hg9
                   have rb : Hid (RowV 25 we2 _ [.int .i64 0, .slice none 0 0, .slice none 0 0]) := h9
                   have ra := Lib.hid (RowV.gr ra.out hg9 (by omega))
                   have rk := Lib.hid (RowV.gr rk.out hg9 (by omega))
                   have hd := Lib.hid (Gr.below hg9 hd.out (by omega))
                   clear h9 hg9)
                | ((with_reducible refine wpList_store_at rfl 28 (.tmp 8) (.tmp 77) rfl (o := 0) (vs := [.int .i64 0, .int .u16 0]) rfl rfl rk.out hzk (Nat.le_refl _) (key_one _ _) ?_)
                   intro we3 h9 hg9
                   have rk : Hid (RowV 28 we3 _ [.int .i64 0, .int .u16 0]) := h9
                   have ra := Lib.hid (RowV.gr ra.out hg9 (by omega))
                   have rb := Lib.hid (RowV.gr rb.out hg9 (by omega))
                   have hd := Lib.hid (Gr.below hg9 hd.out (by omega))
                   clear h9 hg9))
              have s0 : RowV 25 we3 (w.heap.size + 3) [.int .i64 0, .slice none 0 0, .slice none 0 0] := ra.out
              have m00 := s0.cell 0
              have m01 := s0.cell 1
              have m02 := s0.cell 2
              have s1 : RowV 25 we3 (w.heap.size + 4) [.int .i64 0, .slice none 0 0, .slice none 0 0] := rb.out
              have m10 := s1.cell 0
              have m11 := s1.cell 1
              have m12 := s1.cell 2
              have s2 : RowV 28 we3 (w.heap.size + 5) [.int .i64 0, .int .u16 0] := rk.out
              have m20 := s2.cell 0
              have m21 := s2.cell 1
              simp only [List.getElem?_cons_zero, List.getElem?_cons_succ] at m00 m01 m02 m10 m11 m12 m20 m21
              clear s0 s1 s2
              refine bodyPost_ret (v := .tuple #[CV.val zV, CV.val zV, .agg #[.int .i64 zK.t, .int .u16 zK.id], .bool false]) (by simp [results, Try.results31, go_sem, m00, m01, m02, m10, m11, m12, m20, m21, zV, zK]) rfl ?_
              exact ⟨zV, zV, zeroC, zeroC, zK, false, rfl, .inr ⟨rfl, hno.out, rfl, rfl, rfl⟩, zV_on _, zV_on _, hd.out⟩
            | true =>
              have hok : Hid (LvOk a b ⟨kt, ki⟩) := ⟨hK.out, by rw [hm'.out, hn'.out]; exact hne.out, by
                rw [hat.out, hjz.out]
                have h2 := hRR.out
                have h3 := hz0'.out
                simp at h3
                omega, (hrs'.out.1 rfl).1, (hrs'.out.1 rfl).2⟩
              have hfi := Lib.hid (level_fine hG.out.1 hG.out.2 hok.out hoks.out.1 hoks.out.2 hko'.out)
              rw [hat.out] at hfi
              have e0 := bx.out.cell 0 rfl
              have e1 := bx.out.cell 1 rfl
              have e2 := bx.out.cell 2 rfl
              go_wp2_with fail
              refine (right_doc ka rqa rna rca kqa kna kca _ w8 hA.out).mono ?_
              rintro e w9 ⟨gb, rfl, hgb, hb1⟩
              obtain rfl : gb = true := hgb.2 hfi.out.1
              clear hgb e0 e1 e2
              have hA := Lib.hid (CV.On.below hA.out hb1 (Nat.le_refl _))
              have hB := Lib.hid (CV.On.below hB.out hb1 (Nat.le_refl _))
              have bx := Lib.hid (bx.out.below hb1 (Nat.le_refl _))
              have by' := Lib.hid (by'.out.below hb1 (Nat.le_refl _))
              have bk := Lib.hid (bk.out.below hb1 (Nat.le_refl _))
              have ra := Lib.hid (ra.out.below hb1)
              have rb := Lib.hid (rb.out.below hb1)
              have rk := Lib.hid (rk.out.below hb1)
              have hd := Lib.hid (below_step hb1 hd.out)
              clear hb1
              have e0 := by'.out.cell 0 rfl
              have e1 := by'.out.cell 1 rfl
              have e2 := by'.out.cell 2 rfl
              go_wp2_with fail
              refine (right_doc kb rqb rnb rcb kqb knb kcb _ w9 hB.out).mono ?_
              rintro e w10 ⟨gb, rfl, hgb, hb1⟩
              obtain rfl : gb = true := hgb.2 hfi.out.2.1
              clear hgb e0 e1 e2
              have hA := Lib.hid (CV.On.below hA.out hb1 (Nat.le_refl _))
              have hB := Lib.hid (CV.On.below hB.out hb1 (Nat.le_refl _))
              have bx := Lib.hid (bx.out.below hb1 (Nat.le_refl _))
              have by' := Lib.hid (by'.out.below hb1 (Nat.le_refl _))
              have bk := Lib.hid (bk.out.below hb1 (Nat.le_refl _))
              have ra := Lib.hid (ra.out.below hb1)
              have rb := Lib.hid (rb.out.below hb1)
              have rk := Lib.hid (rk.out.below hb1)
              have hd := Lib.hid (below_step hb1 hd.out)
              clear hb1
              go_wp2_with fail
              refine wp_region_held (S := fun u => Boxed u w6.heap.size [.int .i64 ka, .slice rqa rna rca, .slice kqa kna kca] ∧ Boxed u (w6.heap.size + 1) [.int .i64 kb, .slice rqb rnb rcb, .slice kqb knb kcb] ∧ Boxed u (w6.heap.size + 2) [.int .i64 st, .int .u16 si]) (by kernel_rfl) ?_
              change wpAnyH _ _ _ _ _ _ _ _ (World.drew w10)
              have hS0 : Hid (Boxed w10.drew w6.heap.size [.int .i64 ka, .slice rqa rna rca, .slice kqa kna kca] ∧ Boxed w10.drew (w6.heap.size + 1) [.int .i64 kb, .slice rqb rnb rcb, .slice kqb knb kcb] ∧ Boxed w10.drew (w6.heap.size + 2) [.int .i64 st, .int .u16 si]) := ⟨bx.out.below (below_drew _) (Nat.le_refl _), by'.out.below (below_drew _) (Nat.le_refl _), bk.out.below (below_drew _) (Nat.le_refl _)⟩
              have ra := Lib.hid (ra.out.below (below_drew w10))
              have rb := Lib.hid (rb.out.below (below_drew w10))
              have rk := Lib.hid (rk.out.below (below_drew w10))
              have hA := Lib.hid (hA.out.below (below_drew w10) (Nat.le_refl _))
              have hB := Lib.hid (hB.out.below (below_drew w10) (Nat.le_refl _))
              have hd := Lib.hid (below_step (below_drew w10) hd.out)
              clear bx by' bk
              generalize World.drew w10 = y0' at hS0 ra rb rk hA hB hd ⊢
              refine held_tk (i := 0) (dst := some 78) rfl rfl (y_load_agg 25 (.tmp 12) rfl rfl rfl (fun u hu => run_loadVar_at Try.underlying25 rfl xsA _ hu.1.all)) hS0.out ?_; go_frame
              refine held_tk (i := 1) (dst := some 79) rfl rfl (y_load_agg 25 (.tmp 13) rfl rfl rfl (fun u hu => run_loadVar_at Try.underlying25 rfl xsB _ hu.2.1.all)) hS0.out ?_; go_frame
              refine held_tk (i := 2) (dst := some 80) rfl rfl (y_load_agg 28 (.tmp 14) rfl rfl rfl (fun u hu => run_loadVar_at Try.underlying28 rfl xsK _ hu.2.2.all)) hS0.out ?_; go_frame
              obtain ⟨y1', hst, h9, hg9⟩ := run_storeVar_at (P := Try.prog) (ty := 25) (o := 0) (vs := [.int .i64 ka, .slice rqa rna rca, .slice kqa kna kca]) ra.out (sizeCont _ _ _) (Nat.le_refl _) (cont_one _ _ _ _ _ _ _)
              replace ra : Hid (RowV 25 y1' (w.heap.size + 3) [.int .i64 ka, .slice rqa rna rca, .slice kqa kna kca]) := h9
              replace rb := Lib.hid (RowV.gr rb.out hg9 (by omega))
              replace rk := Lib.hid (RowV.gr rk.out hg9 (by omega))
              replace hA := Lib.hid (ContOn.gr hA.out hg9 (fun a e => by have := hfa.out.1 a e; have := hly.out; omega) (fun a e => by have := hfa.out.2 a e; have := hly.out; omega))
              replace hB := Lib.hid (ContOn.gr hB.out hg9 (fun a e => by have := hfb.out.1 a e; have := hly.out; omega) (fun a e => by have := hfb.out.2 a e; have := hly.out; omega))
              replace hS0 := Lib.hid (And.intro (hS0.out.1.gr hg9 (by have := hz6.out; omega)) (And.intro (hS0.out.2.1.gr hg9 (by have := hz6.out; omega)) (hS0.out.2.2.gr hg9 (by have := hz6.out; omega))))
              replace hd := Lib.hid (Gr.below hg9 hd.out (by omega))
              clear h9 hg9
              refine held_skip (i := 3) (dst := none) (w' := y1') rfl rfl (by kernel_rfl) rfl (run_store_op (x := .tmp 6) (y := .tmp 78) rfl rfl rfl hst) hS0.out ?_; go_frame
              clear hst
              obtain ⟨y2', hst, h9, hg9⟩ := run_storeVar_at (P := Try.prog) (ty := 25) (o := 0) (vs := [.int .i64 kb, .slice rqb rnb rcb, .slice kqb knb kcb]) rb.out (sizeCont _ _ _) (Nat.le_refl _) (cont_one _ _ _ _ _ _ _)
              replace rb : Hid (RowV 25 y2' (w.heap.size + 4) [.int .i64 kb, .slice rqb rnb rcb, .slice kqb knb kcb]) := h9
              replace ra := Lib.hid (RowV.gr ra.out hg9 (by omega))
              replace rk := Lib.hid (RowV.gr rk.out hg9 (by omega))
              replace hA := Lib.hid (ContOn.gr hA.out hg9 (fun a e => by have := hfa.out.1 a e; have := hly.out; omega) (fun a e => by have := hfa.out.2 a e; have := hly.out; omega))
              replace hB := Lib.hid (ContOn.gr hB.out hg9 (fun a e => by have := hfb.out.1 a e; have := hly.out; omega) (fun a e => by have := hfb.out.2 a e; have := hly.out; omega))
              replace hS0 := Lib.hid (And.intro (hS0.out.1.gr hg9 (by have := hz6.out; omega)) (And.intro (hS0.out.2.1.gr hg9 (by have := hz6.out; omega)) (hS0.out.2.2.gr hg9 (by have := hz6.out; omega))))
              replace hd := Lib.hid (Gr.below hg9 hd.out (by omega))
              clear h9 hg9
              refine held_skip (i := 4) (dst := none) (w' := y2') rfl rfl (by kernel_rfl) rfl (run_store_op (x := .tmp 7) (y := .tmp 79) rfl rfl rfl hst) hS0.out ?_; go_frame
              clear hst
              obtain ⟨y3', hst, h9, hg9⟩ := run_storeVar_at (P := Try.prog) (ty := 28) (o := 0) (vs := [.int .i64 st, .int .u16 si]) rk.out (sizeKey _ _) (Nat.le_refl _) (key_one _ _)
              replace rk : Hid (RowV 28 y3' (w.heap.size + 5) [.int .i64 st, .int .u16 si]) := h9
              replace ra := Lib.hid (RowV.gr ra.out hg9 (by omega))
              replace rb := Lib.hid (RowV.gr rb.out hg9 (by omega))
              replace hA := Lib.hid (ContOn.gr hA.out hg9 (fun a e => by have := hfa.out.1 a e; have := hly.out; omega) (fun a e => by have := hfa.out.2 a e; have := hly.out; omega))
              replace hB := Lib.hid (ContOn.gr hB.out hg9 (fun a e => by have := hfb.out.1 a e; have := hly.out; omega) (fun a e => by have := hfb.out.2 a e; have := hly.out; omega))
              replace hS0 := Lib.hid (And.intro (hS0.out.1.gr hg9 (by have := hz6.out; omega)) (And.intro (hS0.out.2.1.gr hg9 (by have := hz6.out; omega)) (hS0.out.2.2.gr hg9 (by have := hz6.out; omega))))
              replace hd := Lib.hid (Gr.below hg9 hd.out (by omega))
              clear h9 hg9
              refine held_skip (i := 5) (dst := none) (w' := y3') rfl rfl (by kernel_rfl) rfl (run_store_op (x := .tmp 8) (y := .tmp 80) rfl rfl rfl hst) hS0.out ?_; go_frame
              clear hst
              refine held_tk (i := 6) (dst := some 9) (v := .bool true) rfl rfl (.inl ⟨rfl, fun u hu => by go_simp⟩) hS0.out ?_; go_frame
              refine wpAnyH_done (by kernel_rfl) ?_ _
              have s0 : RowV 25 y3' (w.heap.size + 3) [.int .i64 ka, .slice rqa rna rca, .slice kqa kna kca] := ra.out
              have m00 := s0.cell 0
              have m01 := s0.cell 1
              have m02 := s0.cell 2
              have s1 : RowV 25 y3' (w.heap.size + 4) [.int .i64 kb, .slice rqb rnb rcb, .slice kqb knb kcb] := rb.out
              have m10 := s1.cell 0
              have m11 := s1.cell 1
              have m12 := s1.cell 2
              have s2 : RowV 28 y3' (w.heap.size + 5) [.int .i64 st, .int .u16 si] := rk.out
              have m20 := s2.cell 0
              have m21 := s2.cell 1
              simp only [List.getElem?_cons_zero, List.getElem?_cons_succ] at m00 m01 m02 m10 m11 m12 m20 m21
              clear s0 s1 s2
              go_wp2
              refine bodyPost_ret (v := .tuple #[.agg #[.int .i64 ka, .slice rqa rna rca, .slice kqa kna kca], .agg #[.int .i64 kb, .slice rqb rnb rcb, .slice kqb knb kcb], .agg #[.int .i64 st, .int .u16 si], .bool true]) (by simp [results, Try.results31, go_sem, m00, m01, m02, m10, m11, m12, m20, m21]) rfl ?_
              exact ⟨⟨ka, rqa, rna, rca, kqa, kna, kca⟩, ⟨kb, rqb, rnb, rcb, kqb, knb, kcb⟩, _, _, ⟨st, si⟩, true, rfl, .inl ⟨rfl, hok.out, by rw [hat.out], by rw [hat.out], by rw [hat.out]; exact hcs.out.symm⟩, hA.out, hB.out, hd.out⟩
end Go.Proofs.Ytaiepdhmlmnggaa
