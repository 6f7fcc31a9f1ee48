/- Parts of the proof: The laws on records: few; A region that draws its order: two calls in order, and two operations that give a value at any time. Nothing of a program is claimed here -/
import Derived.Test.YtocekhckmpkbmaaGreatQ32
import Derived.Deep.CutRange
import Derived.Deep.DeepCutAuto
import Derived.Test.YtocekhckmpkbmaaGreatQ01
import Derived.Test.YtocekhckmpkbmaaGreatQ13
namespace Go.Proofs.YtocekhckmpkbmaaGreat
open Go.RowKit
def FewRP (r : RecD) (w : World) (e : Ending) (w' : World) : Prop := ∃ (v : RecV) (V : List ImgV), e = .returned v.val ∧ (∀ x : World, Alike w.heap.size w' x → v.On x V (fewRec r)) ∧ OwnS 62 w' w.heap.size (.slice v.iq v.im v.ic) V ∧ ImgsM w' w.heap.size (v.iq.map (·.block)) V (fewRec r).images ∧ Below w.heap.size w w'
/-- few under way, behind its first loop: the record's box, the result's box, the images, the steps -/
structure FewS (w u : World) (cs : List Value) (iv : Option Addr) (im ic : Nat) (U : List ImgV) (LI : List ImgD) (sq : Option Addr) (sn sc : Nat) (S : List StepD) : Prop where
 below : Below w.heap.size w u
 box : RowV 30 u w.heap.size cs
 res : RowV 30 u (w.heap.size + 1) [.int .i64 0, .int .u64 0, .int .i64 0, .int .u64 0, .int .u64 0, .slice none 0 0, .slice none 0 0, .int .i64 0, .slice none 0 0, .slice none 0 0]
 img : OwnS 62 u (w.heap.size + 2) (.slice iv im ic) U
 imm : ImgsM u (w.heap.size + 2) (iv.map (·.block)) U LI
 stp : OwnS 70 u (w.heap.size + 2) (.slice sq sn sc) S
 apI : ∀ v ∈ U, ApI (sq.map (·.block)) v
 apS : ∀ a b, iv = some a → sq = some b → a.block ≠ b.block
theorem Boxed.grq {w w' : World} {b : Nat} {o : Option Nat} {vs : List Value} (h : Boxed w b vs) (hg : w.grownBy w' o) (hne : o ≠ some b) : Boxed w' b vs := fun j x hj => by
 have h1 := h j x hj; have hb : ((⟨b, 0, none⟩ : Addr).add j).block = b := by unfold Addr.add; split <;> rfl
 have hlt := cell_in h1; rw [hb] at hlt; rw [World.cell?_of_block (w := w) (by rw [hb]; exact hg.block _ hlt (fun e => hne e.symm))]; exact h1
theorem ImgsM.ap2 {w : World} {B : Nat} {o : Option Nat} {V : List ImgV} {L : List ImgD} (h : ImgsM w B o V L) {k : Nat} (hk : w.heap.size ≤ k) : ∀ v ∈ V, ApI (some k) v := fun v hv => by
 obtain ⟨i, hi⟩ := List.mem_iff_getElem?.1 hv; have hl := (List.getElem?_eq_some_iff.1 hi).1; have hm := h.len; have ho := h.on i v _ hi (List.getElem?_eq_getElem (by omega)); exact ⟨fun a ha hn e => by have := (ContOn.blk ho.bef).1 a ha hn; simp only [Option.some.injEq] at e; omega, fun a ha hn e => by have := (ContOn.blk ho.bef).2 a ha hn; simp only [Option.some.injEq] at e; omega, fun a ha hn e => by have := (ContOn.blk ho.aft).1 a ha hn; simp only [Option.some.injEq] at e; omega, fun a ha hn e => by have := (ContOn.blk ho.aft).2 a ha hn; simp only [Option.some.injEq] at e; omega⟩
theorem ImgsM.gr {w w' : World} {B : Nat} {o r : Option Nat} {V : List ImgV} {L : List ImgD} (h : ImgsM w B o V L) (hg : w.grownBy w' r) (ha : ∀ v ∈ V, ApI r v) : ImgsM w' B o V L :=
 ⟨h.len, h.ap, fun i v x hv hx => (h.on i v x hv hx).gr0 hg (ha v (List.mem_of_getElem? hv)), h.far⟩
theorem ImgsM.low {w : World} {B C : Nat} {o : Option Nat} {V : List ImgV} {L : List ImgD} (h : ImgsM w B o V L) (hc : C ≤ B) : ImgsM w C o V L := ⟨h.len, h.ap, h.on, fun v hv => (h.far v hv).less hc⟩
theorem ImgsM.imgs {w : World} {B : Nat} {q : Option Addr} {n c : Nat} {V : List ImgV} {L : List ImgD} (h : ImgsM w B (q.map (·.block)) V L) (ho : OwnS 62 w B (.slice q n c) V) : ImgsOn w q n c V L := ⟨ho.reads, h.len, h.on⟩
set_option maxRecDepth 100000 in
set_option maxHeartbeats 16000000 in
theorem few_any (v : RecV) (V : List ImgV) (r : RecD) (w : World) (h : v.On w V r) :
 Calls Tryz.prog 11 #[v.val] w (FewRP r w) := by
 obtain ⟨kind, lsn, txn, prev, next, iq, im, ic, sq, sn, sc, nextTxn, tq, tn, tc, dq, dn, dc⟩ := v; obtain ⟨W, hW⟩ : ∃ W, (w.alloc (.cells #[.int .i64 kind, .int .u64 lsn, .int .i64 txn, .int .u64 prev, .int .u64 next, .slice iq im ic, .slice sq sn sc, .int .i64 nextTxn, .slice tq tn tc, .slice dq dn dc] 30)).alloc (.cells #[.int .i64 0, .int .u64 0, .int .i64 0, .int .u64 0, .int .u64 0, .slice none 0 0, .slice none 0 0, .int .i64 0, .slice none 0 0, .slice none 0 0] 30) = W := ⟨_, rfl⟩; have hbx := lh (two_boxes (xs := [.int .i64 kind, .int .u64 lsn, .int .i64 txn, .int .u64 prev, .int .u64 next, .slice iq im ic, .slice sq sn sc, .int .i64 nextTxn, .slice tq tn tc, .slice dq dn dc]) (ys := [.int .i64 0, .int .u64 0, .int .i64 0, .int .u64 0, .int .u64 0, .slice none 0 0, .slice none 0 0, .int .i64 0, .slice none 0 0, .slice none 0 0]) hW)
 have r0 : Hid (RowV 30 W w.heap.size [.int .i64 kind, .int .u64 lsn, .int .i64 txn, .int .u64 prev, .int .u64 next, .slice iq im ic, .slice sq sn sc, .int .i64 nextTxn, .slice tq tn tc, .slice dq dn dc]) := by
  have h1 := (RowV.made (T := 30) w [.int .i64 kind, .int .u64 lsn, .int .i64 txn, .int .u64 prev, .int .u64 next, .slice iq im ic, .slice sq sn sc, .int .i64 nextTxn, .slice tq tn tc, .slice dq dn dc]).below ((Below.refl _ _).alloc (Nat.le_refl _) (.cells #[.int .i64 0, .int .u64 0, .int .i64 0, .int .u64 0, .int .u64 0, .slice none 0 0, .slice none 0 0, .int .i64 0, .slice none 0 0, .slice none 0 0] 30)); show RowV _ _ _ _; rw [← hW]; exact h1
 have p0 : Hid (RowV 30 W (w.heap.size + 1) [.int .i64 0, .int .u64 0, .int .i64 0, .int .u64 0, .int .u64 0, .slice none 0 0, .slice none 0 0, .int .i64 0, .slice none 0 0, .slice none 0 0]) := by
  have h1 := RowV.made (T := 30) (w.alloc (.cells #[.int .i64 kind, .int .u64 lsn, .int .i64 txn, .int .u64 prev, .int .u64 next, .slice iq im ic, .slice sq sn sc, .int .i64 nextTxn, .slice tq tn tc, .slice dq dn dc] 30)) [.int .i64 0, .int .u64 0, .int .i64 0, .int .u64 0, .int .u64 0, .slice none 0 0, .slice none 0 0, .int .i64 0, .slice none 0 0, .slice none 0 0]; show RowV _ _ _ _; rw [← hW]; simpa using h1
 have hsW : Hid (W.heap.size = w.heap.size + 2) := by show _ = _; rw [← hW]; simp
 have hon := lh (h.below hbx.out.1 (Nat.le_refl _)); have hon0 := lh h; have hLl : Hid (r.images.length = im) := by have h1 := h.images.len; have h2 := h.images.on.len; show _ = im; simp only at h2; omega
 have hmax : im ≤ maxLen := Nat.le_trans h.images.on.le h.images.on.cap; have hSl : Hid (r.steps.length = sn) := h.steps.len; have hTl : Hid (r.txns.length = tn) := h.txns.len; have hDl : Hid (r.dirty.length = dn) := h.dirty.len; have hsc := h.steps.le; have htc := h.txns.le; have hdc := h.dirty.le; have hscap := h.steps.cap; have htcap := h.txns.cap; have hdcap := h.dirty.cap; unfold maxLen at hmax hscap htcap hdcap; simp only at hsc htc hdc hscap htcap hdcap; obtain ⟨M1, hM1⟩ : ∃ m : Nat, m = min sn 3 := ⟨_, rfl⟩; obtain ⟨M2, hM2⟩ : ∃ m : Nat, m = min tn 9 := ⟨_, rfl⟩; obtain ⟨M3, hM3⟩ : ∃ m : Nat, m = min dn 65 := ⟨_, rfl⟩; have m1 : min (sn : Int) 3 = (M1 : Int) := by omega
 have m2 : min (tn : Int) 9 = (M2 : Int) := by omega
 have m3 : min (dn : Int) 65 = (M3 : Int) := by omega
 have l1 : M1 ≤ sn := by omega
 have l2 : M2 ≤ tn := by omega
 have l3 : M3 ≤ dn := by omega
 have b1 : M1 ≤ 3 := by omega
 have b2 : M2 ≤ 9 := by omega
 have b3 : M3 ≤ 65 := by omega
 have hs1 := lh (fun u : World => slice_steps sq sn sc M1 l1 hsc u); have hs2 := lh (fun u : World => slice_txns tq tn tc M2 l2 htc u); have hs3 := lh (fun u : World => slice_pgs dq dn dc M3 l3 hdc u); replace hM1 := lh hM1; replace hM2 := lh hM2; replace hM3 := lh hM3; have ssteps : Hid (∀ u, Below w.heap.size w u → SlOn u sq M1 sc (r.steps.take M1)) := fun u hu => (hon0.out.steps.front l1).below hu (Nat.le_refl _)
 have stxns : Hid (∀ u, Below w.heap.size w u → SlOn u tq M2 tc (r.txns.take M2)) := fun u hu => (hon0.out.txns.front l2).below hu (Nat.le_refl _)
 have sdirty : Hid (∀ u, Below w.heap.size w u → SlOn u dq M3 dc (r.dirty.take M3)) := fun u hu => (hon0.out.dirty.front l3).below hu (Nat.le_refl _)
 have hR1 : Hid ((r.steps.take M1).length = M1) := by show _ = _; rw [List.length_take, hSl.out]; omega
 have z5 := r0.out.cell 5; clear h hsc htc hdc; show Calls _ _ #[.agg #[.int .i64 kind, .int .u64 lsn, .int .i64 txn, .int .u64 prev, .int .u64 next, .slice iq im ic, .slice sq sn sc, .int .i64 nextTxn, .slice tq tn tc, .slice dq dn dc]] _ _
 go_enter Tryz.func11, Tryz.ntmps11
 go_wp2; clear z5 hW; have h0 : Hid (∃ (U : List ImgV), OwnS 62 W W.heap.size (.slice none 0 0) U ∧ ImgsM W W.heap.size ((none : Option Addr).map (·.block)) U (((r.images.take 0).take 17).map fewI) ∧ Below W.heap.size W W) := ⟨[], OwnS.nil _ _ _, ⟨rfl, (fun v hv => by cases hv), (fun i v x hi => by simp at hi), (fun v hv => by cases hv)⟩, Below.refl _ _⟩
 go_loopw [10, 3] (fun v10 v3 wr => ∃ (j : Nat) (q : Option Addr) (m c : Nat), j ≤ im ∧ v10 = .int .i64 j ∧ v3 = .slice q m c ∧ Hid (∃ (U : List ImgV), OwnS 62 wr W.heap.size (.slice q m c) U ∧ ImgsM wr W.heap.size (q.map (·.block)) U (((r.images.take j).take 17).map fewI) ∧ Below W.heap.size W wr)) (fun v10 _ _ => im - (RowKit.intOf v10).toNat)
 case atStart => exact ⟨0, none, 0, 0, Nat.zero_le _, rfl, rfl, h0⟩
 case round =>
  obtain ⟨j, q, m, c, hj, rfl, rfl, hst⟩ := hrel; clear h0
  by_cases hlt : j < im
  · obtain ⟨U, hown, hmean, hd⟩ := hst.out
    clear hst
    have hm17 : m ≤ 17 := by
     have h1 := hmean.len; have h2 := hown.len; rw [List.length_map, List.length_take] at h1; omega
    have hown := lh hown; have hmean := lh hmean; have hd := lh hd; obtain ⟨A, ⟨p, ⟨k1, q1, n1, c1, q2, n2, c2⟩, ⟨k3, q3, n3, c3, q4, n4, c4⟩⟩, d, hqA, hx, hdx, hond, hcA⟩ := (hon.out.images.below hd.out (Nat.le_refl _)).at (show j < im from hlt); subst hqA; have hcA : Hid (∀ j' x, ([.int .i64 p, .int .i64 k1, .slice q1 n1 c1, .slice q2 n2 c2, .int .i64 k3, .slice q3 n3 c3, .slice q4 n4 c4] : List Value)[j']? = some x → wr.cell? ((A.add (j * 7)).add j') = some x) := hcA; have hs : (Tryz.prog.info? 62).map (·.size) = some ([.int .i64 p, .int .i64 k1, .slice q1 n1 c1, .slice q2 n2 c2, .int .i64 k3, .slice q3 n3 c3, .slice q4 n4 c4] : List Value).length := sizeImg ⟨p, ⟨k1, q1, n1, c1, q2, n2, c2⟩, ⟨k3, q3, n3, c3, q4, n4, c4⟩⟩; have hdx := lh hdx; have hond := lh hond; have i0 : (0 : Int) ≤ j := by omega
    have i1 : (j : Int) < im := by omega
    clear hx; obtain ⟨we, hwe⟩ : ∃ x, wr.alloc (.cells #[.int .i64 p, .int .i64 k1, .slice q1 n1 c1, .slice q2 n2 c2, .int .i64 k3, .slice q3 n3 c3, .slice q4 n4 c4] 62) = x := ⟨_, rfl⟩; have hbk := lh (one_box (xs := [.int .i64 p, .int .i64 k1, .slice q1 n1 c1, .slice q2 n2 c2, .int .i64 k3, .slice q3 n3 c3, .slice q4 n4 c4]) hwe)
    by_cases h16 : j ≤ 16
    rotate_left
    · have d16 : decide ((j : Int) ≤ 16) = false := decide_eq_false (by omega)
      have hst9 : Hid (∃ (U : List ImgV), OwnS 62 we W.heap.size (.slice q m c) U ∧ ImgsM we W.heap.size (q.map (·.block)) U (((r.images.take (j + 1)).take 17).map fewI) ∧ Below W.heap.size W we) := ⟨U, hown.out.below hbk.out.1, by rw [few17_same h16]; exact hmean.out.below hbk.out.1, hd.out.trans (hbk.out.1.mono hd.out.size)⟩
      go_wp2_with (first
       | (with_reducible refine wpList_load_at rfl 62 (.tmp 13) rfl Tryz.underlying62 rfl hs rfl hcA.out ?_))
      go_roundw
      case rel => exact ⟨j + 1, q, m, c, by omega, by go_num, rfl, hst9⟩
      case measure => simp [RowKit.intOf]; omega
    have d16 : decide ((j : Int) ≤ 16) = true := decide_eq_true (by omega)
    go_wp2_with (first
     | (with_reducible refine wpList_load_at rfl 62 (.tmp 13) rfl Tryz.underlying62 rfl hs rfl hcA.out ?_))
    refine wp_region_held (S := fun u => Boxed u wr.heap.size [.int .i64 p, .int .i64 k1, .slice q1 n1 c1, .slice q2 n2 c2, .int .i64 k3, .slice q3 n3 c3, .slice q4 n4 c4]) (by kernel_rfl) ?_
    try rw [hwe]
    change wpAnyH _ _ _ _ _ _ _ _ (World.drew we); have hdr := below_drew we; have hS : Boxed (World.drew we) wr.heap.size [.int .i64 p, .int .i64 k1, .slice q1 n1 c1, .slice q2 n2 c2, .int .i64 k3, .slice q3 n3 c3, .slice q4 n4 c4] := hbk.out.2.1.below hdr (Nat.le_refl _); have hbe := hbk.out.1.trans (hdr.mono hbk.out.1.size); have hown0 := hown.out.below hbe; have hmean0 := hmean.out.below hbe; have hd0 := hd.out.trans (hbe.mono hd.out.size); have hon0' := hond.out.below hbe (Nat.le_refl _); have hlt0 : wr.heap.size < (World.drew we).heap.size := Nat.lt_of_lt_of_le (by have h1 := hbk.out.2.2; omega) hdr.size; clear hwe; generalize World.drew we = u0 at hS hown0 hmean0 hd0 hon0' hlt0 ⊢; have hsk1 := sizeCont (.int .i64 k1) (.slice q1 n1 c1) (.slice q2 n2 c2); have hsk3 := sizeCont (.int .i64 k3) (.slice q3 n3 c3) (.slice q4 n4 c4)
    have f1 : ∀ u, Boxed u wr.heap.size [.int .i64 p, .int .i64 k1, .slice q1 n1 c1, .slice q2 n2 c2, .int .i64 k3, .slice q3 n3 c3, .slice q4 n4 c4] → ∀ j x, ([.int .i64 k1, .slice q1 n1 c1, .slice q2 n2 c2] : List Value)[j]? = some x → u.cell? ((⟨wr.heap.size, 1, none⟩ : Addr).add j) = some x := fun u hu => Boxed.part hu (o := 1) (ys := [.int .i64 k1, .slice q1 n1 c1, .slice q2 n2 c2]) (fun j' x hj => by
     match j', hj with
     | 0, hj => exact hj
     | 1, hj => exact hj
     | 2, hj => exact hj
     | j' + 3, hj => simp at hj)
    have f4 : ∀ u, Boxed u wr.heap.size [.int .i64 p, .int .i64 k1, .slice q1 n1 c1, .slice q2 n2 c2, .int .i64 k3, .slice q3 n3 c3, .slice q4 n4 c4] → ∀ j x, ([.int .i64 k3, .slice q3 n3 c3, .slice q4 n4 c4] : List Value)[j]? = some x → u.cell? ((⟨wr.heap.size, 4, none⟩ : Addr).add j) = some x := fun u hu => Boxed.part hu (o := 4) (ys := [.int .i64 k3, .slice q3 n3 c3, .slice q4 n4 c4]) (fun j' x hj => by
     match j', hj with
     | 0, hj => exact hj
     | 1, hj => exact hj
     | 2, hj => exact hj
     | j' + 3, hj => simp at hj)
    refine tg 0 17 (.slice q m c) hS ?_; go_frame; refine tg 1 18 (.pointer (some ⟨wr.heap.size, 0, none⟩)) hS ?_; go_frame; refine held_tk (i := 2) (dst := some 19) (v := .int .i64 p) rfl rfl (.inl ⟨rfl, fun u hu => by have c0 := hu.cell 0 rfl; go_simp⟩) hS ?_; go_frame; refine tg 3 20 (.pointer (some ⟨wr.heap.size, 1, none⟩)) hS ?_; go_frame; refine held_tk (i := 4) (dst := some 21) (v := .agg #[.int .i64 k1, .slice q1 n1 c1, .slice q2 n2 c2]) rfl rfl (y_load_agg 55 (.tmp 20) rfl rfl rfl (fun u hu => run_loadVar_at Tryz.underlying55 rfl hsk1 _ (f1 u hu))) hS ?_; go_frame; refine tg 6 23 (.pointer (some ⟨wr.heap.size, 4, none⟩)) hS ?_; go_frame; refine held_tk (i := 7) (dst := some 24) (v := .agg #[.int .i64 k3, .slice q3 n3 c3, .slice q4 n4 c4]) rfl rfl (y_load_agg 55 (.tmp 23) rfl rfl rfl (fun u hu => run_loadVar_at Tryz.underlying55 rfl hsk3 _ (f4 u hu))) hS ?_; go_frame; refine held_call (i := 5) (dst := some 22) rfl rfl (by kernel_rfl) rfl (by go_simp) (contentL_any k1 q1 n1 c1 q2 n2 c2 d.bef u0 hon0'.bef) ?_
    rintro e' u5 ⟨e1, r1, s1, t1, r2, s2, t2, rfl, hcu5, hfau5, hfbu5, hbu5⟩; have hSu5 := hS.below hbu5 (Nat.le_refl _); refine ⟨_, rfl, hSu5, ?_⟩; go_frame; have hown5 := hown0.below hbu5; have hmean5 := hmean0.below hbu5; have hd5 := hd0.trans (hbu5.mono hd0.size); have hon5' := hon0'.below hbu5 (Nat.le_refl _); have hlt5 : wr.heap.size < u5.heap.size := Nat.lt_of_lt_of_le hlt0 hbu5.size; refine held_call (i := 8) (dst := some 25) rfl rfl (by kernel_rfl) rfl (by go_simp) (contentL_any k3 q3 n3 c3 q4 n4 c4 d.aft u5 hon5'.aft) ?_; rintro e' u8 ⟨e3, r3, s3, t3, r4, s4, t4, rfl, hcu8, hfau8, hfbu8, hbu8⟩; have hSu8 := hSu5.below hbu8 (Nat.le_refl _); refine ⟨_, rfl, hSu8, ?_⟩; go_frame; have hown8 := hown5.below hbu8; have hmean8 := hmean5.below hbu8; have hd8 := hd5.trans (hbu8.mono hd5.size); have hon8' := hon5'.below hbu8 (Nat.le_refl _); have hlt8 : wr.heap.size < u8.heap.size := Nat.lt_of_lt_of_le hlt5 hbu8.size
    have hcb := hcu5.below hbu8 (Nat.le_refl _); refine held_value (i := 9) (dst := some 26) (v := .agg #[.int .i64 p, .int .i64 e1, .slice r1 s1 t1, .slice r2 s2 t2, .int .i64 e3, .slice r3 s3 t3, .slice r4 s4 t4]) (w' := u8) rfl rfl (by kernel_rfl) rfl (by go_simp) hSu8 ?_; go_frame; obtain ⟨u10, hu10⟩ : ∃ y, u8.alloc (.cells #[.int .i64 p, .int .i64 e1, .slice r1 s1 t1, .slice r2 s2 t2, .int .i64 e3, .slice r3 s3 t3, .slice r4 s4 t4] 62) = y := ⟨_, rfl⟩; have hb10 : Below u8.heap.size u8 u10 := by rw [← hu10]; exact (Below.refl _ _).alloc (Nat.le_refl _) _
    have hrow10 : RowV 62 u10 u8.heap.size (Cel.cells (⟨p, ⟨e1, r1, s1, t1, r2, s2, t2⟩, ⟨e3, r3, s3, t3, r4, s4, t4⟩⟩ : ImgV)) := by rw [← hu10]; exact RowV.made u8 _
    have hS10 := hSu8.below hb10 (Nat.le_refl _); refine held_value (i := 10) (dst := some 27) (v := .slice (some ⟨u8.heap.size, 0, none⟩) 1 1) (w' := u10) rfl rfl (by kernel_rfl) rfl (by go_simp) hS10 ?_; go_frame; have hown10 := hown8.below hb10; have hmean10 := hmean8.below hb10; have hd10 := hd8.trans (hb10.mono hd8.size); have hfarq : ∀ a, q = some a → W.heap.size ≤ a.block ∧ a.block < wr.heap.size := fun a ha => hown.out.far a ha
    obtain ⟨q', c', u11, hrun, hown11, hg11, hat11⟩ := run_append_l (w := u10) Tryz.underlying25 infoImg rfl 25 hown10 (OwnS.single hrow10).reads (by omega) (by omega) hd10.size
    have hS11 : Boxed u11 wr.heap.size [.int .i64 p, .int .i64 k1, .slice q1 n1 c1, .slice q2 n2 c2, .int .i64 k3, .slice q3 n3 c3, .slice q4 n4 c4] := hS10.grq hg11 (fun e => by
     cases hq : q with
     | none => rw [hq] at e; cases e
     | some a => rw [hq] at e; have h2 := (hfarq a hq).2; simp only [Option.map_some, Option.some.injEq] at e; omega)
    refine held_value (i := 11) (dst := some 28) (v := .slice q' (m + 1) c') (w' := u11) rfl rfl (by kernel_rfl) rfl (run_append_op2 (s := .tmp 17) (x := .tmp 27) rfl rfl rfl hrun) hS11 ?_; go_frame; refine held_value (i := 12) (dst := some 3) (v := .slice q' (m + 1) c') (w' := u11) rfl rfl (by kernel_rfl) rfl (by go_simp) hS11 ?_; go_frame; refine wpAnyH_done (by kernel_rfl) ?_ _; have hion : ImgOn u10 (⟨p, ⟨e1, r1, s1, t1, r2, s2, t2⟩, ⟨e3, r3, s3, t3, r4, s4, t4⟩⟩ : ImgV) (fewI d) := ⟨hond.out.page, hond.out.pok, ContOn.below hcb hb10 (Nat.le_refl _), ContOn.below hcu8 hb10 (Nat.le_refl _)⟩; have hW8 : W.heap.size ≤ u0.heap.size := hd0.size; have hW5 : u0.heap.size ≤ u5.heap.size := hbu5.size; have hfar : FarI u0.heap.size (⟨p, ⟨e1, r1, s1, t1, r2, s2, t2⟩, ⟨e3, r3, s3, t3, r4, s4, t4⟩⟩ : ImgV) := ⟨hfau5, hfbu5, fun a ha => Nat.le_trans hW5 (hfau8 a ha), fun a ha => Nat.le_trans hW5 (hfbu8 a ha)⟩
    have hst9 : Hid (∃ (U : List ImgV), OwnS 62 u11 W.heap.size (.slice q' (m + 1) c') U ∧ ImgsM u11 W.heap.size (q'.map (·.block)) U (((r.images.take (j + 1)).take 17).map fewI) ∧ Below W.heap.size W u11) := by
     refine ⟨_, hown11, ?_, hd10.trans (grown_belowN hg11 hd10.size (fun k e => by
      cases hq : q with
      | none => rw [hq] at e; cases e
      | some a => rw [hq] at e; have h2 := (hfarq a hq).1; simp only [Option.map_some, Option.some.injEq] at e; omega))⟩
     rw [few17_step hdx.out h16]; refine hmean10.snoc hion (hfar.less hW8) (hfar.ap (fun k e => ?_)) hg11 hat11
     cases hq : q with
     | none => rw [hq] at e; cases e
     | some a => rw [hq] at e; have h2 := (hfarq a hq).2; simp only [Option.map_some, Option.some.injEq] at e; omega
    clear hu10 hb10 hrow10 hS10 hS11 hown10 hown11 hmean10 hd10 hg11 hat11 hrun hion hfar hcb hcu5 hcu8 hfau5 hfbu5 hfau8 hfbu8 hbu5 hbu8 hSu5 hSu8 hown0 hown5 hown8 hmean0 hmean5 hmean8 hd0 hd5 hd8 hon0' hon5' hon8' hS f1 f4 hbe hdr; go_wp2
    go_roundw
    case rel => exact ⟨j + 1, q', m + 1, c', by omega, by go_num, rfl, hst9⟩
    case measure => simp [RowKit.intOf]; omega
  · obtain rfl : im = j := by omega
    obtain ⟨U, hown, hmean, hd⟩ := hst.out; clear hst; rw [List.take_of_length_le (Nat.le_of_eq hLl.out)] at hmean; have hdw := lh (hbx.out.1.trans (hd.mono hbx.out.1.size)); have rr := lh (r0.out.below hd); have pr := lh (p0.out.below hd); have hWr : Hid (w.heap.size + 2 ≤ wr.heap.size) := by have h1 := hsW.out; have h2 := hd.size; show _ ≤ _; omega
    have hfq : Hid (∀ a, q = some a → w.heap.size + 2 ≤ a.block ∧ a.block < wr.heap.size) := fun a ha => by have h1 := hown.far a ha; have h2 := hsW.out; omega
    have hap9 : Hid (∀ v ∈ U, ApI (some w.heap.size) v) := fun v hv => (hmean.far v hv).ap (fun k e => by have h2 := hsW.out; cases e; omega)
    have hown := lh hown; have hmean := lh hmean; clear hd; have k5 : (5 : Nat) < 10 := by decide
    have k6 : (6 : Nat) < 10 := by decide
    have k8 : (8 : Nat) < 10 := by decide
    have k9 : (9 : Nat) < 10 := by decide
    go_wp2_with (first
     | ((with_reducible refine wpList_store_f rfl 25 (.tmp 31) (.tmp 30) rfl (g := w.heap.size) (o := 5) (v := .slice q m c) rfl rfl rr.out szImgs (lt10 k5) rfl ?_)
        intro w1 h9 hg9; have r1 : Hid (RowV 30 w1 w.heap.size [.int .i64 kind, .int .u64 lsn, .int .i64 txn, .int .u64 prev, .int .u64 next, .slice q m c, .slice sq sn sc, .int .i64 nextTxn, .slice tq tn tc, .slice dq dn dc]) := h9; have g1 : Hid (wr.grownBy w1 (some w.heap.size)) := hg9; obtain ⟨w2, hw2⟩ : ∃ y, w1.alloc (.cells #[] 70) = y := ⟨_, rfl⟩; have hb2 : Below w1.heap.size w1 w2 := by rw [← hw2]; exact (Below.refl _ _).alloc (Nat.le_refl _) _
        have oS := lh (OwnS.empty (α := StepD) hw2 rfl); have r2 := lh (r1.out.below hb2); have z6 := r2.out.cell 6; have g2 := lh (Gr.then g1.out hb2); have ss := lh (ssteps.out w2 (Gr.below g2.out hdw.out (Nat.le_refl _))); have hsl := hs1.out w2; have hl12 : Hid (w1.heap.size ≤ w2.heap.size) := hb2.size; have hlr1 : Hid (wr.heap.size ≤ w1.heap.size) := hg9.size
        clear h9 hg9 hb2)
     | (at_builtin
        refine wpList_append_l Tryz.underlying26 infoStep rfl rfl (.tmp 32) (.tmp 39) rfl rfl rfl oS.out ss.out (by omega) (by omega) hl12.out ?_; intro q5 c5 w3 h3 hg3 hat3; have hg3 : w2.grownBy w3 (some w1.heap.size) := hg3; rw [Nat.zero_add] at h3 ⊢; rw [List.nil_append] at h3; have r3 := lh (r2.out.kept hg3 (by have h1 := hlr1.out; have h2 := hWr.out; omega)); have g3 := lh (Gr.own g2.out hg3 hlr1.out); have h3 := lh h3
        have hat3 : Hid (∀ b, q5 = some b → wr.heap.size ≤ b.block) := fun b hb => by
         have h1 := hlr1.out; have h2 := hl12.out
         rcases hat3 with e | e <;> (rw [hb] at e; simp only [Option.map_some, Option.some.injEq] at e; omega)
        clear hg3 z6 hsl)
     | ((with_reducible refine wpList_store_f rfl 26 (.tmp 41) (.tmp 40) rfl (g := w.heap.size) (o := 6) (v := .slice q5 M1 c5) rfl rfl r3.out szSteps (lt10 k6) rfl ?_)
        intro w4 h9 hg9; have r4 : Hid (RowV 30 w4 w.heap.size [.int .i64 kind, .int .u64 lsn, .int .i64 txn, .int .u64 prev, .int .u64 next, .slice q m c, .slice q5 M1 c5, .int .i64 nextTxn, .slice tq tn tc, .slice dq dn dc]) := h9; have g34 := lh hg9; have z6 := r4.out.cell 6
        clear h9 hg9))
    have g4 := Gr.trans g3.out g34.out; have h4s : OwnS 70 w4 w1.heap.size (.slice q5 M1 c5) (r.steps.take M1) := h3.out.kept (fun a ha => g34.out.block _ (h3.out.far a ha).2 (fun e => by have h1 := (h3.out.far a ha).1; have h2 := hlr1.out; have h3 := hWr.out; simp only [Option.some.injEq] at e; omega))
    have hf0 : Hid (FewS w w4 [.int .i64 kind, .int .u64 lsn, .int .i64 txn, .int .u64 prev, .int .u64 next, .slice q m c, .slice q5 M1 c5, .int .i64 nextTxn, .slice tq tn tc, .slice dq dn dc] q m c U ((r.images.take 17).map fewI) q5 M1 c5 (shortsS (r.steps.take M1) 0)) := by
     refine ⟨Gr.below g4 hdw.out (Nat.le_refl _), r4.out, pr.out.kept g4 (by omega), (hown.out.kept (fun a ha => g4.block _ (hown.out.far a ha).2 (fun e => by have h1 := (hfq.out a ha).1; simp only [Option.some.injEq] at e; omega))).mono (by have h1 := hsW.out; omega), (hmean.out.gr g4 hap9.out).low (by have h1 := hsW.out; omega), h4s.mono (by have h1 := hlr1.out; have h2 := hWr.out; omega), ?_, fun a b ha hb => ?_⟩
     · cases hq5 : q5 with
       | none => exact fun v hv => ⟨fun a _ _ e => (by cases e), fun a _ _ e => (by cases e), fun a _ _ e => (by cases e), fun a _ _ e => (by cases e)⟩
       | some b => exact hmean.out.ap2 (hat3.out b hq5)
     · have h1 := (hfq.out a ha).2; have h2 := hat3.out b hb; omega
    clear hw2 g4 h4s oS ss r1 r2 g1 g2 r3 g3 h3 g34 hown hmean hap9 rr pr hfq hl12 hlr1 hat3 r4
    go_loopw [45] (fun v wr => ∃ j : Nat, j ≤ M1 ∧ v = .int .i64 j ∧ Hid (FewS w wr [.int .i64 kind, .int .u64 lsn, .int .i64 txn, .int .u64 prev, .int .u64 next, .slice q m c, .slice q5 M1 c5, .int .i64 nextTxn, .slice tq tn tc, .slice dq dn dc] q m c U ((r.images.take 17).map fewI) q5 M1 c5 (shortsS (r.steps.take M1) j))) (fun v _ => M1 - (RowKit.intOf v).toNat)
    case atStart => exact ⟨0, Nat.zero_le _, rfl, hf0⟩
    case round =>
     obtain ⟨j, hj, rfl, hst⟩ := hrel; clear hf0 z6
     by_cases hlt : j < M1
     · obtain ⟨s, hs⟩ : ∃ s, (r.steps.take M1)[j]? = some s := ⟨_, List.getElem?_eq_getElem (by have h1 := hR1.out; omega)⟩
       obtain ⟨hs3, hs4⟩ := shortsS_at hs; have hrok : StepOk s := hon.out.sok s (List.mem_of_mem_take (List.mem_of_getElem? hs)); obtain ⟨sk, ⟨⟨t, id⟩, v, s⟩, by_⟩ := s; have hsn := hrok.row.note; unfold maxLen at hsn; simp only at hsn; obtain ⟨mm, hm⟩ : ∃ m : Nat, m = min s.size 9 := ⟨_, rfl⟩; have hmn : min (s.size : Int) 9 = (mm : Int) := by omega
       have hms : mm ≤ s.size := by omega
       have hmi : (mm : Int) ≤ s.size := by omega
       have hm0 : (0 : Int) ≤ mm := by omega
       obtain ⟨S, hS⟩ : ∃ S, s.extract 0 mm = S := ⟨_, rfl⟩; have hsh : Hid (shortS ⟨sk, ⟨⟨t, id⟩, v, s⟩, by_⟩ = ⟨sk, ⟨⟨t, id⟩, v, S⟩, by_⟩) := by show _ = _; unfold shortS shortR; rw [← hm, hS]
       replace hm := lh hm
       obtain ⟨A, hq⟩ : ∃ A, q5 = some A := by
        cases hq : q5 with
        | none =>
          exfalso
          have h1 := hst.out.stp; rw [hq] at h1; have h2 := h1.nil_cap.1; omega
        | some A => exact ⟨A, rfl⟩
       subst hq; obtain ⟨G, cur, hA, _⟩ := hst.out.stp.opened; subst hA; have i0 : (0 : Int) ≤ j := by omega
       have i1 : (j : Int) < M1 := by omega
       have hs3 := lh hs3; have hs4 := lh hs4; have hA : (⟨G, 0, none⟩ : Addr).add (j * 6) = ⟨G, j * 6, none⟩ := by unfold Addr.add; split <;> simp_all
       clear hs
       go_wp2_with fail
       refine wp_region_x (by kernel_rfl) 23 (fun u => FewS w u [.int .i64 kind, .int .u64 lsn, .int .i64 txn, .int .u64 prev, .int .u64 next, .slice q m c, .slice (some ⟨G, 0, none⟩) M1 c5, .int .i64 nextTxn, .slice tq tn tc, .slice dq dn dc] q m c U ((r.images.take 17).map fewI) (some ⟨G, 0, none⟩) M1 c5 (shortsS (r.steps.take M1) j)) ?_; change wpAnyX _ _ _ _ _ _ _ _ _ (World.drew wr); have hdr := below_drew wr; have hX : FewS w (World.drew wr) [.int .i64 kind, .int .u64 lsn, .int .i64 txn, .int .u64 prev, .int .u64 next, .slice q m c, .slice (some ⟨G, 0, none⟩) M1 c5, .int .i64 nextTxn, .slice tq tn tc, .slice dq dn dc] q m c U ((r.images.take 17).map fewI) (some ⟨G, 0, none⟩) M1 c5 (shortsS (r.steps.take M1) j) := ⟨hst.out.below.trans (hdr.mono hst.out.below.size), hst.out.box.below hdr, hst.out.res.below hdr, hst.out.img.below hdr, hst.out.imm.below hdr, hst.out.stp.below hdr, hst.out.apI, hst.out.apS⟩
       generalize World.drew wr = u0 at hX ⊢; have kb : ∀ {u : World}, FewS w u [.int .i64 kind, .int .u64 lsn, .int .i64 txn, .int .u64 prev, .int .u64 next, .slice q m c, .slice (some ⟨G, 0, none⟩) M1 c5, .int .i64 nextTxn, .slice tq tn tc, .slice dq dn dc] q m c U ((r.images.take 17).map fewI) (some ⟨G, 0, none⟩) M1 c5 (shortsS (r.steps.take M1) j) → u.cell? ⟨w.heap.size, 6, none⟩ = some (.slice (some ⟨G, 0, none⟩) M1 c5) := fun hu => hu.box.cell 6
       have kn' : ∀ {u : World}, FewS w u [.int .i64 kind, .int .u64 lsn, .int .i64 txn, .int .u64 prev, .int .u64 next, .slice q m c, .slice (some ⟨G, 0, none⟩) M1 c5, .int .i64 nextTxn, .slice tq tn tc, .slice dq dn dc] q m c U ((r.images.take 17).map fewI) (some ⟨G, 0, none⟩) M1 c5 (shortsS (r.steps.take M1) j) → u.cell? ⟨G, j * 6 + 4, none⟩ = some (.string s) := fun hu => hu.stp.cell_at (j := 4) hs3.out rfl
       refine x_pure (i := 0) (dst := some 48) (v := .pointer (some ⟨w.heap.size, 6, none⟩)) rfl rfl (by kernel_rfl) (by kernel_rfl) (by kernel_rfl) (by kernel_rfl) (fun _ _ _ h => h) (.inl ⟨rfl, fun u hu => by go_simp⟩) (fun _ => hX) ?_; go_frame; refine x_take (i := 1) (dst := some 49) (v := .slice (some ⟨G, 0, none⟩) M1 c5) rfl rfl (by kernel_rfl) (by kernel_rfl) (by kernel_rfl) (by kernel_rfl) (by kernel_rfl) (fun _ _ _ h => h) (.inl ⟨rfl, fun u hu => by have c1' := kb hu; go_simp⟩) hX ?_; go_frame; refine x_pure (i := 2) (dst := some 50) (v := .int .i64 j) rfl rfl (by kernel_rfl) (by kernel_rfl) (by kernel_rfl) (by kernel_rfl) (fun _ _ _ h => h) (.inl ⟨rfl, fun u hu => by go_simp⟩) (fun _ => hX) ?_; go_frame; refine x_pure (i := 3) (dst := some 51) (v := .pointer (some ⟨w.heap.size, 6, none⟩)) rfl rfl (by kernel_rfl) (by kernel_rfl) (by kernel_rfl) (by kernel_rfl) (fun _ _ _ h => h) (.inl ⟨rfl, fun u hu => by go_simp⟩) (fun _ => hX) ?_; go_frame
       refine x_take (i := 4) (dst := some 52) (v := .slice (some ⟨G, 0, none⟩) M1 c5) rfl rfl (by kernel_rfl) (by kernel_rfl) (by kernel_rfl) (by kernel_rfl) (by kernel_rfl) (fun _ _ _ h => h) (.inl ⟨rfl, fun u hu => by have c1' := kb hu; go_simp⟩) hX ?_; go_frame; refine x_pure (i := 5) (dst := some 53) (v := .int .i64 j) rfl rfl (by kernel_rfl) (by kernel_rfl) (by kernel_rfl) (by kernel_rfl) (fun _ _ _ h => h) (.inl ⟨rfl, fun u hu => by go_simp⟩) (fun _ => hX) ?_; go_frame; refine x_pure (i := 6) (dst := some 54) (v := .pointer (some ⟨G, j * 6, none⟩)) rfl rfl (by kernel_rfl) (by kernel_rfl) (by kernel_rfl) (by kernel_rfl) (fun _ _ _ h => h) (.inl ⟨rfl, fun u hu => by go_simp⟩) (fun _ => hX) ?_; go_frame; refine x_pure (i := 7) (dst := some 55) (v := .pointer (some ⟨G, j * 6 + 1, none⟩)) rfl rfl (by kernel_rfl) (by kernel_rfl) (by kernel_rfl) (by kernel_rfl) (fun _ _ _ h => h) (.inl ⟨rfl, fun u hu => by go_simp⟩) (fun _ => hX) ?_; go_frame
       refine x_pure (i := 8) (dst := some 56) (v := .pointer (some ⟨G, j * 6 + 4, none⟩)) rfl rfl (by kernel_rfl) (by kernel_rfl) (by kernel_rfl) (by kernel_rfl) (fun _ _ _ h => h) (.inl ⟨rfl, fun u hu => by go_simp⟩) (fun _ => hX) ?_; go_frame; refine x_take (i := 9) (dst := some 57) (v := .string s) rfl rfl (by kernel_rfl) (by kernel_rfl) (by kernel_rfl) (by kernel_rfl) (by kernel_rfl) (fun _ _ _ h => h) (.inl ⟨rfl, fun u hu => by have c1' := kn' hu; go_simp⟩) hX ?_; go_frame; refine x_pure (i := 10) (dst := some 58) (v := .pointer (some ⟨w.heap.size, 6, none⟩)) rfl rfl (by kernel_rfl) (by kernel_rfl) (by kernel_rfl) (by kernel_rfl) (fun _ _ _ h => h) (.inl ⟨rfl, fun u hu => by go_simp⟩) (fun _ => hX) ?_; go_frame; refine x_take (i := 11) (dst := some 59) (v := .slice (some ⟨G, 0, none⟩) M1 c5) rfl rfl (by kernel_rfl) (by kernel_rfl) (by kernel_rfl) (by kernel_rfl) (by kernel_rfl) (fun _ _ _ h => h) (.inl ⟨rfl, fun u hu => by have c1' := kb hu; go_simp⟩) hX ?_; go_frame
       refine x_pure (i := 12) (dst := some 60) (v := .int .i64 j) rfl rfl (by kernel_rfl) (by kernel_rfl) (by kernel_rfl) (by kernel_rfl) (fun _ _ _ h => h) (.inl ⟨rfl, fun u hu => by go_simp⟩) (fun _ => hX) ?_; go_frame; refine x_pure (i := 13) (dst := some 61) (v := .pointer (some ⟨G, j * 6, none⟩)) rfl rfl (by kernel_rfl) (by kernel_rfl) (by kernel_rfl) (by kernel_rfl) (fun _ _ _ h => h) (.inl ⟨rfl, fun u hu => by go_simp⟩) (fun _ => hX) ?_; go_frame; refine x_pure (i := 14) (dst := some 62) (v := .pointer (some ⟨G, j * 6 + 1, none⟩)) rfl rfl (by kernel_rfl) (by kernel_rfl) (by kernel_rfl) (by kernel_rfl) (fun _ _ _ h => h) (.inl ⟨rfl, fun u hu => by go_simp⟩) (fun _ => hX) ?_; go_frame; refine x_pure (i := 15) (dst := some 63) (v := .pointer (some ⟨G, j * 6 + 4, none⟩)) rfl rfl (by kernel_rfl) (by kernel_rfl) (by kernel_rfl) (by kernel_rfl) (fun _ _ _ h => h) (.inl ⟨rfl, fun u hu => by go_simp⟩) (fun _ => hX) ?_; go_frame
       refine x_take (i := 16) (dst := some 64) (v := .string s) rfl rfl (by kernel_rfl) (by kernel_rfl) (by kernel_rfl) (by kernel_rfl) (by kernel_rfl) (fun _ _ _ h => h) (.inl ⟨rfl, fun u hu => by have c1' := kn' hu; go_simp⟩) hX ?_; go_frame; refine x_pure (i := 17) (dst := some 65) (v := .int .i64 s.size) rfl rfl (by kernel_rfl) (by kernel_rfl) (by kernel_rfl) (by kernel_rfl) (fun _ _ _ h => h) (.inl ⟨rfl, fun u hu => by go_simp⟩) (fun _ => hX) ?_; go_frame; refine x_pure (i := 18) (dst := some 66) (v := .int .i64 mm) rfl rfl (by kernel_rfl) (by kernel_rfl) (by kernel_rfl) (by kernel_rfl) (fun _ _ _ h => h) (.inl ⟨rfl, fun u hu => by go_simp⟩) (fun _ => hX) ?_; go_frame; refine x_pure (i := 19) (dst := some 67) (v := .string S) rfl rfl (by kernel_rfl) (by kernel_rfl) (by kernel_rfl) (by kernel_rfl) (fun _ _ _ h => h) (.inl ⟨rfl, fun u hu => by go_simp⟩) (fun _ => hX) ?_; go_frame; refine x_pure (i := 20) (dst := some 68) (v := .pointer (some ⟨G, j * 6, none⟩)) rfl rfl (by kernel_rfl) (by kernel_rfl) (by kernel_rfl) (by kernel_rfl) (fun _ _ _ h => h) (.inl ⟨rfl, fun u hu => by go_simp⟩) (fun _ => hX) ?_; go_frame
       refine x_pure (i := 21) (dst := some 69) (v := .pointer (some ⟨G, j * 6 + 1, none⟩)) rfl rfl (by kernel_rfl) (by kernel_rfl) (by kernel_rfl) (by kernel_rfl) (fun _ _ _ h => h) (.inl ⟨rfl, fun u hu => by go_simp⟩) (fun _ => hX) ?_; go_frame; refine x_pure (i := 22) (dst := some 70) (v := .pointer (some ⟨G, j * 6 + 4, none⟩)) rfl rfl (by kernel_rfl) (by kernel_rfl) (by kernel_rfl) (by kernel_rfl) (fun _ _ _ h => h) (.inl ⟨rfl, fun u hu => by go_simp⟩) (fun _ => hX) ?_; go_frame; obtain ⟨u9, hu9⟩ : ∃ y, u0.setCell ⟨G, j * 6 + 4, none⟩ (.string S) = y := ⟨_, rfl⟩; have e4 := kn' hX; have f4 : u0.frozen? ⟨G, j * 6 + 4, none⟩ = false := hX.stp.free_at _; have st4 : (storeVar 9 ⟨G, j * 6 + 4, none⟩ (.string S)).run Tryz.prog u0 = .ok () u9 := by rw [← hu9]; go_simp
       refine x_skip (i := 23) (dst := none) rfl rfl (by kernel_rfl) rfl (run_store_op (x := .tmp 70) (y := .tmp 67) rfl rfl rfl st4) (no_x (by kernel_rfl)) ?_; go_frame; refine x_done (by kernel_rfl) ?_; have hg9 := setCell_grown u0 G (j * 6 + 4) (.string S); rw [hu9] at hg9; have hGf := hX.stp.far _ rfl; simp only at hGf; have hro9 := hX.stp.setc (i := j) (j := 4) (y := (⟨sk, ⟨⟨t, id⟩, v, S⟩, by_⟩ : StepD)) (v := .string S) hs3.out (by decide) rfl; rw [show j * Cel.sz StepD + 4 = j * 6 + 4 from rfl, hu9] at hro9
       have hst9 : Hid (FewS w u9 [.int .i64 kind, .int .u64 lsn, .int .i64 txn, .int .u64 prev, .int .u64 next, .slice q m c, .slice (some ⟨G, 0, none⟩) M1 c5, .int .i64 nextTxn, .slice tq tn tc, .slice dq dn dc] q m c U ((r.images.take 17).map fewI) (some ⟨G, 0, none⟩) M1 c5 (shortsS (r.steps.take M1) (j + 1))) := by
        refine ⟨hX.below.trans (grown_belowN hg9 hX.below.size (fun y e => by cases e; omega)), hX.box.kept hg9 (by omega), hX.res.kept hg9 (by omega), hX.img.kept (fun a ha => hg9.block _ (hX.img.far a ha).2 (fun e => by have h1 := hX.apS a _ ha rfl; simp only [Option.some.injEq] at e; simp only at h1; omega)), hX.imm.gr hg9 hX.apI, ?_, hX.apI, hX.apS⟩; rw [← hs4.out, hsh.out]; exact hro9
       clear hX kb kn' e4 f4 st4 hro9 hg9 hu9 hdr hst; go_wp2
       go_roundw
       case rel => exact ⟨j + 1, by omega, by go_num, hst9⟩
       case measure => simp [RowKit.intOf]; omega
     · obtain rfl : M1 = j := by omega
       have hbase : Hid (w.heap.size + 2 ≤ wr.heap.size) := by have h1 := hst.out.res.lt; show _ ≤ _; omega
       obtain ⟨w2, hw2⟩ : ∃ y, wr.alloc (.cells #[] 82) = y := ⟨_, rfl⟩; have hb2 : Below wr.heap.size wr w2 := by rw [← hw2]; exact (Below.refl _ _).alloc (Nat.le_refl _) _
       have oT := lh (OwnS.empty (α := TxnD) hw2 rfl); have r2 := lh (hst.out.box.below hb2); have z8 := r2.out.cell 8; have g2 := lh (Gr.then (Gr.refl wr w.heap.size) hb2); have sT := lh (stxns.out w2 (Gr.below g2.out hst.out.below (Nat.le_refl _))); have hsl := hs2.out w2; have hl12 : Hid (wr.heap.size ≤ w2.heap.size) := hb2.size; clear hb2
       go_wp2_with (first
        | (at_builtin
           refine wpList_append_l Tryz.underlying27 infoTxn rfl rfl (.tmp 72) (.tmp 79) rfl rfl rfl oT.out sT.out (by omega) (by omega) hl12.out ?_; intro q6 c6 w3 h3 hg3 hat3; have hg3 : w2.grownBy w3 (some wr.heap.size) := hg3; rw [Nat.zero_add] at h3 ⊢; rw [List.nil_append] at h3; have r3 := lh (r2.out.kept hg3 (by have h2 := hbase.out; omega)); have g3 := lh (Gr.own g2.out hg3 (Nat.le_refl _)); have h3 := lh h3
           clear hg3 z8 hsl hat3)
        | ((with_reducible refine wpList_store_f rfl 27 (.tmp 81) (.tmp 80) rfl (g := w.heap.size) (o := 8) (v := .slice q6 M2 c6) rfl rfl r3.out szTxns (lt10 k8) rfl ?_)
           intro w4 h9 hg9; have r4 : Hid (RowV 30 w4 w.heap.size [.int .i64 kind, .int .u64 lsn, .int .i64 txn, .int .u64 prev, .int .u64 next, .slice q m c, .slice q5 M1 c5, .int .i64 nextTxn, .slice q6 M2 c6, .slice dq dn dc]) := h9; have g4 := lh (Gr.trans g3.out hg9); have h4 : Hid (OwnS 82 w4 wr.heap.size (.slice q6 M2 c6) (r.txns.take M2)) := h3.out.kept (fun a ha => hg9.block _ (h3.out.far a ha).2 (fun e => by have h1 := (h3.out.far a ha).1; have h2 := hbase.out; simp only [Option.some.injEq] at e; omega)); obtain ⟨w5, hw5⟩ : ∃ y, w4.alloc (.cells #[] 85) = y := ⟨_, rfl⟩; have hb5 : Below w4.heap.size w4 w5 := by rw [← hw5]; exact (Below.refl _ _).alloc (Nat.le_refl _) _
           have oD := lh (OwnS.empty (α := PgD) hw5 rfl); have r5 := lh (r4.out.below hb5); have h5 := lh (h4.out.below hb5); have z9 := r5.out.cell 9; have g5 := lh (Gr.then g4.out hb5); have sD := lh (sdirty.out w5 (Gr.below g5.out hst.out.below (Nat.le_refl _))); have hsl := hs3.out w5; have hl45 : Hid (w4.heap.size ≤ w5.heap.size) := hb5.size; have hlr4 : Hid (wr.heap.size ≤ w4.heap.size) := g4.out.size
           clear h9 hg9 hb5)
        | (at_builtin
           refine wpList_append_l Tryz.underlying28 infoPg rfl rfl (.tmp 82) (.tmp 89) rfl rfl rfl oD.out sD.out (by omega) (by omega) hl45.out ?_; intro q7 c7 w6 h6 hg6 hat6; have hg6 : w5.grownBy w6 (some w4.heap.size) := hg6; rw [Nat.zero_add] at h6 ⊢; rw [List.nil_append] at h6; have r6 := lh (r5.out.kept hg6 (by have h2 := hbase.out; have h3 := hlr4.out; omega)); have g6 := lh (Gr.own g5.out hg6 hlr4.out); have h6t : Hid (OwnS 82 w6 wr.heap.size (.slice q6 M2 c6) (r.txns.take M2)) := h5.out.kept (fun a ha => hg6.block _ (h5.out.far a ha).2 (fun e => by have h1 := (h4.out.far a ha).2; simp only [Option.some.injEq] at e; omega)); have h6 := lh h6
           clear hg6 z9 hsl hat6)
        | ((with_reducible refine wpList_store_f rfl 28 (.tmp 91) (.tmp 90) rfl (g := w.heap.size) (o := 9) (v := .slice q7 M3 c7) rfl rfl r6.out szPgs (lt10 k9) rfl ?_)
           intro w7 h9 hg9; have r7 : Hid (RowV 30 w7 w.heap.size [.int .i64 kind, .int .u64 lsn, .int .i64 txn, .int .u64 prev, .int .u64 next, .slice q m c, .slice q5 M1 c5, .int .i64 nextTxn, .slice q6 M2 c6, .slice q7 M3 c7]) := h9; have g67 := lh hg9; have p7 := lh (hst.out.res.kept (Gr.trans g6.out hg9) (by omega))
           clear h9 hg9)
        | (with_reducible refine wpList_load_at rfl 30 (.tmp 1) rfl Tryz.underlying30 rfl (vs := [.int .i64 kind, .int .u64 lsn, .int .i64 txn, .int .u64 prev, .int .u64 next, .slice q m c, .slice q5 M1 c5, .int .i64 nextTxn, .slice q6 M2 c6, .slice q7 M3 c7]) (sizeRec ⟨kind, lsn, txn, prev, next, q, m, c, q5, M1, c5, nextTxn, q6, M2, c6, q7, M3, c7⟩) rfl r7.out.boxed.all ?_)
        | ((with_reducible refine wpList_store_at rfl 30 (.tmp 2) (.tmp 92) rfl (o := 0) (vs := [.int .i64 kind, .int .u64 lsn, .int .i64 txn, .int .u64 prev, .int .u64 next, .slice q m c, .slice q5 M1 c5, .int .i64 nextTxn, .slice q6 M2 c6, .slice q7 M3 c7]) rfl rfl p7.out (sizeRec ⟨kind, lsn, txn, prev, next, q, m, c, q5, M1, c5, nextTxn, q6, M2, c6, q7, M3, c7⟩) (Nat.le_refl _) (RecV.one ⟨kind, lsn, txn, prev, next, q, m, c, q5, M1, c5, nextTxn, q6, M2, c6, q7, M3, c7⟩) ?_)
           intro wz h9 hg9; have rz : Hid (RowV 30 wz (w.heap.size + 1) [.int .i64 kind, .int .u64 lsn, .int .i64 txn, .int .u64 prev, .int .u64 next, .slice q m c, .slice q5 M1 c5, .int .i64 nextTxn, .slice q6 M2 c6, .slice q7 M3 c7]) := h9; have gz := lh hg9
           clear h9 hg9))
       have y0 := rz.out.cell 0; have y1 := rz.out.cell 1; have y2 := rz.out.cell 2; have y3 := rz.out.cell 3; have y4 := rz.out.cell 4; have y5 := rz.out.cell 5; have y6 := rz.out.cell 6; have y7 := rz.out.cell 7; have y8 := rz.out.cell 8; have y9 := rz.out.cell 9; refine bodyPost_ret (v := .agg #[.int .i64 kind, .int .u64 lsn, .int .i64 txn, .int .u64 prev, .int .u64 next, .slice q m c, .slice q5 M1 c5, .int .i64 nextTxn, .slice q6 M2 c6, .slice q7 M3 c7]) (by simp [results, Tryz.results11, go_sem, y0, y1, y2, y3, y4, y5, y6, y7, y8, y9]) rfl ?_; have g7 := Gr.trans g6.out g67.out; have kp : ∀ {a : Addr}, w.heap.size + 2 ≤ a.block → a.block < wr.heap.size → wz.heap[a.block]? = wr.heap[a.block]? := fun h1 h2 => (gz.out.block _ (Nat.lt_of_lt_of_le h2 g7.size) (fun e => by simp only [Option.some.injEq] at e; omega)).trans (g7.block _ h2 (fun e => by simp only [Option.some.injEq] at e; omega))
       have kp6 : ∀ {a : Addr}, w.heap.size + 2 ≤ a.block → a.block < w6.heap.size → wz.heap[a.block]? = w6.heap[a.block]? := fun h1 h2 => (gz.out.block _ (Nat.lt_of_lt_of_le h2 g67.out.size) (fun e => by simp only [Option.some.injEq] at e; omega)).trans (g67.out.block _ h2 (fun e => by simp only [Option.some.injEq] at e; omega))
       have oI : OwnS 62 wz (w.heap.size + 2) (.slice q m c) U := hst.out.img.kept (fun a ha => kp (hst.out.img.far a ha).1 (hst.out.img.far a ha).2); have apn : ∀ k, k < w.heap.size + 2 → ∀ v ∈ U, ApI (some k) v := fun k hk v hv => (hst.out.imm.far v hv).ap (fun k' e => by cases e; exact hk)
       have iM : ImgsM wz (w.heap.size + 2) (q.map (·.block)) U ((r.images.take 17).map fewI) := (hst.out.imm.gr g7 (apn _ (by omega))).gr gz.out (apn _ (by omega)); have oS : OwnS 70 wz (w.heap.size + 2) (.slice q5 M1 c5) (shortsS (r.steps.take M1) M1) := hst.out.stp.kept (fun a ha => kp (hst.out.stp.far a ha).1 (hst.out.stp.far a ha).2)
       have hall : shortsS (r.steps.take M1) M1 = (r.steps.take M1).map shortS := by
        unfold shortsS; rw [List.take_of_length_le (Nat.le_of_eq hR1.out), List.drop_of_length_le (Nat.le_of_eq hR1.out), List.append_nil]
       rw [hall] at oS; have hbs := hbase.out; have oT6 := h6t.out.kept (w' := wz) (fun a ha => kp6 (by have := (h6t.out.far a ha).1; omega) (h6t.out.far a ha).2); have oD6 := h6.out.kept (w' := wz) (fun a ha => kp6 (by have := (h6.out.far a ha).1; have h2 := hlr4.out; omega) (h6.out.far a ha).2); have er : r.steps.take M1 = r.steps.take 3 := by rw [hM1.out, ← hSl.out]; exact List.take_eq_take_iff.2 (by omega)
       have et : r.txns.take M2 = r.txns.take 9 := by rw [hM2.out, ← hTl.out]; exact List.take_eq_take_iff.2 (by omega)
       have ed : r.dirty.take M3 = r.dirty.take 65 := by rw [hM3.out, ← hDl.out]; exact List.take_eq_take_iff.2 (by omega)
       rw [er] at oS; rw [et] at oT6; rw [ed] at oD6; have hx := hon.out
       have hon9 : ∀ x : World, Alike w.heap.size wz x → RecV.On ⟨kind, lsn, txn, prev, next, q, m, c, q5, M1, c5, nextTxn, q6, M2, c6, q7, M3, c7⟩ x U (fewRec r) := fun x ha => by
        have hk : ∀ k, k < wz.heap.size → w.heap.size + 2 ≤ k → x.heap[k]? = wz.heap[k]? := fun k h1 h2 => ha k (by omega) h1
        refine ⟨hx.kind, hx.lsn, hx.txn, hx.prev, hx.next, hx.nextTxn, hx.ints, iM.onk oI hk, (oS.onk hk).reads, (oT6.onk (fun k h1 h2 => hk k h1 (by omega))).reads, (oD6.onk (fun k h1 h2 => hk k h1 (by have h3 := hlr4.out; omega))).reads, fun s hs => ?_, fun t ht => hx.tok t (List.mem_of_mem_take ht), fun p hp => hx.dok p (List.mem_of_mem_take hp)⟩; obtain ⟨s0, h1, rfl⟩ := List.mem_map.1 hs; exact shortS_ok (hx.sok s0 (List.mem_of_mem_take h1))
       exact ⟨⟨kind, lsn, txn, prev, next, q, m, c, q5, M1, c5, nextTxn, q6, M2, c6, q7, M3, c7⟩, U, rfl, hon9, oI.mono (by omega), iM.low (by omega), Gr.below gz.out (Gr.below g7 hst.out.below (Nat.le_refl _)) (by omega)⟩
end Go.Proofs.YtocekhckmpkbmaaGreat
namespace Go.Proofs.YtocekhckmpkbmaaGreat
open Go.RowKit
section
variable {P : Program} {ops : Array Oper} {Q : Exit → Act → World → Prop} {md : Region.Mode} {S : World → Prop}
end
end Go.Proofs.YtocekhckmpkbmaaGreat
