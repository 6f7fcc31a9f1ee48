/- RecordBack: for every two records and row of bytes the law returns true, and its arguments read as they did. No condition. -/
import Derived.Test.YtocekhckmpkbmaaGreatQ34
import Derived.Test.YtocekhckmpkbmaaGreatQ35
namespace Go.Proofs.YtocekhckmpkbmaaGreat
open Go.ChangeShapes Go.WideShapes Go.ChangeAt Go.RowKit
set_option maxRecDepth 100000 in
set_option maxHeartbeats 16000000 in
theorem back_law (va : RecV) (Va : List ImgV) (ra : RecD) (vb : RecV) (Vb : List ImgV) (rb : RecD) (p : Option Addr) (n c : Nat) (b0 : List UInt8) (w : World) (ha : va.On w Va ra) (hb : vb.On w Vb rb) (hv0 : Lib.HoldsBytes w (.slice p n c) b0) (hnc : n ≤ c) (hcm : c ≤ maxLen) :
 Calls Tryz.prog 7 #[va.val, vb.val, .slice p n c] w (fun e w' => e = .returned (.bool true) ∧ Below w.heap.size w w') := by
 unfold maxLen at hcm
 obtain ⟨kinda, lsna, txna, preva, nexta, iqa, ima, ica, sqa, sna, sca, nextTxna, tqa, tna, tca, dqa, dna, dca⟩ := va
 obtain ⟨kindb, lsnb, txnb, prevb, nextb, iqb, imb, icb, sqb, snb, scb, nextTxnb, tqb, tnb, tcb, dqb, dnb, dcb⟩ := vb
 obtain ⟨m, hm⟩ : ∃ m : Nat, m = min n 4000 := ⟨_, rfl⟩
 have hmn : min (n : Int) 4000 = (m : Int) := by omega
 have hml : m ≤ n := by omega
 have hmc : m ≤ c := by omega
 have hm3 : m ≤ 4000 := by omega
 have hsl0 := Lib.hid (fun u => slice_bytes p n c m hml hnc u)
 have hv := Lib.hid (holds_front hv0 hml)
 obtain ⟨raw, hraw⟩ : ∃ b, b0.take m = b := ⟨_, rfl⟩
 rw [hraw] at hv
 clear hv0 hm hraw
 obtain ⟨W, hW⟩ : ∃ W, (w.alloc (.cells #[.int .i64 kinda, .int .u64 lsna, .int .i64 txna, .int .u64 preva, .int .u64 nexta, .slice iqa ima ica, .slice sqa sna sca, .int .i64 nextTxna, .slice tqa tna tca, .slice dqa dna dca] 30)).alloc (.cells #[.int .i64 kindb, .int .u64 lsnb, .int .i64 txnb, .int .u64 prevb, .int .u64 nextb, .slice iqb imb icb, .slice sqb snb scb, .int .i64 nextTxnb, .slice tqb tnb tcb, .slice dqb dnb dcb] 30) = W := ⟨_, rfl⟩
 have hbx := Lib.hid (two_boxes (xs := [.int .i64 kinda, .int .u64 lsna, .int .i64 txna, .int .u64 preva, .int .u64 nexta, .slice iqa ima ica, .slice sqa sna sca, .int .i64 nextTxna, .slice tqa tna tca, .slice dqa dna dca]) (ys := [.int .i64 kindb, .int .u64 lsnb, .int .i64 txnb, .int .u64 prevb, .int .u64 nextb, .slice iqb imb icb, .slice sqb snb scb, .int .i64 nextTxnb, .slice tqb tnb tcb, .slice dqb dnb dcb]) hW)
 have hdW := Lib.hid hbx.out.1
 have hsza : (Tryz.prog.info? 30).map (·.size) = some ([.int .i64 kinda, .int .u64 lsna, .int .i64 txna, .int .u64 preva, .int .u64 nexta, .slice iqa ima ica, .slice sqa sna sca, .int .i64 nextTxna, .slice tqa tna tca, .slice dqa dna dca] : List Value).length := sizeRec ⟨kinda, lsna, txna, preva, nexta, iqa, ima, ica, sqa, sna, sca, nextTxna, tqa, tna, tca, dqa, dna, dca⟩
 have hszb : (Tryz.prog.info? 30).map (·.size) = some ([.int .i64 kindb, .int .u64 lsnb, .int .i64 txnb, .int .u64 prevb, .int .u64 nextb, .slice iqb imb icb, .slice sqb snb scb, .int .i64 nextTxnb, .slice tqb tnb tcb, .slice dqb dnb dcb] : List Value).length := sizeRec ⟨kindb, lsnb, txnb, prevb, nextb, iqb, imb, icb, sqb, snb, scb, nextTxnb, tqb, tnb, tcb, dqb, dnb, dcb⟩
 show Calls _ _ #[.agg #[.int .i64 kinda, .int .u64 lsna, .int .i64 txna, .int .u64 preva, .int .u64 nexta, .slice iqa ima ica, .slice sqa sna sca, .int .i64 nextTxna, .slice tqa tna tca, .slice dqa dna dca], .agg #[.int .i64 kindb, .int .u64 lsnb, .int .i64 txnb, .int .u64 prevb, .int .u64 nextb, .slice iqb imb icb, .slice sqb snb scb, .int .i64 nextTxnb, .slice tqb tnb tcb, .slice dqb dnb dcb], .slice p n c] _ _
 go_enter Tryz.func7, Tryz.ntmps7
 go_wp2_with fail
 clear hW
 refine (wakes_any _).mono ?_
 rintro e w1 ⟨rfl, hb1⟩
 have hd1 := Lib.hid (hdW.out.trans (hb1.mono hdW.out.size))
 have hxa := Lib.hid (hbx.out.2.1.below hb1 (Nat.le_refl _))
 have hxb := Lib.hid (hbx.out.2.2.1.below hb1 (Nat.le_refl _))
 have hona := Lib.hid (ha.below hd1.out (Nat.le_refl _))
 have honb := Lib.hid (hb.below hd1.out (Nat.le_refl _))
 clear hb1 ha hb
 go_wp2_with fail
 refine wp_region_held (S := fun u => Below w1.heap.size w1 u) (by kernel_rfl) ?_
 change wpAnyH _ _ _ _ _ _ _ _ (World.drew w1)
 have hS0 : Below w1.heap.size w1 (World.drew w1) := below_drew w1
 generalize World.drew w1 = u0 at hS0 ⊢
 refine held_tk (i := 0) (dst := some 24) (v := .agg #[.int .i64 kinda, .int .u64 lsna, .int .i64 txna, .int .u64 preva, .int .u64 nexta, .slice iqa ima ica, .slice sqa sna sca, .int .i64 nextTxna, .slice tqa tna tca, .slice dqa dna dca]) rfl rfl (y_load_agg 30 (.tmp 3) rfl rfl rfl (fun u hu => run_loadVar_at Tryz.underlying30 rfl hsza _ (hxa.out.below hu (Nat.le_refl _)).all)) hS0 ?_; go_frame
 refine held_tk (i := 2) (dst := some 26) (v := .agg #[.int .i64 kindb, .int .u64 lsnb, .int .i64 txnb, .int .u64 prevb, .int .u64 nextb, .slice iqb imb icb, .slice sqb snb scb, .int .i64 nextTxnb, .slice tqb tnb tcb, .slice dqb dnb dcb]) rfl rfl (y_load_agg 30 (.tmp 4) rfl rfl rfl (fun u hu => run_loadVar_at Tryz.underlying30 rfl hszb _ (hxb.out.below hu (Nat.le_refl _)).all)) hS0 ?_; go_frame
 have hS1 := Lib.hid hS0
 refine held_calls2 (fun a b c d => #[true, a, true, b, c, d, false, false]) (FK u0 (fewRec ra) (fewRec rb)) (i := 1) (j := 3) (p := 4) (q := 5) (di := 25) (dj := 27) (dp := 7) (dq := 8) rfl rfl rfl rfl rfl rfl rfl rfl (by decide) rfl rfl rfl rfl rfl (fun _ _ _ => rfl) (fun _ _ _ => rfl) (fun _ _ _ => rfl) (fun _ _ _ => rfl) (fun a b c d h1 h2 => by cases a <;> cases b <;> cases c <;> cases d <;> first | (simp at h1; done) | (simp at h2; done) | kernel_rfl) ?_ ?_ ?_ ?_ (FK.start _ _ _) ?_
 · intro z u w' hk
   have hb' := below_step hk.bl hS1.out
   refine ⟨11, #[.agg #[.int .i64 kinda, .int .u64 lsna, .int .i64 txna, .int .u64 preva, .int .u64 nexta, .slice iqa ima ica, .slice sqa sna sca, .int .i64 nextTxna, .slice tqa tna tca, .slice dqa dna dca]], _, ?_, few_any ⟨kinda, lsna, txna, preva, nexta, iqa, ima, ica, sqa, sna, sca, nextTxna, tqa, tna, tca, dqa, dna, dca⟩ Va ra w' (hona.out.below hb' (Nat.le_refl _)), ?_⟩
   · cases z <;> cases u <;> simp only [putX] <;> go_simp
   · rintro e w4 ⟨v, V, rfl, k1, _, _, k3⟩
     exact ⟨_, rfl, below_step k3 hb', hk.one k1 k3⟩
 · intro x z u w' hk
   have hb' := below_step hk.bl hS1.out
   refine ⟨11, #[.agg #[.int .i64 kindb, .int .u64 lsnb, .int .i64 txnb, .int .u64 prevb, .int .u64 nextb, .slice iqb imb icb, .slice sqb snb scb, .int .i64 nextTxnb, .slice tqb tnb tcb, .slice dqb dnb dcb]], _, ?_, few_any ⟨kindb, lsnb, txnb, prevb, nextb, iqb, imb, icb, sqb, snb, scb, nextTxnb, tqb, tnb, tcb, dqb, dnb, dcb⟩ Vb rb w' (honb.out.below hb' (Nat.le_refl _)), ?_⟩
   · cases z <;> cases u <;> simp only [putX] <;> go_simp
   · rintro e w4 ⟨v, V, rfl, k1, _, _, k3⟩
     exact ⟨_, rfl, below_step k3 hb', hk.two k1 k3⟩
 · intro b x y u w' hk
   exact ⟨_, _, run_allocR b _ rfl w', below_step (below_step (one_box (xs := zR) rfl).1 hk.bl) hS1.out, hk.boxz rfl⟩
 · intro b x y z w' hk
   exact ⟨_, _, run_allocR b _ rfl w', below_step (below_step (one_box (xs := zR) rfl).1 hk.bl) hS1.out, hk.boxu rfl⟩
 intro x y z u w5 hk
 obtain ⟨B1, E1, ⟨kindc, lsnc, txnc, prevc, nextc, iqc, imc, icc, sqc, snc, scc, nextTxnc, tqc, tnc, tcc, dqc, dnc, dcc⟩, Vc, rfl, hE1, on1, ne1⟩ := hk.t1 _ rfl
 obtain ⟨B2, E2, ⟨kindd, lsnd, txnd, prevd, nextd, iqd, imd, icd, sqd, snd, scd, nextTxnd, tqd, tnd, tcd, dqd, dnd, dcd⟩, Vd, rfl, hE2, on2, ne2⟩ := hk.t2 _ rfl
 obtain ⟨G1, rfl, hG1, rw1⟩ := hk.b1 _ rfl
 obtain ⟨G2, rfl, hG2, rw2⟩ := hk.b2 _ rfl
 have hne : G1 ≠ G2 := hk.ne G1 G2 rfl rfl
 have n1a := ne1 G1 (.inl rfl)
 have n1b := ne1 G2 (.inr rfl)
 have n2a := ne2 G1 (.inl rfl)
 have n2b := ne2 G2 (.inr rfl)
 have hb5 := below_step hk.bl hS1.out
 have hz5 : w1.heap.size ≤ u0.heap.size := hS1.out.size
 have hszc : (Tryz.prog.info? 30).map (·.size) = some ([.int .i64 kindc, .int .u64 lsnc, .int .i64 txnc, .int .u64 prevc, .int .u64 nextc, .slice iqc imc icc, .slice sqc snc scc, .int .i64 nextTxnc, .slice tqc tnc tcc, .slice dqc dnc dcc] : List Value).length := sizeRec ⟨kindc, lsnc, txnc, prevc, nextc, iqc, imc, icc, sqc, snc, scc, nextTxnc, tqc, tnc, tcc, dqc, dnc, dcc⟩
 have hszd : (Tryz.prog.info? 30).map (·.size) = some ([.int .i64 kindd, .int .u64 lsnd, .int .i64 txnd, .int .u64 prevd, .int .u64 nextd, .slice iqd imd icd, .slice sqd snd scd, .int .i64 nextTxnd, .slice tqd tnd tcd, .slice dqd dnd dcd] : List Value).length := sizeRec ⟨kindd, lsnd, txnd, prevd, nextd, iqd, imd, icd, sqd, snd, scd, nextTxnd, tqd, tnd, tcd, dqd, dnd, dcd⟩
 obtain ⟨w6, st6, rr6, gr6⟩ := run_storeVar_at (o := 0) (vs := [.int .i64 kindc, .int .u64 lsnc, .int .i64 txnc, .int .u64 prevc, .int .u64 nextc, .slice iqc imc icc, .slice sqc snc scc, .int .i64 nextTxnc, .slice tqc tnc tcc, .slice dqc dnc dcc]) rw1 hszc (Nat.le_refl _) (RecV.one ⟨kindc, lsnc, txnc, prevc, nextc, iqc, imc, icc, sqc, snc, scc, nextTxnc, tqc, tnc, tcc, dqc, dnc, dcc⟩)
 have r6 : RowV 30 w6 G1 [.int .i64 kindc, .int .u64 lsnc, .int .i64 txnc, .int .u64 prevc, .int .u64 nextc, .slice iqc imc icc, .slice sqc snc scc, .int .i64 nextTxnc, .slice tqc tnc tcc, .slice dqc dnc dcc] := rr6
 have hb6 : Below w1.heap.size w1 w6 := Gr.below gr6 hb5 (by omega)
 refine held_skip (i := 6) (dst := none) rfl rfl (by kernel_rfl) rfl (run_store_op (x := .tmp 7) (y := .tmp 25) rfl rfl rfl st6) hb6 ?_; go_frame
 obtain ⟨w7, st7, rr7, gr7⟩ := run_storeVar_at (o := 0) (vs := [.int .i64 kindd, .int .u64 lsnd, .int .i64 txnd, .int .u64 prevd, .int .u64 nextd, .slice iqd imd icd, .slice sqd snd scd, .int .i64 nextTxnd, .slice tqd tnd tcd, .slice dqd dnd dcd]) (rw2.kept gr6 hne.symm) hszd (Nat.le_refl _) (RecV.one ⟨kindd, lsnd, txnd, prevd, nextd, iqd, imd, icd, sqd, snd, scd, nextTxnd, tqd, tnd, tcd, dqd, dnd, dcd⟩)
 have r7 : RowV 30 w7 G2 [.int .i64 kindd, .int .u64 lsnd, .int .i64 txnd, .int .u64 prevd, .int .u64 nextd, .slice iqd imd icd, .slice sqd snd scd, .int .i64 nextTxnd, .slice tqd tnd tcd, .slice dqd dnd dcd] := rr7
 have hd7 : Hid (Below w1.heap.size w1 w7) := Gr.below gr7 hb6 (by omega)
 refine held_skip (i := 7) (dst := none) rfl rfl (by kernel_rfl) rfl (run_store_op (x := .tmp 8) (y := .tmp 27) rfl rfl rfl st7) hd7.out ?_; go_frame
 have hkeep : ∀ k, k ≠ G1 → k ≠ G2 → k < w5.heap.size → w7.heap[k]? = w5.heap[k]? := fun k h1 h2 h3 => (gr7.block k (Nat.lt_of_lt_of_le h3 gr6.size) (fun e => h2 (by simpa using e))).trans (gr6.block k h3 (fun e => h1 (by simpa using e)))
 have honc : Hid (RecV.On ⟨kindc, lsnc, txnc, prevc, nextc, iqc, imc, icc, sqc, snc, scc, nextTxnc, tqc, tnc, tcc, dqc, dnc, dcc⟩ w7 Vc (fewRec ra)) := on1 w7 (fun k h1 h2 => hkeep k (by omega) (by omega) (by omega))
 have hond : Hid (RecV.On ⟨kindd, lsnd, txnd, prevd, nextd, iqd, imd, icd, sqd, snd, scd, nextTxnd, tqd, tnd, tcd, dqd, dnd, dcd⟩ w7 Vd (fewRec rb)) := on2 w7 (fun k h1 h2 => hkeep k (by omega) (by omega) (by omega))
 have hbxc := Lib.hid (r6.kept gr7 hne).boxed
 have hbxd := Lib.hid r7.boxed
 refine wpAnyH_done (by kernel_rfl) ?_ _
 clear hk on1 on2 ne1 ne2 rw1 rw2 n1a n1b n2a n2b hb5 hz5 st6 rr6 gr6 r6 hb6 st7 rr7 gr7 r7 hkeep hE1 hE2 hG1 hG2 hne hS1 hS0
 have hd7 : Hid (Below w.heap.size w w7) := hd1.out.trans (hd7.out.mono hd1.out.size)
 have hvR := Lib.hid (holds_below hv.out hd7.out (Nat.le_refl _))
 have hsl := hsl0.out w7
 go_wp2_with fail
 clear hsl
 refine (decode_any p m c raw w7 hvR.out hmc (by omega) (holds_far hvR.out)).mono ?_
 rintro e w8 ⟨⟨kindz, lsnz, txnz, prevz, nextz, iqz, imz, icz, sqz, snz, scz, nextTxnz, tqz, tnz, tcz, dqz, dnz, dcz⟩, Vz, z, er, rfl, honz0, hdz, hb8⟩
 have hd8 := Lib.hid (hd7.out.trans (hb8.mono hd7.out.size))
 have hd78 := Lib.hid hb8
 have honz0 := Lib.hid honz0
 clear hb8
 obtain ⟨w9, hw9⟩ : ∃ y, w8.alloc (.cells #[.int .i64 kindz, .int .u64 lsnz, .int .i64 txnz, .int .u64 prevz, .int .u64 nextz, .slice iqz imz icz, .slice sqz snz scz, .int .i64 nextTxnz, .slice tqz tnz tcz, .slice dqz dnz dcz] 30) = y := ⟨_, rfl⟩
 have hbz := Lib.hid (one_box (xs := [.int .i64 kindz, .int .u64 lsnz, .int .i64 txnz, .int .u64 prevz, .int .u64 nextz, .slice iqz imz icz, .slice sqz snz scz, .int .i64 nextTxnz, .slice tqz tnz tcz, .slice dqz dnz dcz]) hw9)
 have hd79 := Lib.hid (hd78.out.trans (hbz.out.1.mono hd78.out.size))
 have honz := Lib.hid (honz0.out w9 (fun k _ h2 => hbz.out.1.block k h2))
 have hszz : (Tryz.prog.info? 30).map (·.size) = some ([.int .i64 kindz, .int .u64 lsnz, .int .i64 txnz, .int .u64 prevz, .int .u64 nextz, .slice iqz imz icz, .slice sqz snz scz, .int .i64 nextTxnz, .slice tqz tnz tcz, .slice dqz dnz dcz] : List Value).length := sizeRec ⟨kindz, lsnz, txnz, prevz, nextz, iqz, imz, icz, sqz, snz, scz, nextTxnz, tqz, tnz, tcz, dqz, dnz, dcz⟩
 clear honz0
 rcases hdz with ⟨rfl, hrd, hmz⟩ | ⟨rfl, _⟩
 · have hzr : Hid (encRec z = raw) := read_sound hrd
   have hmz := Lib.hid hmz
   clear hrd
   go_wp2_with (first
    | (with_reducible refine wpList_load_at rfl 30 (.tmp 9) rfl Tryz.underlying30 rfl hszz rfl hbz.out.2.1.all ?_))
   clear hw9
   refine (encode_any ⟨kindz, lsnz, txnz, prevz, nextz, iqz, imz, icz, sqz, snz, scz, nextTxnz, tqz, tnz, tcz, dqz, dnz, dcz⟩ Vz z w9 honz.out).mono ?_
   rintro e w10 ⟨qz, nz, cz, er, rfl, hor, hb10⟩
   rcases hor with ⟨rfl, _, hownz⟩ | ⟨_, hbad, _⟩
   rotate_left
   · rw [hmz.out] at hbad; cases hbad
   rw [hzr.out] at hownz
   have hd710 := Lib.hid (hd79.out.trans (hb10.mono hd79.out.size))
   have hbz10 := Lib.hid (hbz.out.2.1.below hb10 (Nat.le_refl _))
   have honz10 := Lib.hid (honz.out.below hb10 (Nat.le_refl _))
   have heql := Lib.hid (equal_same hownz.holds.1 (holds_below hvR.out hd710.out (Nat.le_refl _)))
   clear hb10 hownz
   have hck := checkRec_any ⟨kindz, lsnz, txnz, prevz, nextz, iqz, imz, icz, sqz, snz, scz, nextTxnz, tqz, tnz, tcz, dqz, dnz, dcz⟩ Vz z w10 honz10.out
   rw [show chkRec z = 0 by unfold chkRec; rw [hmz.out]; rfl] at hck
   replace hck := Lib.hid hck
   go_wp2_with fail
   refine heql.out.mono ?_
   clear heql
   rintro e w10' ⟨rfl, rfl⟩
   go_wp2_with (first
    | ((with_reducible refine wpList_load_g ?_ 30 (.tmp 9) rfl Tryz.underlying30 rfl hszz rfl hbz10.out.all ?_); exact rfl)
    | (with_reducible refine wpList_load_at rfl 30 (.tmp 9) rfl Tryz.underlying30 rfl hszz rfl hbz10.out.all ?_))
   refine hck.out.mono ?_
   clear hck
   rintro e w11 ⟨rfl, hb11⟩
   have hd711 := Lib.hid (hd710.out.trans (hb11.mono hd710.out.size))
   clear hb11
   have hbxc0 := Lib.hid (hbxc.out.below hd711.out (Nat.le_refl _))
   have hbxd0 := Lib.hid (hbxd.out.below hd711.out (Nat.le_refl _))
   have honc0 := Lib.hid (honc.out.below hd711.out (Nat.le_refl _))
   have hond0 := Lib.hid (hond.out.below hd711.out (Nat.le_refl _))
   have hdx := Lib.hid (hd7.out.trans (hd711.out.mono hd7.out.size))
   go_wp2_with (first
    | (with_reducible refine wpList_load_at rfl 30 (.tmp 7) rfl Tryz.underlying30 rfl hszc rfl hbxc0.out.all ?_))
   refine (encode_any ⟨kindc, lsnc, txnc, prevc, nextc, iqc, imc, icc, sqc, snc, scc, nextTxnc, tqc, tnc, tcc, dqc, dnc, dcc⟩ Vc (fewRec ra) w11 honc0.out).mono ?_
   rintro e w20 ⟨qe, ne, ce, er, rfl, hor, hb20⟩
   rcases hor with ⟨rfl, hmr, hown⟩ | ⟨rfl, hmr, rfl, rfl, rfl⟩
   rotate_left
   · have hdE := Lib.hid (hdx.out.trans (hb20.mono hdx.out.size))
     clear hb20
     go_wp2_with fail
     go_ret
     exact ⟨rfl, hdE.out⟩
   obtain ⟨N, hN⟩ : ∃ N, (encRec (fewRec ra)).length = N := ⟨_, rfl⟩
   obtain rfl : ne = N := (holds_len hown.holds.1).trans hN
   have hN21 : 21 ≤ ne := by rw [← hN]; exact encRec_pos _
   have hN4 : ne ≤ 4000 := by rw [← hN]; exact encRec_len (lay_of hmr)
   have hce : ne ≤ ce := hown.holds.2.1
   replace hN := Lib.hid hN
   have hown := Lib.hid hown
   have hmr := Lib.hid hmr
   have hokr : Hid (DOk (fewRec ra)) := honc.out.ok
   have hd20 := Lib.hid hb20
   have he20 : Hid (Below w20.heap.size w20 w20) := Below.refl _ _
   clear hb20
   go_wp2_with fail
   refine (decode_any qe ne ce (encRec (fewRec ra)) w20 hown.out.holds.1 hce (by omega) (holds_far hown.out.holds.1)).mono ?_
   rintro e w21 ⟨⟨kindy, lsny, txny, prevy, nexty, iqy, imy, icy, sqy, sny, scy, nextTxny, tqy, tny, tcy, dqy, dny, dcy⟩, Vy, y, er, rfl, hony0, hdy, hb21⟩
   obtain ⟨rfl, rfl, hrdy⟩ := dec_ok hmr.out hokr.out hdy
   have hrdy := Lib.hid hrdy
   have he21 := Lib.hid (he20.out.trans (hb21.mono he20.out.size))
   obtain ⟨w22, hw22⟩ : ∃ y, w21.alloc (.cells #[.int .i64 kindy, .int .u64 lsny, .int .i64 txny, .int .u64 prevy, .int .u64 nexty, .slice iqy imy icy, .slice sqy sny scy, .int .i64 nextTxny, .slice tqy tny tcy, .slice dqy dny dcy] 30) = y := ⟨_, rfl⟩
   have hby := Lib.hid (one_box (xs := [.int .i64 kindy, .int .u64 lsny, .int .i64 txny, .int .u64 prevy, .int .u64 nexty, .slice iqy imy icy, .slice sqy sny scy, .int .i64 nextTxny, .slice tqy tny tcy, .slice dqy dny dcy]) hw22)
   have he22 := Lib.hid (he21.out.trans (hby.out.1.mono he21.out.size))
   have hony := Lib.hid (hony0 w22 (fun k _ h2 => hby.out.1.block k h2))
   have hszy : (Tryz.prog.info? 30).map (·.size) = some ([.int .i64 kindy, .int .u64 lsny, .int .i64 txny, .int .u64 prevy, .int .u64 nexty, .slice iqy imy icy, .slice sqy sny scy, .int .i64 nextTxny, .slice tqy tny tcy, .slice dqy dny dcy] : List Value).length := sizeRec ⟨kindy, lsny, txny, prevy, nexty, iqy, imy, icy, sqy, sny, scy, nextTxny, tqy, tny, tcy, dqy, dny, dcy⟩
   clear hb21 hdy hony0
   have hsm := sameRec_any ⟨kindy, lsny, txny, prevy, nexty, iqy, imy, icy, sqy, sny, scy, nextTxny, tqy, tny, tcy, dqy, dny, dcy⟩ ⟨kindc, lsnc, txnc, prevc, nextc, iqc, imc, icc, sqc, snc, scc, nextTxnc, tqc, tnc, tcc, dqc, dnc, dcc⟩ Vy Vc (fewRec ra) (fewRec ra) w22 hony.out (honc0.out.below (below_step he22.out hd20.out) (Nat.le_refl _))
   rw [(sameRec_iff _ _).2 rfl] at hsm
   replace hsm := Lib.hid hsm
   go_wp2_with (first
    | ((with_reducible refine wpList_load_g ?_ 30 (.tmp 15) rfl Tryz.underlying30 rfl hszy rfl hby.out.2.1.all ?_); exact rfl)
    | ((with_reducible refine wpList_load_g ?_ 30 (.tmp 7) rfl Tryz.underlying30 rfl hszc rfl (hbxc0.out.below (below_step he22.out hd20.out) (Nat.le_refl _)).all ?_); exact rfl))
   clear hw22
   refine hsm.out.mono ?_
   clear hsm
   rintro e w23 ⟨rfl, hb23⟩
   have he23 := Lib.hid (he22.out.trans (hb23.mono he22.out.size))
   clear hb23
   have hN1 : wrap64 ((ne : Int) - 1) = ((ne - 1 : Nat) : Int) := by unfold wrap64; omega
   have hsl := slice_bytes qe ne ce (ne - 1) (by omega) hce w23
   have hv23 : Hid (Lib.HoldsBytes w23 (.slice qe (ne - 1) ce) ((encRec (fewRec ra)).take (ne - 1))) := holds_front (hown.out.below he23.out).holds.1 (by omega)
   go_wp2_with fail
   clear hsl hN1
   refine (decode_any qe (ne - 1) ce _ w23 hv23.out (by omega) (by omega) (holds_far hv23.out)).mono ?_
   rintro e w24 ⟨⟨kindx, lsnx, txnx, prevx, nextx, iqx, imx, icx, sqx, snx, scx, nextTxnx, tqx, tnx, tcx, dqx, dnx, dcx⟩, Vx, x, er, rfl, honx, hdx2, hb24⟩
   rw [← hN.out] at hdx2
   obtain rfl := dec_short hrdy.out hdx2 (honx w24 (fun _ _ _ => rfl)).ok
   have he24 := Lib.hid (he23.out.trans (hb24.mono he23.out.size))
   clear hb24 hdx2 honx hv23
   obtain ⟨w25, hw25⟩ : ∃ y, w24.alloc (.cells #[.int .i64 kindx, .int .u64 lsnx, .int .i64 txnx, .int .u64 prevx, .int .u64 nextx, .slice iqx imx icx, .slice sqx snx scx, .int .i64 nextTxnx, .slice tqx tnx tcx, .slice dqx dnx dcx] 30) = y := ⟨_, rfl⟩
   have hbx5 := Lib.hid (one_box (xs := [.int .i64 kindx, .int .u64 lsnx, .int .i64 txnx, .int .u64 prevx, .int .u64 nextx, .slice iqx imx icx, .slice sqx snx scx, .int .i64 nextTxnx, .slice tqx tnx tcx, .slice dqx dnx dcx]) hw25)
   have he25 := Lib.hid (he24.out.trans (hbx5.out.1.mono he24.out.size))
   obtain ⟨w26, hw26⟩ : ∃ y, w25.alloc (.cells #[] 5) = y := ⟨_, rfl⟩
   have hb26 : Below w25.heap.size w25 w26 := by rw [← hw26]; exact (Below.refl _ _).alloc (Nat.le_refl _) _
   have ho26 := Lib.hid (Own.empty_ hw26)
   have he26 := Lib.hid (he25.out.trans (hb26.mono he25.out.size))
   have hsz26 : Hid (w25.heap.size ≤ w26.heap.size) := hb26.size
   clear hb26
   go_wp2_with (first
    | (at_builtin
       refine wpList_append_bytes rfl (.tmp 93) (.tmp 94) rfl rfl rfl ho26.out (hown.out.below he26.out).holds.1 (by omega) hsz26.out ?_
       intro qa ca w27 h27 hg27
       rw [Nat.zero_add] at h27 ⊢
       rw [List.nil_append] at h27
       have ho27 := Lib.hid h27
       have he27 := Lib.hid (he26.out.trans (grown_belowN hg27 he26.out.size (fun k e => by cases e; exact he25.out.size)))
       obtain ⟨w28, hw28⟩ : ∃ y, w27.alloc (.cells #[.int .u8 0] 5) = y := ⟨_, rfl⟩
       have hb28 : Below w27.heap.size w27 w28 := by rw [← hw28]; exact (Below.refl _ _).alloc (Nat.le_refl _) _
       have hz28 := Lib.hid (Own.one_ hw28)
       have ho28 := Lib.hid (ho27.out.kept (fun a ha => hb28.block _ (ho27.out.holds.2.2 a ha).2))
       have he28 := Lib.hid (he27.out.trans (hb28.mono he27.out.size))
       have hsz28 : Hid (w25.heap.size ≤ w28.heap.size) := Nat.le_trans (Nat.le_trans hsz26.out hg27.size) hb28.size
       clear h27 hg27 hb28)
    | (at_builtin
       refine wpList_append_bytes rfl (.tmp 95) (.tmp 96) rfl rfl rfl ho28.out hz28.out.holds.1 (by omega) hsz28.out ?_
       intro q9 c9 w29 h29 hg29
       have ho29 := Lib.hid h29
       have he29 : Hid (Below w20.heap.size w20 w29) := he28.out.trans (grown_belowN hg29 he28.out.size (fun k e => by
        cases qa with
        | none => cases e
        | some a => have h1 := (ho27.out.holds.2.2 a rfl).1; have h2 := he25.out.size; have e2 : some a.block = some k := e
                    simp only [Option.some.injEq] at e2
                    omega))
       clear h29 hg29))
   clear hw25 hw26 hw28
   refine (decode_any q9 (ne + 1) c9 _ w29 ho29.out.holds.1 ho29.out.holds.2.1 (by omega) (holds_far ho29.out.holds.1)).mono ?_
   rintro e w30 ⟨⟨kkx, lsnx, txnx, prevx, nextx, iqx, imx, icx, sqx, snx, scx, nextTxnx, tqx, tnx, tcx, dqx, dnx, dcx⟩, Vx2, x2, er, rfl, honx2, hdx3, hb30⟩
   obtain rfl := dec_long hmr.out hokr.out hdx3
   have he30 := Lib.hid (he29.out.trans (hb30.mono he29.out.size))
   clear hb30 hdx3 honx2
   obtain ⟨w31, hw31⟩ : ∃ y, w30.alloc (.cells #[.int .i64 kkx, .int .u64 lsnx, .int .i64 txnx, .int .u64 prevx, .int .u64 nextx, .slice iqx imx icx, .slice sqx snx scx, .int .i64 nextTxnx, .slice tqx tnx tcx, .slice dqx dnx dcx] 30) = y := ⟨_, rfl⟩
   have he31 : Hid (Below w20.heap.size w20 w31) := by rw [← hw31]; exact he30.out.alloc he30.out.size _
   go_wp2_with (first
    | (with_reducible refine wpList_load_at rfl 30 (.tmp 8) rfl Tryz.underlying30 rfl hszd rfl (hbxd0.out.below (below_step he31.out hd20.out) (Nat.le_refl _)).all ?_))
   clear hw31
   refine (encode_any ⟨kindd, lsnd, txnd, prevd, nextd, iqd, imd, icd, sqd, snd, scd, nextTxnd, tqd, tnd, tcd, dqd, dnd, dcd⟩ Vd (fewRec rb) w31 (hond0.out.below (below_step he31.out hd20.out) (Nat.le_refl _))).mono ?_
   rintro e w32 ⟨qf, nf, cf, er, rfl, hor, hb32⟩
   have he32 := Lib.hid (he31.out.trans (hb32.mono he31.out.size))
   have hb1e : Hid (Lib.HoldsBytes w32 (.slice qe ne ce) (encRec (fewRec ra))) := holds_below hown.out.holds.1 he32.out (Nat.le_refl _)
   rcases hor with ⟨rfl, hms, hownf⟩ | ⟨rfl, hms, rfl, rfl, rfl⟩
   · clear hb32
     go_wp2_with fail
     refine wp_region_held (S := fun u => Below w32.heap.size w32 u) (by kernel_rfl) ?_
     change wpAnyH _ _ _ _ _ _ _ _ (World.drew w32)
     have hS0 : Below w32.heap.size w32 (World.drew w32) := below_drew w32
     refine wpF.held _ _ _ ?_ _ hS0
     have heq : ∀ u, Below w32.heap.size w32 u → Calls Tryz.prog 17 #[.slice qe ne ce, .slice qf nf cf] u (fun e w' => e = .returned (.bool (sameRec (fewRec ra) (fewRec rb))) ∧ Below w32.heap.size w32 w') := fun u hu => by
      refine (equal_gen (holds_below hb1e.out hu (Nat.le_refl _)) (holds_below hownf.holds.1 hu (Nat.le_refl _))).mono ?_
      rintro e w' ⟨rfl, rfl⟩
      rw [enc_same hrdy.out hms hond.out.ok]
      exact ⟨rfl, hu⟩
     have hsm : ∀ u, Below w32.heap.size w32 u → Calls Tryz.prog 14 #[.agg #[.int .i64 kindc, .int .u64 lsnc, .int .i64 txnc, .int .u64 prevc, .int .u64 nextc, .slice iqc imc icc, .slice sqc snc scc, .int .i64 nextTxnc, .slice tqc tnc tcc, .slice dqc dnc dcc], .agg #[.int .i64 kindd, .int .u64 lsnd, .int .i64 txnd, .int .u64 prevd, .int .u64 nextd, .slice iqd imd icd, .slice sqd snd scd, .int .i64 nextTxnd, .slice tqd tnd tcd, .slice dqd dnd dcd]] u (fun e w' => e = .returned (.bool (sameRec (fewRec ra) (fewRec rb))) ∧ Below w32.heap.size w32 w') := fun u hu => by
      refine (sameRec_any ⟨kindc, lsnc, txnc, prevc, nextc, iqc, imc, icc, sqc, snc, scc, nextTxnc, tqc, tnc, tcc, dqc, dnc, dcc⟩ ⟨kindd, lsnd, txnd, prevd, nextd, iqd, imd, icd, sqd, snd, scd, nextTxnd, tqd, tnd, tcd, dqd, dnd, dcd⟩ Vc Vd (fewRec ra) (fewRec rb) u (honc0.out.below (below_step hu (below_step he32.out hd20.out)) (Nat.le_refl _)) (hond0.out.below (below_step hu (below_step he32.out hd20.out)) (Nat.le_refl _))).mono ?_
      rintro e w' ⟨rfl, hb'⟩
      exact ⟨rfl, below_step hb' hu⟩
     refine fx (i := 0) (dst := some 108) (v := .int .i64 0) rfl rfl (fx_read (fun u hu => by go_simp)) ?_; go_frame
     refine fx (i := 1) (dst := some 109) (v := .bool false) rfl rfl (fx_read (fun u hu => by go_simp)) ?_; go_frame
     refine fx (i := 2) (dst := some 110) (v := .bool false) rfl rfl (fx_read (fun u hu => by go_simp)) ?_; go_frame
     refine fx (i := 3) (dst := some 111) (v := .slice qe ne ce) rfl rfl (fx_read (fun u hu => by go_simp)) ?_; go_frame
     refine fx (i := 4) (dst := some 112) (v := .slice qf nf cf) rfl rfl (fx_read (fun u hu => by go_simp)) ?_; go_frame
     refine fx (i := 5) (dst := some 113) (v := .bool (sameRec (fewRec ra) (fewRec rb))) rfl rfl (fx_call heq) ?_; go_frame
     refine fx (i := 6) (dst := some 114) (v := .agg #[.int .i64 kindc, .int .u64 lsnc, .int .i64 txnc, .int .u64 prevc, .int .u64 nextc, .slice iqc imc icc, .slice sqc snc scc, .int .i64 nextTxnc, .slice tqc tnc tcc, .slice dqc dnc dcc]) rfl rfl (fx_load 30 (.tmp 7) (fun u hu => run_loadVar_at Tryz.underlying30 rfl hszc _ (hbxc0.out.below (below_step hu (below_step he32.out hd20.out)) (Nat.le_refl _)).all)) ?_; go_frame
     refine fx (i := 7) (dst := some 115) (v := .agg #[.int .i64 kindd, .int .u64 lsnd, .int .i64 txnd, .int .u64 prevd, .int .u64 nextd, .slice iqd imd icd, .slice sqd snd scd, .int .i64 nextTxnd, .slice tqd tnd tcd, .slice dqd dnd dcd]) rfl rfl (fx_load 30 (.tmp 8) (fun u hu => run_loadVar_at Tryz.underlying30 rfl hszd _ (hbxd0.out.below (below_step hu (below_step he32.out hd20.out)) (Nat.le_refl _)).all)) ?_; go_frame
     refine fx (i := 8) (dst := some 116) (v := .bool (sameRec (fewRec ra) (fewRec rb))) rfl rfl (fx_call hsm) ?_; go_frame
     refine fx (i := 9) (dst := some 117) (v := .bool true) rfl rfl (fx_read (fun u hu => by go_simp)) ?_; go_frame
     refine fx (i := 10) (dst := some 118) (v := .bool true) rfl rfl (fx_read (fun u hu => by go_simp)) ?_; go_frame
     refine fx (i := 11) (dst := some 6) (v := .bool true) rfl rfl (fx_read (fun u hu => by go_simp)) ?_; go_frame
     refine fx_done ?_ (by kernel_rfl) _
     intro w33 h33
     have hdE := Lib.hid (hdx.out.trans ((below_step h33 (below_step he32.out hd20.out)).mono hdx.out.size))
     clear h33
     go_wp2_with fail
     go_ret
     exact ⟨rfl, hdE.out⟩
   · clear hb32
     go_wp2_with fail
     refine wp_region_held (S := fun u => Below w32.heap.size w32 u) (by kernel_rfl) ?_
     change wpAnyH _ _ _ _ _ _ _ _ (World.drew w32)
     have hS0 : Below w32.heap.size w32 (World.drew w32) := below_drew w32
     refine wpF.held _ _ _ ?_ _ hS0
     refine fx (i := 0) (dst := some 108) (v := .int .i64 220) rfl rfl (fx_read (fun u hu => by go_simp)) ?_; go_frame
     refine fx (i := 1) (dst := some 109) (v := .bool true) rfl rfl (fx_read (fun u hu => by go_simp)) ?_; go_frame
     refine fx (i := 2) (dst := some 110) (v := .bool true) rfl rfl (fx_read (fun u hu => by go_simp)) ?_; go_frame
     refine fx (i := 3) (dst := some 111) (v := undef) rfl rfl fx_off ?_; go_frame
     refine fx (i := 4) (dst := some 112) (v := undef) rfl rfl fx_off ?_; go_frame
     refine fx (i := 5) (dst := some 113) (v := undef) rfl rfl fx_off ?_; go_frame
     refine fx (i := 6) (dst := some 114) (v := undef) rfl rfl fx_off ?_; go_frame
     refine fx (i := 7) (dst := some 115) (v := undef) rfl rfl fx_off ?_; go_frame
     refine fx (i := 8) (dst := some 116) (v := undef) rfl rfl fx_off ?_; go_frame
     refine fx (i := 9) (dst := some 117) (v := undef) rfl rfl fx_off ?_; go_frame
     refine fx (i := 10) (dst := some 118) (v := .bool true) rfl rfl (fx_read (fun u hu => by go_simp)) ?_; go_frame
     refine fx (i := 11) (dst := some 6) (v := .bool true) rfl rfl (fx_read (fun u hu => by go_simp)) ?_; go_frame
     refine fx_done ?_ (by kernel_rfl) _
     intro w33 h33
     have hdE := Lib.hid (hdx.out.trans ((below_step h33 (below_step he32.out hd20.out)).mono hdx.out.size))
     clear h33
     go_wp2_with fail
     go_ret
     exact ⟨rfl, hdE.out⟩
 · have hnothing := hd79
   have hbxc0 := Lib.hid (hbxc.out.below hd79.out (Nat.le_refl _))
   have hbxd0 := Lib.hid (hbxd.out.below hd79.out (Nat.le_refl _))
   have honc0 := Lib.hid (honc.out.below hd79.out (Nat.le_refl _))
   have hond0 := Lib.hid (hond.out.below hd79.out (Nat.le_refl _))
   have hdx := Lib.hid (hd7.out.trans (hd79.out.mono hd7.out.size))
   go_wp2_with (first
    | (with_reducible refine wpList_load_at rfl 30 (.tmp 7) rfl Tryz.underlying30 rfl hszc rfl hbxc0.out.all ?_))
   refine (encode_any ⟨kindc, lsnc, txnc, prevc, nextc, iqc, imc, icc, sqc, snc, scc, nextTxnc, tqc, tnc, tcc, dqc, dnc, dcc⟩ Vc (fewRec ra) w9 honc0.out).mono ?_
   rintro e w20 ⟨qe, ne, ce, er, rfl, hor, hb20⟩
   rcases hor with ⟨rfl, hmr, hown⟩ | ⟨rfl, hmr, rfl, rfl, rfl⟩
   rotate_left
   · have hdE := Lib.hid (hdx.out.trans (hb20.mono hdx.out.size))
     clear hb20
     go_wp2_with fail
     go_ret
     exact ⟨rfl, hdE.out⟩
   obtain ⟨N, hN⟩ : ∃ N, (encRec (fewRec ra)).length = N := ⟨_, rfl⟩
   obtain rfl : ne = N := (holds_len hown.holds.1).trans hN
   have hN21 : 21 ≤ ne := by rw [← hN]; exact encRec_pos _
   have hN4 : ne ≤ 4000 := by rw [← hN]; exact encRec_len (lay_of hmr)
   have hce : ne ≤ ce := hown.holds.2.1
   replace hN := Lib.hid hN
   have hown := Lib.hid hown
   have hmr := Lib.hid hmr
   have hokr : Hid (DOk (fewRec ra)) := honc.out.ok
   have hd20 := Lib.hid hb20
   have he20 : Hid (Below w20.heap.size w20 w20) := Below.refl _ _
   clear hb20
   go_wp2_with fail
   refine (decode_any qe ne ce (encRec (fewRec ra)) w20 hown.out.holds.1 hce (by omega) (holds_far hown.out.holds.1)).mono ?_
   rintro e w21 ⟨⟨kindy, lsny, txny, prevy, nexty, iqy, imy, icy, sqy, sny, scy, nextTxny, tqy, tny, tcy, dqy, dny, dcy⟩, Vy, y, er, rfl, hony0, hdy, hb21⟩
   obtain ⟨rfl, rfl, hrdy⟩ := dec_ok hmr.out hokr.out hdy
   have hrdy := Lib.hid hrdy
   have he21 := Lib.hid (he20.out.trans (hb21.mono he20.out.size))
   obtain ⟨w22, hw22⟩ : ∃ y, w21.alloc (.cells #[.int .i64 kindy, .int .u64 lsny, .int .i64 txny, .int .u64 prevy, .int .u64 nexty, .slice iqy imy icy, .slice sqy sny scy, .int .i64 nextTxny, .slice tqy tny tcy, .slice dqy dny dcy] 30) = y := ⟨_, rfl⟩
   have hby := Lib.hid (one_box (xs := [.int .i64 kindy, .int .u64 lsny, .int .i64 txny, .int .u64 prevy, .int .u64 nexty, .slice iqy imy icy, .slice sqy sny scy, .int .i64 nextTxny, .slice tqy tny tcy, .slice dqy dny dcy]) hw22)
   have he22 := Lib.hid (he21.out.trans (hby.out.1.mono he21.out.size))
   have hony := Lib.hid (hony0 w22 (fun k _ h2 => hby.out.1.block k h2))
   have hszy : (Tryz.prog.info? 30).map (·.size) = some ([.int .i64 kindy, .int .u64 lsny, .int .i64 txny, .int .u64 prevy, .int .u64 nexty, .slice iqy imy icy, .slice sqy sny scy, .int .i64 nextTxny, .slice tqy tny tcy, .slice dqy dny dcy] : List Value).length := sizeRec ⟨kindy, lsny, txny, prevy, nexty, iqy, imy, icy, sqy, sny, scy, nextTxny, tqy, tny, tcy, dqy, dny, dcy⟩
   clear hb21 hdy hony0
   have hsm := sameRec_any ⟨kindy, lsny, txny, prevy, nexty, iqy, imy, icy, sqy, sny, scy, nextTxny, tqy, tny, tcy, dqy, dny, dcy⟩ ⟨kindc, lsnc, txnc, prevc, nextc, iqc, imc, icc, sqc, snc, scc, nextTxnc, tqc, tnc, tcc, dqc, dnc, dcc⟩ Vy Vc (fewRec ra) (fewRec ra) w22 hony.out (honc0.out.below (below_step he22.out hd20.out) (Nat.le_refl _))
   rw [(sameRec_iff _ _).2 rfl] at hsm
   replace hsm := Lib.hid hsm
   go_wp2_with (first
    | ((with_reducible refine wpList_load_g ?_ 30 (.tmp 15) rfl Tryz.underlying30 rfl hszy rfl hby.out.2.1.all ?_); exact rfl)
    | ((with_reducible refine wpList_load_g ?_ 30 (.tmp 7) rfl Tryz.underlying30 rfl hszc rfl (hbxc0.out.below (below_step he22.out hd20.out) (Nat.le_refl _)).all ?_); exact rfl))
   clear hw22
   refine hsm.out.mono ?_
   clear hsm
   rintro e w23 ⟨rfl, hb23⟩
   have he23 := Lib.hid (he22.out.trans (hb23.mono he22.out.size))
   clear hb23
   have hN1 : wrap64 ((ne : Int) - 1) = ((ne - 1 : Nat) : Int) := by unfold wrap64; omega
   have hsl := slice_bytes qe ne ce (ne - 1) (by omega) hce w23
   have hv23 : Hid (Lib.HoldsBytes w23 (.slice qe (ne - 1) ce) ((encRec (fewRec ra)).take (ne - 1))) := holds_front (hown.out.below he23.out).holds.1 (by omega)
   go_wp2_with fail
   clear hsl hN1
   refine (decode_any qe (ne - 1) ce _ w23 hv23.out (by omega) (by omega) (holds_far hv23.out)).mono ?_
   rintro e w24 ⟨⟨kindx, lsnx, txnx, prevx, nextx, iqx, imx, icx, sqx, snx, scx, nextTxnx, tqx, tnx, tcx, dqx, dnx, dcx⟩, Vx, x, er, rfl, honx, hdx2, hb24⟩
   rw [← hN.out] at hdx2
   obtain rfl := dec_short hrdy.out hdx2 (honx w24 (fun _ _ _ => rfl)).ok
   have he24 := Lib.hid (he23.out.trans (hb24.mono he23.out.size))
   clear hb24 hdx2 honx hv23
   obtain ⟨w25, hw25⟩ : ∃ y, w24.alloc (.cells #[.int .i64 kindx, .int .u64 lsnx, .int .i64 txnx, .int .u64 prevx, .int .u64 nextx, .slice iqx imx icx, .slice sqx snx scx, .int .i64 nextTxnx, .slice tqx tnx tcx, .slice dqx dnx dcx] 30) = y := ⟨_, rfl⟩
   have hbx5 := Lib.hid (one_box (xs := [.int .i64 kindx, .int .u64 lsnx, .int .i64 txnx, .int .u64 prevx, .int .u64 nextx, .slice iqx imx icx, .slice sqx snx scx, .int .i64 nextTxnx, .slice tqx tnx tcx, .slice dqx dnx dcx]) hw25)
   have he25 := Lib.hid (he24.out.trans (hbx5.out.1.mono he24.out.size))
   obtain ⟨w26, hw26⟩ : ∃ y, w25.alloc (.cells #[] 5) = y := ⟨_, rfl⟩
   have hb26 : Below w25.heap.size w25 w26 := by rw [← hw26]; exact (Below.refl _ _).alloc (Nat.le_refl _) _
   have ho26 := Lib.hid (Own.empty_ hw26)
   have he26 := Lib.hid (he25.out.trans (hb26.mono he25.out.size))
   have hsz26 : Hid (w25.heap.size ≤ w26.heap.size) := hb26.size
   clear hb26
   go_wp2_with (first
    | (at_builtin
       refine wpList_append_bytes rfl (.tmp 93) (.tmp 94) rfl rfl rfl ho26.out (hown.out.below he26.out).holds.1 (by omega) hsz26.out ?_
       intro qa ca w27 h27 hg27
       rw [Nat.zero_add] at h27 ⊢
       rw [List.nil_append] at h27
       have ho27 := Lib.hid h27
       have he27 := Lib.hid (he26.out.trans (grown_belowN hg27 he26.out.size (fun k e => by cases e; exact he25.out.size)))
       obtain ⟨w28, hw28⟩ : ∃ y, w27.alloc (.cells #[.int .u8 0] 5) = y := ⟨_, rfl⟩
       have hb28 : Below w27.heap.size w27 w28 := by rw [← hw28]; exact (Below.refl _ _).alloc (Nat.le_refl _) _
       have hz28 := Lib.hid (Own.one_ hw28)
       have ho28 := Lib.hid (ho27.out.kept (fun a ha => hb28.block _ (ho27.out.holds.2.2 a ha).2))
       have he28 := Lib.hid (he27.out.trans (hb28.mono he27.out.size))
       have hsz28 : Hid (w25.heap.size ≤ w28.heap.size) := Nat.le_trans (Nat.le_trans hsz26.out hg27.size) hb28.size
       clear h27 hg27 hb28)
    | (at_builtin
       refine wpList_append_bytes rfl (.tmp 95) (.tmp 96) rfl rfl rfl ho28.out hz28.out.holds.1 (by omega) hsz28.out ?_
       intro q9 c9 w29 h29 hg29
       have ho29 := Lib.hid h29
       have he29 : Hid (Below w20.heap.size w20 w29) := he28.out.trans (grown_belowN hg29 he28.out.size (fun k e => by
        cases qa with
        | none => cases e
        | some a => have h1 := (ho27.out.holds.2.2 a rfl).1; have h2 := he25.out.size; have e2 : some a.block = some k := e
                    simp only [Option.some.injEq] at e2
                    omega))
       clear h29 hg29))
   clear hw25 hw26 hw28
   refine (decode_any q9 (ne + 1) c9 _ w29 ho29.out.holds.1 ho29.out.holds.2.1 (by omega) (holds_far ho29.out.holds.1)).mono ?_
   rintro e w30 ⟨⟨kkx, lsnx, txnx, prevx, nextx, iqx, imx, icx, sqx, snx, scx, nextTxnx, tqx, tnx, tcx, dqx, dnx, dcx⟩, Vx2, x2, er, rfl, honx2, hdx3, hb30⟩
   obtain rfl := dec_long hmr.out hokr.out hdx3
   have he30 := Lib.hid (he29.out.trans (hb30.mono he29.out.size))
   clear hb30 hdx3 honx2
   obtain ⟨w31, hw31⟩ : ∃ y, w30.alloc (.cells #[.int .i64 kkx, .int .u64 lsnx, .int .i64 txnx, .int .u64 prevx, .int .u64 nextx, .slice iqx imx icx, .slice sqx snx scx, .int .i64 nextTxnx, .slice tqx tnx tcx, .slice dqx dnx dcx] 30) = y := ⟨_, rfl⟩
   have he31 : Hid (Below w20.heap.size w20 w31) := by rw [← hw31]; exact he30.out.alloc he30.out.size _
   go_wp2_with (first
    | (with_reducible refine wpList_load_at rfl 30 (.tmp 8) rfl Tryz.underlying30 rfl hszd rfl (hbxd0.out.below (below_step he31.out hd20.out) (Nat.le_refl _)).all ?_))
   clear hw31
   refine (encode_any ⟨kindd, lsnd, txnd, prevd, nextd, iqd, imd, icd, sqd, snd, scd, nextTxnd, tqd, tnd, tcd, dqd, dnd, dcd⟩ Vd (fewRec rb) w31 (hond0.out.below (below_step he31.out hd20.out) (Nat.le_refl _))).mono ?_
   rintro e w32 ⟨qf, nf, cf, er, rfl, hor, hb32⟩
   have he32 := Lib.hid (he31.out.trans (hb32.mono he31.out.size))
   have hb1e : Hid (Lib.HoldsBytes w32 (.slice qe ne ce) (encRec (fewRec ra))) := holds_below hown.out.holds.1 he32.out (Nat.le_refl _)
   rcases hor with ⟨rfl, hms, hownf⟩ | ⟨rfl, hms, rfl, rfl, rfl⟩
   · clear hb32
     go_wp2_with fail
     refine wp_region_held (S := fun u => Below w32.heap.size w32 u) (by kernel_rfl) ?_
     change wpAnyH _ _ _ _ _ _ _ _ (World.drew w32)
     have hS0 : Below w32.heap.size w32 (World.drew w32) := below_drew w32
     refine wpF.held _ _ _ ?_ _ hS0
     have heq : ∀ u, Below w32.heap.size w32 u → Calls Tryz.prog 17 #[.slice qe ne ce, .slice qf nf cf] u (fun e w' => e = .returned (.bool (sameRec (fewRec ra) (fewRec rb))) ∧ Below w32.heap.size w32 w') := fun u hu => by
      refine (equal_gen (holds_below hb1e.out hu (Nat.le_refl _)) (holds_below hownf.holds.1 hu (Nat.le_refl _))).mono ?_
      rintro e w' ⟨rfl, rfl⟩
      rw [enc_same hrdy.out hms hond.out.ok]
      exact ⟨rfl, hu⟩
     have hsm : ∀ u, Below w32.heap.size w32 u → Calls Tryz.prog 14 #[.agg #[.int .i64 kindc, .int .u64 lsnc, .int .i64 txnc, .int .u64 prevc, .int .u64 nextc, .slice iqc imc icc, .slice sqc snc scc, .int .i64 nextTxnc, .slice tqc tnc tcc, .slice dqc dnc dcc], .agg #[.int .i64 kindd, .int .u64 lsnd, .int .i64 txnd, .int .u64 prevd, .int .u64 nextd, .slice iqd imd icd, .slice sqd snd scd, .int .i64 nextTxnd, .slice tqd tnd tcd, .slice dqd dnd dcd]] u (fun e w' => e = .returned (.bool (sameRec (fewRec ra) (fewRec rb))) ∧ Below w32.heap.size w32 w') := fun u hu => by
      refine (sameRec_any ⟨kindc, lsnc, txnc, prevc, nextc, iqc, imc, icc, sqc, snc, scc, nextTxnc, tqc, tnc, tcc, dqc, dnc, dcc⟩ ⟨kindd, lsnd, txnd, prevd, nextd, iqd, imd, icd, sqd, snd, scd, nextTxnd, tqd, tnd, tcd, dqd, dnd, dcd⟩ Vc Vd (fewRec ra) (fewRec rb) u (honc0.out.below (below_step hu (below_step he32.out hd20.out)) (Nat.le_refl _)) (hond0.out.below (below_step hu (below_step he32.out hd20.out)) (Nat.le_refl _))).mono ?_
      rintro e w' ⟨rfl, hb'⟩
      exact ⟨rfl, below_step hb' hu⟩
     refine fx (i := 0) (dst := some 108) (v := .int .i64 0) rfl rfl (fx_read (fun u hu => by go_simp)) ?_; go_frame
     refine fx (i := 1) (dst := some 109) (v := .bool false) rfl rfl (fx_read (fun u hu => by go_simp)) ?_; go_frame
     refine fx (i := 2) (dst := some 110) (v := .bool false) rfl rfl (fx_read (fun u hu => by go_simp)) ?_; go_frame
     refine fx (i := 3) (dst := some 111) (v := .slice qe ne ce) rfl rfl (fx_read (fun u hu => by go_simp)) ?_; go_frame
     refine fx (i := 4) (dst := some 112) (v := .slice qf nf cf) rfl rfl (fx_read (fun u hu => by go_simp)) ?_; go_frame
     refine fx (i := 5) (dst := some 113) (v := .bool (sameRec (fewRec ra) (fewRec rb))) rfl rfl (fx_call heq) ?_; go_frame
     refine fx (i := 6) (dst := some 114) (v := .agg #[.int .i64 kindc, .int .u64 lsnc, .int .i64 txnc, .int .u64 prevc, .int .u64 nextc, .slice iqc imc icc, .slice sqc snc scc, .int .i64 nextTxnc, .slice tqc tnc tcc, .slice dqc dnc dcc]) rfl rfl (fx_load 30 (.tmp 7) (fun u hu => run_loadVar_at Tryz.underlying30 rfl hszc _ (hbxc0.out.below (below_step hu (below_step he32.out hd20.out)) (Nat.le_refl _)).all)) ?_; go_frame
     refine fx (i := 7) (dst := some 115) (v := .agg #[.int .i64 kindd, .int .u64 lsnd, .int .i64 txnd, .int .u64 prevd, .int .u64 nextd, .slice iqd imd icd, .slice sqd snd scd, .int .i64 nextTxnd, .slice tqd tnd tcd, .slice dqd dnd dcd]) rfl rfl (fx_load 30 (.tmp 8) (fun u hu => run_loadVar_at Tryz.underlying30 rfl hszd _ (hbxd0.out.below (below_step hu (below_step he32.out hd20.out)) (Nat.le_refl _)).all)) ?_; go_frame
     refine fx (i := 8) (dst := some 116) (v := .bool (sameRec (fewRec ra) (fewRec rb))) rfl rfl (fx_call hsm) ?_; go_frame
     refine fx (i := 9) (dst := some 117) (v := .bool true) rfl rfl (fx_read (fun u hu => by go_simp)) ?_; go_frame
     refine fx (i := 10) (dst := some 118) (v := .bool true) rfl rfl (fx_read (fun u hu => by go_simp)) ?_; go_frame
     refine fx (i := 11) (dst := some 6) (v := .bool true) rfl rfl (fx_read (fun u hu => by go_simp)) ?_; go_frame
     refine fx_done ?_ (by kernel_rfl) _
     intro w33 h33
     have hdE := Lib.hid (hdx.out.trans ((below_step h33 (below_step he32.out hd20.out)).mono hdx.out.size))
     clear h33
     go_wp2_with fail
     go_ret
     exact ⟨rfl, hdE.out⟩
   · clear hb32
     go_wp2_with fail
     refine wp_region_held (S := fun u => Below w32.heap.size w32 u) (by kernel_rfl) ?_
     change wpAnyH _ _ _ _ _ _ _ _ (World.drew w32)
     have hS0 : Below w32.heap.size w32 (World.drew w32) := below_drew w32
     refine wpF.held _ _ _ ?_ _ hS0
     refine fx (i := 0) (dst := some 108) (v := .int .i64 220) rfl rfl (fx_read (fun u hu => by go_simp)) ?_; go_frame
     refine fx (i := 1) (dst := some 109) (v := .bool true) rfl rfl (fx_read (fun u hu => by go_simp)) ?_; go_frame
     refine fx (i := 2) (dst := some 110) (v := .bool true) rfl rfl (fx_read (fun u hu => by go_simp)) ?_; go_frame
     refine fx (i := 3) (dst := some 111) (v := undef) rfl rfl fx_off ?_; go_frame
     refine fx (i := 4) (dst := some 112) (v := undef) rfl rfl fx_off ?_; go_frame
     refine fx (i := 5) (dst := some 113) (v := undef) rfl rfl fx_off ?_; go_frame
     refine fx (i := 6) (dst := some 114) (v := undef) rfl rfl fx_off ?_; go_frame
     refine fx (i := 7) (dst := some 115) (v := undef) rfl rfl fx_off ?_; go_frame
     refine fx (i := 8) (dst := some 116) (v := undef) rfl rfl fx_off ?_; go_frame
     refine fx (i := 9) (dst := some 117) (v := undef) rfl rfl fx_off ?_; go_frame
     refine fx (i := 10) (dst := some 118) (v := .bool true) rfl rfl (fx_read (fun u hu => by go_simp)) ?_; go_frame
     refine fx (i := 11) (dst := some 6) (v := .bool true) rfl rfl (fx_read (fun u hu => by go_simp)) ?_; go_frame
     refine fx_done ?_ (by kernel_rfl) _
     intro w33 h33
     have hdE := Lib.hid (hdx.out.trans ((below_step h33 (below_step he32.out hd20.out)).mono hdx.out.size))
     clear h33
     go_wp2_with fail
     go_ret
     exact ⟨rfl, hdE.out⟩
set_option maxRecDepth 1000000 in
theorem back_lifted (os : Os) (started : os.Started) (H : Type) (enc : TypeId × Value → H) :
 ReturnsInHanded {} Tryz.checked os 7 .any (Rows.recordBackSpec.pre6 enc Tryz.prog Tryz.f7 Rows.recordBackRow.domain false) (Rows.recordBackSpec.post enc Tryz.prog Tryz.f7 false true false false) := by
 refine returnsInHanded_of_change (C := Tryz.checked) own started (by kernel_rfl) Tryz.func7
  (ChangeSpec.witness6 (enc := enc) (C := Tryz.checked) false ⟨#[], #[.agg #[.int .i64 0, .int .u64 0, .int .i64 0, .int .u64 0, .int .u64 0, .slice none 0 0, .slice none 0 0, .int .i64 0, .slice none 0 0, .slice none 0 0], .agg #[.int .i64 0, .int .u64 0, .int .i64 0, .int .u64 0, .int .u64 0, .slice none 0 0, .slice none 0 0, .int .i64 0, .slice none 0 0, .slice none 0 0], .slice none 0 0], []⟩ 8 (by kernel_rfl) (by kernel_rfl) (by kernel_rfl) (by kernel_rfl)) ?_
 intro W base args ds gs before hval0 hW _ _
 have hval : ∀ (j : Nat) t v, Tryz.f7.params[j]? = some t → args[j]? = some v → Value.okWide Tryz.prog W .any base t v := hval0
 have hW' := hW
 obtain ⟨p, q, hA0, hV, rfl, _, _⟩ := hW
 have hA : DataW.TrodAll enc Tryz.prog W 0 (fun _ => true) true Tryz.f7.params.toList args.toList ds p := hA0
 rw [Tryz.params7] at hA hval
 obtain ⟨v0, v1, v2, d0, d1, d2, p0, p1, p2, rfl, rfl, rfl, h0, h1, h2⟩ := trodAll_three hA
 obtain ⟨rfl, rfl⟩ := trodVars_none hV
 obtain ⟨x0, y0, z0, rfl, hc0⟩ := open_rec (hval 0 30 v0 rfl rfl) h0
 obtain ⟨x1, y1, z1, rfl, hc1⟩ := open_rec (hval 1 30 v1 rfl rfl) h1
 obtain ⟨a2, len2, cap2, rfl⟩ := okWide_slice Tryz.underlying36 (hval 2 36 v2 rfl rfl)
 obtain ⟨l2, hl2, _, hle2⟩ := open_bytes h2
 have hcap2 := open_cap h2
 refine (back_law x0 y0 z0 x1 y1 z1 a2 len2 cap2 l2 W hc0 hc1 hl2 hle2 hcap2).mono fun e W' ⟨he, hb⟩ => ?_
 subst he
 exact ⟨_, rfl, law_post laidOut (of_decide_eq_true (by kernel_rfl)) rfl (by kernel_rfl) Tryz.underlying4 hW' ⟨rfl, rfl, rfl⟩ hb⟩
set_option maxRecDepth 1000000 in
theorem back_holds : Rows.RecordBackSaid :=
 OpenClaim.holds_of_wide 7 Tryz.f7 rfl rfl rfl rfl rfl rfl rfl ⟨rfl, rfl, rfl, rfl, rfl⟩ rfl rfl rfl rfl rfl (by kernel_rfl) Tryz.func7 (by kernel_rfl)
  (of_decide_eq_true (by kernel_rfl)) (by unfold Func.isWrapper; first | (rw [if_pos (by decide +kernel)]; kernel_rfl) | (rw [if_neg (by decide +kernel)]; exact ⟨rfl, rfl⟩))
  (fun os started H enc _ => back_lifted os started H enc)
end Go.Proofs.YtocekhckmpkbmaaGreat
