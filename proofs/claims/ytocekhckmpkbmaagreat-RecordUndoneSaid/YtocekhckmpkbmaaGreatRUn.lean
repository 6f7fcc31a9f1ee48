/- RecordUndone: for every record and number the law returns true, and its arguments read as they did. No condition. -/
import Derived.Test.YtocekhckmpkbmaaGreatQ34
import Derived.Test.YtocekhckmpkbmaaGreatQ35
namespace Go.Proofs.YtocekhckmpkbmaaGreat
open Go.ChangeShapes Go.WideShapes Go.ChangeAt Go.RowKit
theorem befs_on {w w' : World} {B : Nat} {q q' : Option Addr} {n c c' : Nat} {V : List ImgV} {L : List ImgD} (h : ImgsOn w q n c V L) (hb : Below w.heap.size w w') (hown : OwnS 62 w' B (.slice q' n c') (V.map befV)) : ImgsOn w' q' n c' (V.map befV) (L.map befD) :=
 ⟨hown.reads, by rw [List.length_map, List.length_map]; exact h.len, fun i v x hv hx => by
  rw [List.getElem?_map] at hv hx
  cases hvi : V[i]? with
  | none => rw [hvi] at hv; cases hv
  | some v0 =>
    cases hxi : L[i]? with
    | none => rw [hxi] at hx; cases hx
    | some x0 =>
      rw [hvi] at hv
      rw [hxi] at hx
      cases hv
      cases hx
      have hon := (h.get i v0 x0 hvi hxi).below hb (Nat.le_refl _)
      exact ⟨hon.page, hon.pok, ⟨rfl, RowsOn.none_ _, KidsOn.none_ _⟩, hon.bef⟩⟩
set_option maxRecDepth 100000 in
set_option maxHeartbeats 16000000 in
theorem undone_law (va : RecV) (Va : List ImgV) (ra : RecD) (nn : Int) (w : World) (ha : va.On w Va ra) :
 Calls Tryz.prog 8 #[va.val, .int .u64 nn] w (fun e w' => e = .returned (.bool true) ∧ Below w.heap.size w w') := by
 obtain ⟨kinda, lsna, txna, preva, nexta, iqa, ima, ica, sqa, sna, sca, nextTxna, tqa, tna, tca, dqa, dna, dca⟩ := va
 obtain ⟨W, hW⟩ : ∃ W, w.alloc (.cells #[.int .i64 kinda, .int .u64 lsna, .int .i64 txna, .int .u64 preva, .int .u64 nexta, .slice iqa ima ica, .slice sqa sna sca, .int .i64 nextTxna, .slice tqa tna tca, .slice dqa dna dca] 30) = W := ⟨_, rfl⟩
 have hbx := Lib.hid (one_box (xs := [.int .i64 kinda, .int .u64 lsna, .int .i64 txna, .int .u64 preva, .int .u64 nexta, .slice iqa ima ica, .slice sqa sna sca, .int .i64 nextTxna, .slice tqa tna tca, .slice dqa dna dca]) hW)
 have hdW := Lib.hid hbx.out.1
 have hsza : (Tryz.prog.info? 30).map (·.size) = some ([.int .i64 kinda, .int .u64 lsna, .int .i64 txna, .int .u64 preva, .int .u64 nexta, .slice iqa ima ica, .slice sqa sna sca, .int .i64 nextTxna, .slice tqa tna tca, .slice dqa dna dca] : List Value).length := sizeRec ⟨kinda, lsna, txna, preva, nexta, iqa, ima, ica, sqa, sna, sca, nextTxna, tqa, tna, tca, dqa, dna, dca⟩
 show Calls _ _ #[.agg #[.int .i64 kinda, .int .u64 lsna, .int .i64 txna, .int .u64 preva, .int .u64 nexta, .slice iqa ima ica, .slice sqa sna sca, .int .i64 nextTxna, .slice tqa tna tca, .slice dqa dna dca], .int .u64 nn] _ _
 go_enter Tryz.func8, Tryz.ntmps8
 go_wp2_with fail
 clear hW
 refine (wakes_any _).mono ?_
 rintro e w1 ⟨rfl, hb1⟩
 have hd1 := Lib.hid (hdW.out.trans (hb1.mono hdW.out.size))
 have hxa := Lib.hid (hbx.out.2.1.below hb1 (Nat.le_refl _))
 clear hb1
 go_wp2_with (first
  | (with_reducible refine wpList_load_at rfl 30 (.tmp 2) rfl Tryz.underlying30 rfl hsza rfl hxa.out.all ?_))
 refine (few_any ⟨kinda, lsna, txna, preva, nexta, iqa, ima, ica, sqa, sna, sca, nextTxna, tqa, tna, tca, dqa, dna, dca⟩ Va ra w1 (ha.below hd1.out (Nat.le_refl _))).mono ?_
 clear ha
 rintro e w3 ⟨⟨kindc, lsnc, txnc, prevc, nextc, iqc, imc, icc, sqc, snc, scc, nextTxnc, tqc, tnc, tcc, dqc, dnc, dcc⟩, Vc, rfl, hon3, _, _, hb3⟩
 obtain ⟨R, hR⟩ : ∃ R, fewRec ra = R := ⟨_, rfl⟩
 rw [hR] at hon3
 have hd3 := Lib.hid (hd1.out.trans (hb3.mono hd1.out.size))
 obtain ⟨w4, hw4⟩ : ∃ y, w3.alloc (.cells #[.int .i64 kindc, .int .u64 lsnc, .int .i64 txnc, .int .u64 prevc, .int .u64 nextc, .slice iqc imc icc, .slice sqc snc scc, .int .i64 nextTxnc, .slice tqc tnc tcc, .slice dqc dnc dcc] 30) = y := ⟨_, rfl⟩
 have hbc := Lib.hid (one_box (xs := [.int .i64 kindc, .int .u64 lsnc, .int .i64 txnc, .int .u64 prevc, .int .u64 nextc, .slice iqc imc icc, .slice sqc snc scc, .int .i64 nextTxnc, .slice tqc tnc tcc, .slice dqc dnc dcc]) hw4)
 have hd4 := Lib.hid (hd3.out.trans (hbc.out.1.mono hd3.out.size))
 have hon := Lib.hid (hon3 w4 (fun k _ h2 => hbc.out.1.block k h2))
 have hszc : (Tryz.prog.info? 30).map (·.size) = some ([.int .i64 kindc, .int .u64 lsnc, .int .i64 txnc, .int .u64 prevc, .int .u64 nextc, .slice iqc imc icc, .slice sqc snc scc, .int .i64 nextTxnc, .slice tqc tnc tcc, .slice dqc dnc dcc] : List Value).length := sizeRec ⟨kindc, lsnc, txnc, prevc, nextc, iqc, imc, icc, sqc, snc, scc, nextTxnc, tqc, tnc, tcc, dqc, dnc, dcc⟩
 clear hb3 hR hon3
 have hck := checkRec_any ⟨kindc, lsnc, txnc, prevc, nextc, iqc, imc, icc, sqc, snc, scc, nextTxnc, tqc, tnc, tcc, dqc, dnc, dcc⟩ Vc R w4 hon.out
 obtain ⟨B, hB⟩ : ∃ B, mayB R = B := ⟨_, rfl⟩
 cases B with
 | false =>
   rw [show chkRec R = 220 by unfold chkRec; rw [hB]; rfl] at hck
   replace hck := Lib.hid hck
   go_wp2_with (first
    | (with_reducible refine wpList_load_at rfl 30 (.tmp 5) rfl Tryz.underlying30 rfl hszc rfl hbc.out.2.1.all ?_))
   clear hw4
   refine hck.out.mono ?_
   rintro e w5 ⟨rfl, hb5⟩
   have hdE := Lib.hid (hd4.out.trans (hb5.mono hd4.out.size))
   clear hb5
   go_wp2_with fail
   go_ret
   exact ⟨rfl, hdE.out⟩
 | true =>
   rw [show chkRec R = 0 by unfold chkRec; rw [hB]; rfl] at hck
   replace hck := Lib.hid hck
   go_wp2_with (first
    | (with_reducible refine wpList_load_at rfl 30 (.tmp 5) rfl Tryz.underlying30 rfl hszc rfl hbc.out.2.1.all ?_))
   clear hw4
   refine hck.out.mono ?_
   clear hck
   rintro e w5 ⟨rfl, hb5⟩
   have hd5 := Lib.hid (hd4.out.trans (hb5.mono hd4.out.size))
   have hbc5 := Lib.hid (hbc.out.2.1.below hb5 (Nat.le_refl _))
   have hon5 := Lib.hid (hon.out.below hb5 (Nat.le_refl _))
   have hgc : Hid (w3.heap.size < w5.heap.size) := Nat.lt_of_lt_of_le (by have h1 := hbc.out.2.2; omega) hb5.size
   have hm := Lib.hid hB
   clear hb5 hB hbc hon hd4
   have z0 : w5.cell? ⟨w3.heap.size, 0, none⟩ = some (.int .i64 kindc) := hbc5.out.cell 0 rfl
   by_cases hk : kindc = 2
   rotate_left
   · have hkb : (kindc != 2) = true := by simpa using hk
     go_wp2_with fail
     go_ret
     exact ⟨rfl, hd5.out⟩
   subst hk
   have hk2 : Hid (R.kind = 2) := hon5.out.kind.symm
   have hrng := hon5.out.ints
   have e1 : lsnc = R.lsn := hon5.out.lsn
   rw [← e1] at hrng
   have hlp := may_parts hm.out
   have hlsn : 1 ≤ lsnc ∧ lsnc ≤ 1099511627776 := by rw [e1]; exact ⟨hlp.1, hlp.2.1⟩
   obtain ⟨T1, hT1⟩ : ∃ t, lsnc % 1099511627776 = t := ⟨_, rfl⟩
   have hT0 : 0 ≤ T1 ∧ T1 < 1099511627776 := by rw [← hT1]; exact ⟨Int.emod_nonneg _ (by decide), Int.emod_lt_of_pos _ (by decide)⟩
   have ht1 : lsnc.tmod 1099511627776 = T1 := by rw [Int.tmod_eq_emod_of_nonneg (by omega)]; exact hT1
   obtain ⟨L1, hL1⟩ : ∃ l, T1 + 1 = l := ⟨_, rfl⟩
   have hL1r : 1 ≤ L1 ∧ L1 ≤ 1099511627776 := by omega
   have ew1 : IntKind.u64.wrap T1 = T1 := IntWalk.u64_in _ (by omega)
   have ew2 : IntKind.u64.wrap (T1 + 1) = L1 := by rw [hL1]; exact IntWalk.u64_in _ (by omega)
   have ew3 : IntKind.u64.wrap L1 = L1 := IntWalk.u64_in _ (by omega)
   have hTL : Hid (L1 = R.lsn % 1099511627776 + 1) := by show _ = _; rw [← e1, hT1, hL1]
   have z1 : w5.cell? ⟨w3.heap.size, 1, none⟩ = some (.int .u64 lsnc) := hbc5.out.cell 1 rfl
   have z2 : w5.cell? ⟨w3.heap.size, 2, none⟩ = some (.int .i64 txnc) := hbc5.out.cell 2 rfl
   have z3 : w5.cell? ⟨w3.heap.size, 3, none⟩ = some (.int .u64 prevc) := hbc5.out.cell 3 rfl
   have hrng := Lib.hid hrng
   have hlsn := Lib.hid hlsn
   have hL1r := Lib.hid hL1r
   replace hL1 := Lib.hid hL1
   replace hT1 := Lib.hid hT1
   replace e1 := Lib.hid e1
   clear hlp hT0
   obtain ⟨wz, hwz⟩ : ∃ y, w5.alloc (.cells #[.int .i64 0, .int .u64 0, .int .i64 0, .int .u64 0, .int .u64 0, .slice none 0 0, .slice none 0 0, .int .i64 0, .slice none 0 0, .slice none 0 0] 30) = y := ⟨_, rfl⟩
   have hbz : Below w5.heap.size w5 wz := by rw [← hwz]; exact (Below.refl _ _).alloc (Nat.le_refl _) _
   have hrz : Hid (RowV 30 wz w5.heap.size [.int .i64 0, .int .u64 0, .int .i64 0, .int .u64 0, .int .u64 0, .slice none 0 0, .slice none 0 0, .int .i64 0, .slice none 0 0, .slice none 0 0]) := by show RowV _ _ _ _; rw [← hwz]; exact RowV.made w5 _
   replace hbz := Lib.hid hbz
   have hszu0 : (Tryz.prog.info? 30).map (·.size) = some ([.int .i64 5, .int .u64 L1, .int .i64 txnc, .int .u64 lsnc, .int .u64 prevc, .slice none 0 0, .slice none 0 0, .int .i64 0, .slice none 0 0, .slice none 0 0] : List Value).length := sizeRec ⟨5, L1, txnc, lsnc, prevc, none, 0, 0, none, 0, 0, 0, none, 0, 0, none, 0, 0⟩
   have huone : ∀ x ∈ ([.int .i64 5, .int .u64 L1, .int .i64 txnc, .int .u64 lsnc, .int .u64 prevc, .slice none 0 0, .slice none 0 0, .int .i64 0, .slice none 0 0, .slice none 0 0] : List Value), x.oneCell' = true := RecV.one ⟨5, L1, txnc, lsnc, prevc, none, 0, 0, none, 0, 0, 0, none, 0, 0, none, 0, 0⟩
   have hVl : Hid (Vc.length = imc) := hon5.out.images.on.len
   have himg := Lib.hid hon5.out.images
   have hLl : Hid (R.images.length = imc) := by have h1 := himg.out.len; have h2 := hVl.out; show _ = _; omega
   have hig := Lib.hid (may_imgs hm.out)
   have him16 : imc ≤ 16 := by have h1 := hig.out.1.1; have h2 := hLl.out; omega
   go_wp2_with (first
    | ((with_reducible refine wpList_store_at rfl 30 (.tmp 6) (.tmp 41) rfl (o := 0) (vs := [.int .i64 5, .int .u64 L1, .int .i64 txnc, .int .u64 lsnc, .int .u64 prevc, .slice none 0 0, .slice none 0 0, .int .i64 0, .slice none 0 0, .slice none 0 0]) rfl rfl hrz.out hszu0 (Nat.le_refl _) huone ?_)
       intro w6 h9 hg9
       have ru6 : Hid (RowV 30 w6 w5.heap.size [.int .i64 5, .int .u64 L1, .int .i64 txnc, .int .u64 lsnc, .int .u64 prevc, .slice none 0 0, .slice none 0 0, .int .i64 0, .slice none 0 0, .slice none 0 0]) := h9
       have hbu : Hid (Below w5.heap.size w5 w6) := hbz.out.trans (grown_belowN hg9 hbz.out.size (fun k e => by cases e; exact Nat.le_refl _))
       have z5 : w6.cell? ⟨w3.heap.size, 5, none⟩ = some (.slice iqc imc icc) := (hbc5.out.below hbu.out (Nat.le_refl _)).cell 5 rfl
       clear h9 hg9))
   have h0 : Hid (Below w5.heap.size w5 w6 ∧ RowV 30 w6 w5.heap.size [.int .i64 5, .int .u64 L1, .int .i64 txnc, .int .u64 lsnc, .int .u64 prevc, .slice none 0 0, .slice none 0 0, .int .i64 0, .slice none 0 0, .slice none 0 0] ∧ OwnS 62 w6 (w5.heap.size + 1) (.slice none 0 0) ((Vc.take 0).map befV)) := ⟨hbu.out, ru6.out, OwnS.nil _ _ _⟩
   clear ru6
   clear z0 z1 z2 z3 z5 hwz ew1 ew2 ew3 ht1
   go_loopw [45] (fun v wr => ∃ (j : Nat) (q : Option Addr) (c' : Nat), j ≤ imc ∧ v = .int .i64 j ∧ Hid (Below w5.heap.size w5 wr ∧ RowV 30 wr w5.heap.size [.int .i64 5, .int .u64 L1, .int .i64 txnc, .int .u64 lsnc, .int .u64 prevc, .slice q j c', .slice none 0 0, .int .i64 0, .slice none 0 0, .slice none 0 0] ∧ OwnS 62 wr (w5.heap.size + 1) (.slice q j c') ((Vc.take j).map befV))) (fun v _ => imc - (RowKit.intOf v).toNat)
   case atStart => exact ⟨0, none, 0, Nat.zero_le _, rfl, h0⟩
   case round =>
    obtain ⟨j, q, c', hj, rfl, hst⟩ := hrel
    clear h0
    by_cases hlt : j < imc
    · obtain ⟨A, ⟨p, ⟨k1, q1, n1, c1, q2, n2, c2⟩, ⟨k3, q3, n3, c3, q4, n4, c4⟩⟩, d, hqA, hx, hdx, hond, hcA⟩ := (himg.out.below hst.out.1 (Nat.le_refl _)).at (show j < imc from hlt)
      subst hqA
      have hcA : Hid (∀ j' x, ([.int .i64 p, .int .i64 k1, .slice q1 n1 c1, .slice q2 n2 c2, .int .i64 k3, .slice q3 n3 c3, .slice q4 n4 c4] : List Value)[j']? = some x → wr.cell? ((A.add (j * 7)).add j') = some x) := hcA
      have hs : (Tryz.prog.info? 62).map (·.size) = some ([.int .i64 p, .int .i64 k1, .slice q1 n1 c1, .slice q2 n2 c2, .int .i64 k3, .slice q3 n3 c3, .slice q4 n4 c4] : List Value).length := sizeImg ⟨p, ⟨k1, q1, n1, c1, q2, n2, c2⟩, ⟨k3, q3, n3, c3, q4, n4, c4⟩⟩
      have hx := Lib.hid hx
      have i0 : (0 : Int) ≤ j := by omega
      have i1 : (j : Int) < imc := by omega
      have hd := Lib.hid hst.out.1
      have hru := Lib.hid hst.out.2.1
      have hown := Lib.hid hst.out.2.2
      clear hdx hond hst
      obtain ⟨we, hwe⟩ : ∃ x, wr.alloc (.cells #[.int .i64 p, .int .i64 k1, .slice q1 n1 c1, .slice q2 n2 c2, .int .i64 k3, .slice q3 n3 c3, .slice q4 n4 c4] 62) = x := ⟨_, rfl⟩
      have hbk := Lib.hid (one_box (xs := [.int .i64 p, .int .i64 k1, .slice q1 n1 c1, .slice q2 n2 c2, .int .i64 k3, .slice q3 n3 c3, .slice q4 n4 c4]) hwe)
      have d0 : we.cell? ⟨wr.heap.size, 0, none⟩ = some (.int .i64 p) := hbk.out.2.1.cell 0 rfl
      have d5 : we.cell? ⟨w5.heap.size, 5, none⟩ = some (.slice q j c') := (hru.out.below hbk.out.1).cell 5
      have f1 := Lib.hid (Boxed.part hbk.out.2.1 (o := 1) (ys := [.int .i64 k1, .slice q1 n1 c1, .slice q2 n2 c2]) (fun j' x hj => by
       match j', hj with
       | 0, hj => exact hj
       | 1, hj => exact hj
       | 2, hj => exact hj
       | j' + 3, hj => simp at hj))
      have z1 := sizeCont (.int .i64 k1) (.slice q1 n1 c1) (.slice q2 n2 c2)
      obtain ⟨w8, hw8⟩ : ∃ y, we.alloc (.cells #[.int .i64 p, .int .i64 0, .slice none 0 0, .slice none 0 0, .int .i64 k1, .slice q1 n1 c1, .slice q2 n2 c2] 62) = y := ⟨_, rfl⟩
      have hb8 : Hid (Below we.heap.size we w8) := by rw [← hw8]; exact (Below.refl _ _).alloc (Nat.le_refl _) _
      have hro8 : RowV 62 w8 we.heap.size (Cel.cells (befV ⟨p, ⟨k1, q1, n1, c1, q2, n2, c2⟩, ⟨k3, q3, n3, c3, q4, n4, c4⟩⟩)) := by rw [← hw8]; exact RowV.made we _
      have hsl8 := Lib.hid (OwnS.single hro8).reads
      have hown8 := Lib.hid ((hown.out.below hbk.out.1).below hb8.out)
      have hru8 := Lib.hid ((hru.out.below hbk.out.1).below hb8.out)
      have hul : Hid (w5.heap.size < wr.heap.size) := hru.out.lt
      have hw8s : Hid (w5.heap.size + 1 ≤ w8.heap.size) := by have h1 := hul.out; have h2 := hbk.out.1.size; have h3 := hb8.out.size; show _ ≤ _; omega
      have hd8 := Lib.hid (below_step hb8.out (below_step hbk.out.1 hd.out))
      have hfq : Hid (∀ k, q.map (·.block) = some k → w5.heap.size + 1 ≤ k) := fun k e => by
       cases q with
       | none => cases e
       | some a => have h1 := hown.out.far a rfl; have e : a.block = k := by simpa using e
                   omega
      have l5 : (5 : Nat) < 10 := by decide
      clear hro8
      go_wp2_with (first
       | (with_reducible refine wpList_load_at rfl 62 (.tmp 47) rfl Tryz.underlying62 rfl hs rfl hcA.out ?_)
       | (with_reducible refine wpList_load_at rfl 55 (.tmp 53) rfl Tryz.underlying55 rfl z1 rfl f1.out ?_)
       | (at_builtin
          refine wpList_append_l Tryz.underlying25 infoImg rfl rfl (.tmp 50) (.tmp 56) rfl rfl rfl hown8.out hsl8.out (by omega) (by omega) hw8s.out ?_
          intro q9 c9 w9 h9 hg9 hat
          have ho9 := Lib.hid h9
          have hg9' := Lib.hid hg9
          have hru9 := Lib.hid (hru8.out.block (hg9.block _ hru8.out.lt (fun e => by have h1 := hfq.out _ e.symm; omega)))
          clear h9 hg9 hat)
       | ((with_reducible refine wpList_store_f rfl 25 (.tmp 58) (.tmp 57) rfl (g := w5.heap.size) (o := 5) (v := .slice q9 (j + 1) c9) rfl rfl hru9.out szImgs (lt10 l5) rfl ?_)
          intro w10 h9 hg9
          have hru10 : Hid (RowV 30 w10 w5.heap.size [.int .i64 5, .int .u64 L1, .int .i64 txnc, .int .u64 lsnc, .int .u64 prevc, .slice q9 (j + 1) c9, .slice none 0 0, .int .i64 0, .slice none 0 0, .slice none 0 0]) := h9
          have hg10 := Lib.hid hg9
          clear h9 hg9))
      have hnew : Hid (Below w5.heap.size w5 w10 ∧ RowV 30 w10 w5.heap.size [.int .i64 5, .int .u64 L1, .int .i64 txnc, .int .u64 lsnc, .int .u64 prevc, .slice q9 (j + 1) c9, .slice none 0 0, .int .i64 0, .slice none 0 0, .slice none 0 0] ∧ OwnS 62 w10 (w5.heap.size + 1) (.slice q9 (j + 1) c9) ((Vc.take (j + 1)).map befV)) := by
       refine ⟨(hd8.out.trans (grown_belowN hg9'.out hd8.out.size (fun k e => Nat.le_trans (Nat.le_succ _) (hfq.out k e)))).trans (grown_belowN hg10.out (Nat.le_trans hd8.out.size hg9'.out.size) (fun k e => by cases e; exact Nat.le_refl _)), hru10.out, ?_⟩
       have h1 := ho9.out.kept (w' := w10) (fun a ha => hg10.out.block _ (ho9.out.far a ha).2 (fun e => by have h2 := (ho9.out.far a ha).1; simp only [Option.some.injEq] at e; omega))
       rw [List.take_add_one, hx.out, List.map_append]
       exact h1
      clear hwe hw8
      go_roundw
      case rel => exact ⟨j + 1, q9, c9, by omega, by go_num, hnew⟩
      case measure => simp [RowKit.intOf]; omega
    · obtain rfl : imc = j := by omega
      have hd := Lib.hid hst.out.1
      have hru := Lib.hid hst.out.2.1
      have hown := hst.out.2.2
      rw [List.take_of_length_le (Nat.le_of_eq hVl.out)] at hown
      clear hst
      have hbcr := Lib.hid (hbc5.out.below hd.out (Nat.le_refl _))
      have honr := Lib.hid (hon5.out.below hd.out (Nat.le_refl _))
      have hdr := Lib.hid (hd5.out.trans (hd.out.mono hd5.out.size))
      have honu : Hid (RecV.On ⟨5, L1, txnc, lsnc, prevc, q, imc, c', none, 0, 0, 0, none, 0, 0, none, 0, 0⟩ wr (Vc.map befV) (undU R)) := ⟨rfl, hTL.out, honr.out.txn, honr.out.lsn, honr.out.prev, rfl, ⟨(show I64 (5 : Int) from i64_c (by decide)), u64_c (by show 0 ≤ R.lsn % 1099511627776 + 1 ∧ R.lsn % 1099511627776 + 1 < _; rw [← hTL.out]; have h1 := hL1r.out; omega), honr.out.ints.2.2.1, honr.out.ints.2.1, honr.out.ints.2.2.2.1, i64_zero⟩, befs_on himg.out hd.out hown, SlOn.none_ _, SlOn.none_ _, SlOn.none_ _, (fun s h => by cases h), (fun s h => by cases h), (fun s h => by cases h)⟩
      clear hown
      have z1 : wr.cell? ⟨w3.heap.size, 1, none⟩ = some (.int .u64 lsnc) := hbcr.out.cell 1 rfl
      have y1 : wr.cell? ⟨w5.heap.size, 1, none⟩ = some (.int .u64 L1) := hru.out.cell 1
      by_cases hle : L1 ≤ lsnc
      · have hleb : decide (L1 ≤ lsnc) = true := decide_eq_true hle
        go_wp2_with fail
        go_ret
        exact ⟨rfl, hdr.out⟩
      have hleb : decide (L1 ≤ lsnc) = false := decide_eq_false hle
      have hmu : Hid (mayB (undU R) = true) := undU_may hm.out hk2.out (by rw [← hTL.out, ← e1.out]; omega) good_zero
      have hszu : (Tryz.prog.info? 30).map (·.size) = some ([.int .i64 5, .int .u64 L1, .int .i64 txnc, .int .u64 lsnc, .int .u64 prevc, .slice q imc c', .slice none 0 0, .int .i64 0, .slice none 0 0, .slice none 0 0] : List Value).length := sizeRec ⟨5, L1, txnc, lsnc, prevc, q, imc, c', none, 0, 0, 0, none, 0, 0, none, 0, 0⟩
      go_wp2_with (first
       | (with_reducible refine wpList_load_at rfl 30 (.tmp 5) rfl Tryz.underlying30 rfl hszc rfl hbcr.out.all ?_))
      clear z1 y1
      refine (reserve_any ⟨2, lsnc, txnc, prevc, nextc, iqc, imc, icc, sqc, snc, scc, nextTxnc, tqc, tnc, tcc, dqc, dnc, dcc⟩ Vc R wr honr.out).mono ?_
      rintro e w11 ⟨n11, er, rfl, hor, hb11⟩
      rcases hor with ⟨rfl, _, hn11⟩ | ⟨_, hb, _⟩
      rotate_left
      · rw [hm.out] at hb; cases hb
      replace hn11 := Lib.hid hn11
      have he11 := Lib.hid hb11
      clear hb11
      go_wp2_with (first
       | (with_reducible refine wpList_load_at rfl 30 (.tmp 6) rfl Tryz.underlying30 rfl hszu rfl (hru.out.boxed.below he11.out (Nat.le_refl _)).all ?_))
      refine (cost_any ⟨5, L1, txnc, lsnc, prevc, q, imc, c', none, 0, 0, 0, none, 0, 0, none, 0, 0⟩ (Vc.map befV) (undU R) w11 (honu.out.below he11.out (Nat.le_refl _))).mono ?_
      rintro e w12 ⟨n12, er, rfl, hor, hb12⟩
      rcases hor with ⟨rfl, _, hn12⟩ | ⟨_, hb, _⟩
      rotate_left
      · rw [hmu.out] at hb; cases hb
      have hnn : n12 = n11 := by rw [hn12, hn11.out]; exact und_cost hk2.out rfl rfl
      subst hnn
      have hn1 : 1 ≤ n12 := by have h1 := secs_pos (encRec (undU R)).length; omega
      have hn1b : decide (n12 < 1) = false := decide_eq_false (by omega)
      have hngt : decide (n12 < n12) = false := decide_eq_false (by omega)
      clear hn12 hn11
      have he12 := Lib.hid (below_step hb12 he11.out)
      clear hb12
      have z5 : w12.cell? ⟨w3.heap.size, 5, none⟩ = some (.slice iqc imc icc) := (hbcr.out.below he12.out (Nat.le_refl _)).cell 5 rfl
      go_wp2_with fail
      clear z5
      have h0 : Hid (Below wr.heap.size wr w12) := he12.out
      obtain ⟨wL, hwL⟩ : ∃ x, wr = x := ⟨_, rfl⟩
      rw [hwL] at h0 hbcr honr honu hru hdr he12 he11
      clear hwL
      go_loopw [93] (fun v wr => ∃ j : Nat, j ≤ imc ∧ v = .int .i64 j ∧ Hid (Below wL.heap.size wL wr)) (fun v _ => imc - (RowKit.intOf v).toNat)
      case atStart => exact ⟨0, Nat.zero_le _, rfl, h0⟩
      case round =>
       obtain ⟨j, hj, rfl, hst⟩ := hrel
       clear h0
       by_cases hlt : j < imc
       · obtain ⟨A, ⟨p, ⟨k1, q1, n1, c1, q2, n2, c2⟩, ⟨k3, q3, n3, c3, q4, n4, c4⟩⟩, d, hqA, hx, hdx, hond, hcA⟩ := (honr.out.images.below hst.out (Nat.le_refl _)).at (show j < imc from hlt)
         subst hqA
         have hcA : Hid (∀ j' x, ([.int .i64 p, .int .i64 k1, .slice q1 n1 c1, .slice q2 n2 c2, .int .i64 k3, .slice q3 n3 c3, .slice q4 n4 c4] : List Value)[j']? = some x → wr.cell? ((A.add (j * 7)).add j') = some x) := hcA
         have hs : (Tryz.prog.info? 62).map (·.size) = some ([.int .i64 p, .int .i64 k1, .slice q1 n1 c1, .slice q2 n2 c2, .int .i64 k3, .slice q3 n3 c3, .slice q4 n4 c4] : List Value).length := sizeImg ⟨p, ⟨k1, q1, n1, c1, q2, n2, c2⟩, ⟨k3, q3, n3, c3, q4, n4, c4⟩⟩
         have i0 : (0 : Int) ≤ j := by omega
         have i1 : (j : Int) < imc := by omega
         have hdm := List.mem_of_getElem? hdx
         have hred : Hid (redD R p = some d) := by
          show _ = _
          unfold redD
          rw [if_pos hm.out, show p = d.page from hond.page]
          exact findI_rise _ _ hig.out.1.2 d hdm
         have hredu : Hid (redD (undU R) p = some (befD d)) := by
          show _ = _
          unfold redD
          rw [if_pos hmu.out, show p = (befD d).page from hond.page]
          exact findI_rise _ (-1) (by show riseF (-1) ((R.images.map befD).map (·.page)) = true; rw [befD_page]; exact hig.out.1.2) (befD d) (List.mem_map.2 ⟨d, hdm, rfl⟩)
         have hond := Lib.hid hond
         clear hx hdx hdm
         obtain ⟨we, hwe⟩ : ∃ x, wr.alloc (.cells #[.int .i64 p, .int .i64 k1, .slice q1 n1 c1, .slice q2 n2 c2, .int .i64 k3, .slice q3 n3 c3, .slice q4 n4 c4] 62) = x := ⟨_, rfl⟩
         have hbk := Lib.hid (one_box (xs := [.int .i64 p, .int .i64 k1, .slice q1 n1 c1, .slice q2 n2 c2, .int .i64 k3, .slice q3 n3 c3, .slice q4 n4 c4]) hwe)
         have hde := Lib.hid (below_step hbk.out.1 hst.out)
         have d0 : we.cell? ⟨wr.heap.size, 0, none⟩ = some (.int .i64 p) := hbk.out.2.1.cell 0 rfl
         have f1 := fun (u : World) (hu : Boxed u wr.heap.size [.int .i64 p, .int .i64 k1, .slice q1 n1 c1, .slice q2 n2 c2, .int .i64 k3, .slice q3 n3 c3, .slice q4 n4 c4]) => Boxed.part hu (o := 1) (ys := [.int .i64 k1, .slice q1 n1 c1, .slice q2 n2 c2]) (fun j' x hj => by
          match j', hj with
          | 0, hj => exact hj
          | 1, hj => exact hj
          | 2, hj => exact hj
          | j' + 3, hj => simp at hj)
         have f4 := fun (u : World) (hu : Boxed u wr.heap.size [.int .i64 p, .int .i64 k1, .slice q1 n1 c1, .slice q2 n2 c2, .int .i64 k3, .slice q3 n3 c3, .slice q4 n4 c4]) => Boxed.part hu (o := 4) (ys := [.int .i64 k3, .slice q3 n3 c3, .slice q4 n4 c4]) (fun j' x hj => by
          match j', hj with
          | 0, hj => exact hj
          | 1, hj => exact hj
          | 2, hj => exact hj
          | j' + 3, hj => simp at hj)
         have f1 := Lib.hid f1
         have f4 := Lib.hid f4
         have z1 := sizeCont (.int .i64 k1) (.slice q1 n1 c1) (.slice q2 n2 c2)
         have z3 := sizeCont (.int .i64 k3) (.slice q3 n3 c3) (.slice q4 n4 c4)
         go_wp2_with (first
          | (with_reducible refine wpList_load_at rfl 62 (.tmp 95) rfl Tryz.underlying62 rfl hs rfl hcA.out ?_)
          | (with_reducible refine wpList_load_at rfl 30 (.tmp 5) rfl Tryz.underlying30 rfl hszc rfl (hbcr.out.below hde.out (Nat.le_refl _)).all ?_))
         clear hwe
         refine (redoes_any ⟨2, lsnc, txnc, prevc, nextc, some A, imc, icc, sqc, snc, scc, nextTxnc, tqc, tnc, tcc, dqc, dnc, dcc⟩ Vc R p we (honr.out.below hde.out (Nat.le_refl _))).mono ?_
         rintro e w13 ⟨k5, q5, n5, c5, q6, n6, c6, ok5, rfl, hor, hb13⟩
         rcases hor with ⟨hno, _⟩ | ⟨d', hd', rfl, hon13⟩
         · rw [hred.out] at hno; cases hno
         obtain rfl : d = d' := by have h1 := hred.out; rw [hd'] at h1; cases h1; rfl
         clear hd'
         obtain ⟨w14, hw14⟩ : ∃ y, w13.alloc (.cells #[.int .i64 k5, .slice q5 n5 c5, .slice q6 n6 c6] 55) = y := ⟨_, rfl⟩
         have hb14 := Lib.hid (one_box (xs := [.int .i64 k5, .slice q5 n5 c5, .slice q6 n6 c6]) hw14)
         have he14 := Lib.hid (below_step hb14.out.1 hb13)
         have hon14 := Lib.hid (ContOn.below hon13 hb14.out.1 (Nat.le_refl _))
         have d0' : w14.cell? ⟨wr.heap.size, 0, none⟩ = some (.int .i64 p) := (hbk.out.2.1.below he14.out (Nat.le_refl _)).cell 0 rfl
         have z5 := sizeCont (.int .i64 k5) (.slice q5 n5 c5) (.slice q6 n6 c6)
         clear hb13 hon13 d0
         go_wp2_with (first
          | (with_reducible refine wpList_load_at rfl 30 (.tmp 6) rfl Tryz.underlying30 rfl hszu rfl (hru.out.boxed.below (below_step he14.out hde.out) (Nat.le_refl _)).all ?_))
         clear hw14
         refine (redoes_any ⟨5, L1, txnc, lsnc, prevc, q, imc, c', none, 0, 0, 0, none, 0, 0, none, 0, 0⟩ (Vc.map befV) (undU R) p w14 (honu.out.below (below_step he14.out hde.out) (Nat.le_refl _))).mono ?_
         rintro e w15 ⟨k7, q7, n7, c7, q8, n8, c8, ok7, rfl, hor, hb15⟩
         rcases hor with ⟨hno, _⟩ | ⟨d', hd', rfl, hon15⟩
         · rw [hredu.out] at hno; cases hno
         obtain rfl : befD d = d' := by have h1 := hredu.out; rw [hd'] at h1; cases h1; rfl
         clear hd'
         obtain ⟨w16, hw16⟩ : ∃ y, w15.alloc (.cells #[.int .i64 k7, .slice q7 n7 c7, .slice q8 n8 c8] 55) = y := ⟨_, rfl⟩
         have hb16 := Lib.hid (one_box (xs := [.int .i64 k7, .slice q7 n7 c7, .slice q8 n8 c8]) hw16)
         have he16 := Lib.hid (below_step hb16.out.1 hb15)
         have hE16 := Lib.hid (below_step he16.out he14.out)
         have hon16 := Lib.hid (ContOn.below hon15 hb16.out.1 (Nat.le_refl _))
         have z7 := sizeCont (.int .i64 k7) (.slice q7 n7 c7) (.slice q8 n8 c8)
         have hond16 := Lib.hid (hond.out.below (below_step hE16.out hbk.out.1) (Nat.le_refl _))
         have bx16 := Lib.hid (hbk.out.2.1.below hE16.out (Nat.le_refl _))
         clear hb15 hon15 d0'
         have hsm1 := same_c k5 q5 n5 c5 q6 n6 c6 d.aft k3 q3 n3 c3 q4 n4 c4 d.aft w16 (hon14.out.below he16.out (Nat.le_refl _)) hond16.out.aft
         rw [sameC_iff.2 rfl] at hsm1
         replace hsm1 := Lib.hid hsm1
         go_wp2_with (first
          | ((with_reducible refine wpList_load_g ?_ 55 (.tmp 15) rfl Tryz.underlying55 rfl z5 rfl (hb14.out.2.1.below he16.out (Nat.le_refl _)).all ?_); exact rfl)
          | ((with_reducible refine wpList_load_g ?_ 55 (.tmp 119) rfl Tryz.underlying55 rfl z3 rfl (f4.out _ bx16.out) ?_); exact rfl))
         clear hw16
         refine hsm1.out.mono ?_
         clear hsm1
         rintro e w17 ⟨rfl, hb17⟩
         have hsm2 := same_c k7 q7 n7 c7 q8 n8 c8 (befD d).aft k1 q1 n1 c1 q2 n2 c2 d.bef w17 (hon16.out.below hb17 (Nat.le_refl _)) (ContOn.below hond16.out.bef hb17 (Nat.le_refl _))
         rw [show sameC (befD d).aft d.bef = true from sameC_iff.2 rfl] at hsm2
         replace hsm2 := Lib.hid hsm2
         have he17 := Lib.hid hb17
         clear hb17
         go_wp2_with (first
          | ((with_reducible refine wpList_load_g ?_ 55 (.tmp 17) rfl Tryz.underlying55 rfl z7 rfl (hb16.out.2.1.below he17.out (Nat.le_refl _)).all ?_); exact rfl)
          | ((with_reducible refine wpList_load_g ?_ 55 (.tmp 126) rfl Tryz.underlying55 rfl z1 rfl (f1.out _ (bx16.out.below he17.out (Nat.le_refl _))) ?_); exact rfl))
         refine hsm2.out.mono ?_
         clear hsm2
         rintro e w18 ⟨rfl, hb18⟩
         have hnew : Hid (Below wL.heap.size wL w18) := below_step hb18 (below_step he17.out (below_step hE16.out hde.out))
         clear hb18
         go_wp2_with fail
         go_roundw
         case rel => exact ⟨j + 1, by omega, by go_num, hnew⟩
         case measure => simp [RowKit.intOf]; omega
       · obtain rfl : imc = j := by omega
         have hun := undoable_any ⟨5, L1, txnc, lsnc, prevc, q, imc, c', none, 0, 0, 0, none, 0, 0, none, 0, 0⟩ (Vc.map befV) (undU R) wr (honu.out.below hst.out (Nat.le_refl _))
         rw [show (mayB (undU R) && ((undU R).kind == 2 || (undU R).kind == 4)) = false by rw [hmu.out]; rfl] at hun
         replace hun := Lib.hid hun
         go_wp2_with (first
          | (with_reducible refine wpList_load_at rfl 30 (.tmp 6) rfl Tryz.underlying30 rfl hszu rfl (hru.out.boxed.below hst.out (Nat.le_refl _)).all ?_))
         refine hun.out.mono ?_
         rintro e w19 ⟨rfl, hb19⟩
         have hdE := Lib.hid (hdr.out.trans ((below_step hb19 hst.out).mono hdr.out.size))
         clear hb19
         go_wp2_with fail
         go_ret
         exact ⟨rfl, hdE.out⟩
set_option maxRecDepth 1000000 in
theorem undone_lifted (os : Os) (started : os.Started) (H : Type) (enc : TypeId × Value → H) :
 ReturnsInHanded {} Tryz.checked os 8 .any (Rows.recordUndoneSpec.pre6 enc Tryz.prog Tryz.f8 Rows.recordUndoneRow.domain false) (Rows.recordUndoneSpec.post enc Tryz.prog Tryz.f8 false true false false) := by
 refine returnsInHanded_of_change (C := Tryz.checked) own started (by kernel_rfl) Tryz.func8
  (ChangeSpec.witness6 (enc := enc) (C := Tryz.checked) false ⟨#[], #[.agg #[.int .i64 0, .int .u64 0, .int .i64 0, .int .u64 0, .int .u64 0, .slice none 0 0, .slice none 0 0, .int .i64 0, .slice none 0 0, .slice none 0 0], .int .u64 0], []⟩ 8 (by kernel_rfl) (by kernel_rfl) (by kernel_rfl) (by kernel_rfl)) ?_
 intro W base args ds gs before hval0 hW _ _
 have hval : ∀ (j : Nat) t v, Tryz.f8.params[j]? = some t → args[j]? = some v → Value.okWide Tryz.prog W .any base t v := hval0
 have hW' := hW
 obtain ⟨p, q, hA0, hV, rfl, _, _⟩ := hW
 have hA : DataW.TrodAll enc Tryz.prog W 0 (fun _ => true) true Tryz.f8.params.toList args.toList ds p := hA0
 rw [Tryz.params8] at hA hval
 obtain ⟨v0, v1, d0, d1, p0, p1, rfl, rfl, rfl, h0, h1⟩ := trodAll_two hA
 obtain ⟨rfl, rfl⟩ := trodVars_none hV
 obtain ⟨x0, y0, z0, rfl, hc0⟩ := open_rec (hval 0 30 v0 rfl rfl) h0
 obtain ⟨w1, rfl⟩ := okWide_int Tryz.underlying24 (hval 1 24 v1 rfl rfl)
 refine (undone_law x0 y0 z0 w1 W hc0).mono fun e W' ⟨he, hb⟩ => ?_
 subst he
 exact ⟨_, rfl, law_post laidOut (of_decide_eq_true (by kernel_rfl)) rfl (by kernel_rfl) Tryz.underlying4 hW' ⟨rfl, rfl, rfl⟩ hb⟩
set_option maxRecDepth 1000000 in
theorem undone_holds : Rows.RecordUndoneSaid :=
 OpenClaim.holds_of_wide 8 Tryz.f8 rfl rfl rfl rfl rfl rfl rfl ⟨rfl, rfl, rfl, rfl, rfl⟩ rfl rfl rfl rfl rfl (by kernel_rfl) Tryz.func8 (by kernel_rfl)
  (of_decide_eq_true (by kernel_rfl)) (by unfold Func.isWrapper; first | (rw [if_pos (by decide +kernel)]; kernel_rfl) | (rw [if_neg (by decide +kernel)]; exact ⟨rfl, rfl⟩))
  (fun os started H enc _ => undone_lifted os started H enc)
end Go.Proofs.YtocekhckmpkbmaaGreat
