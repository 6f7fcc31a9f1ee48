/- RecordCosts: for every row of records the law returns true, and its argument reads as it did. No condition. -/
import Derived.Test.YtocekhckmpkbmaaGreatQ32
import Derived.Test.YtocekhckmpkbmaaGreatQ33
import Derived.Test.YtocekhckmpkbmaaGreatQ35
import Derived.Test.YtocekhckmpkbmaaGreatQ39
import Derived.Test.YtocekhckmpkbmaaGreatQ01
namespace Go.Proofs.YtocekhckmpkbmaaGreat
open Go.ChangeShapes Go.WideShapes Go.ChangeAt Go.RowKit Go.Deep Go.Joins
/-- a row of records, in a world -/
structure RecsOn (w : World) (q : Option Addr) (n c : Nat) (L : List RecP) : Prop where
 len : L.length = n
 le : n ≤ c
 cap : c ≤ maxLen
 get : ∀ i y, L[i]? = some y → y.v.On w y.V y.r ∧ ∃ a, q = some a ∧ ∀ j x, y.v.cells[j]? = some x → w.cell? ((a.add (i * 10)).add j) = some x
theorem RecsOn.below {B : Nat} {w w' : World} {q : Option Addr} {n c : Nat} {L : List RecP} (h : RecsOn w q n c L) (hb : Below B w w') (hB : w.heap.size ≤ B) : RecsOn w' q n c L :=
 ⟨h.len, h.le, h.cap, fun i y hi => by
  obtain ⟨h1, a, ha, h2⟩ := h.get i y hi
  exact ⟨h1.below hb hB, a, ha, fun j x hj => cell_kept hb hB (h2 j x hj)⟩⟩
theorem RecsOn.at {w : World} {q : Option Addr} {n c : Nat} {L : List RecP} (h : RecsOn w q n c L) {i : Nat} (hi : i < n) :
 ∃ a y, q = some a ∧ L[i]? = some y ∧ y.v.On w y.V y.r ∧ ∀ j x, y.v.cells[j]? = some x → w.cell? ((a.add (i * 10)).add j) = some x := by
 have hx : L[i]? = some (L[i]'(by have := h.len; omega)) := List.getElem?_eq_getElem (by have := h.len; omega); obtain ⟨h1, a, ha, h2⟩ := h.get i _ hx; exact ⟨a, _, ha, hx, h1, h2⟩
theorem open_recs {H : Type} {enc : TypeId × Value → H} {W : World} {a0 : Option Addr} {len cap : Nat} {d : DataW H} {p : List MemPlace} (h : DataW.Trod enc Tryz.prog W 0 (fun _ => true) true 22 (.slice a0 len cap) d p) : ∃ L, RecsOn W a0 len cap L := by
 obtain ⟨fuel, hf⟩ := h
 rcases open_slice Tryz.underlying22 hf with ⟨hc, _⟩ | ⟨a, len', cap', m, n, D, Pl, hcs, _, hl, hm, hmm, _, hi⟩
 · simp [Value.cells] at hc
   obtain ⟨rfl, rfl, rfl⟩ := hc; exact ⟨[], rfl, Nat.le_refl _, Nat.zero_le _, fun i y h => by simp at h⟩
 · simp [Value.cells] at hcs
   obtain ⟨rfl, rfl, rfl⟩ := hcs; rw [cellsRec] at hi
   obtain ⟨l, h1, h2⟩ := elems_of (n := len) (cells := fun y : RecP => y.v.cells) (ok := fun y : RecP => y.v.On W y.V y.r) cellsRec (fun fuel cs x h => rec_cells h) (fun i hin => by
    obtain ⟨cs, hc, ht⟩ := hi i (by rw [hmm]; split <;> omega)
    exact ⟨n, cs, _, hc, ht⟩)
   exact ⟨l, h1, hl, hm, fun i y hy => ⟨(h2 i y hy).1, a, rfl, (h2 i y hy).2⟩⟩
set_option maxRecDepth 100000 in
set_option maxHeartbeats 16000000 in
theorem costs_law (q : Option Addr) (n c : Nat) (L : List RecP) (w : World) (h : RecsOn w q n c L) :
 Calls Tryz.prog 5 #[.slice q n c] w (fun e w' => e = .returned (.bool true) ∧ Below w.heap.size w w') := by
 have hh := lh h; have hmax : n ≤ maxLen := Nat.le_trans h.le h.cap; unfold maxLen at hmax; clear h
 go_enter Tryz.func5, Tryz.ntmps5
 go_wp2_with fail
 refine (wakes_any _).mono ?_; rintro e w1 ⟨rfl, hb1⟩; have h0 : Hid (Below w.heap.size w w1) := hb1; clear hb1
 go_wp2_with fail
 go_loopw [14] (fun v wr => ∃ j : Nat, j ≤ n ∧ j ≤ 8 ∧ v = .int .i64 j ∧ Hid (Below w.heap.size w wr)) (fun v _ => n - (RowKit.intOf v).toNat)
 case atStart => exact ⟨0, Nat.zero_le _, Nat.zero_le _, rfl, h0⟩
 case round =>
  obtain ⟨j, hj, hj8, rfl, hst⟩ := hrel; clear h0
  by_cases hlt : j < n
  · obtain ⟨A, ⟨⟨kinda, lsna, txna, preva, nexta, iqa, ima, ica, sqa, sna, sca, nextTxna, tqa, tna, tca, dqa, dna, dca⟩, Va, ra⟩, hqA, _, hona0, hcA⟩ := (hh.out.below hst.out (Nat.le_refl _)).at hlt
    subst hqA; have hcA : Hid (∀ j' x, ([.int .i64 kinda, .int .u64 lsna, .int .i64 txna, .int .u64 preva, .int .u64 nexta, .slice iqa ima ica, .slice sqa sna sca, .int .i64 nextTxna, .slice tqa tna tca, .slice dqa dna dca] : List Value)[j']? = some x → wr.cell? ((A.add (j * 10)).add j') = some x) := hcA; have hona : Hid (RecV.On ⟨kinda, lsna, txna, preva, nexta, iqa, ima, ica, sqa, sna, sca, nextTxna, tqa, tna, tca, dqa, dna, dca⟩ wr Va ra) := hona0; have hsza : (Tryz.prog.info? 30).map (·.size) = some ([.int .i64 kinda, .int .u64 lsna, .int .i64 txna, .int .u64 preva, .int .u64 nexta, .slice iqa ima ica, .slice sqa sna sca, .int .i64 nextTxna, .slice tqa tna tca, .slice dqa dna dca] : List Value).length := sizeRec ⟨kinda, lsna, txna, preva, nexta, iqa, ima, ica, sqa, sna, sca, nextTxna, tqa, tna, tca, dqa, dna, dca⟩; have i0 : (0 : Int) ≤ j := by omega
    have i1 : (j : Int) < n := by omega
    have i2 : (j : Int) < 9 := by omega
    clear hona0; obtain ⟨we, hwe⟩ : ∃ x, wr.alloc (.cells #[.int .i64 kinda, .int .u64 lsna, .int .i64 txna, .int .u64 preva, .int .u64 nexta, .slice iqa ima ica, .slice sqa sna sca, .int .i64 nextTxna, .slice tqa tna tca, .slice dqa dna dca] 30) = x := ⟨_, rfl⟩; have hbk := lh (one_box (xs := [.int .i64 kinda, .int .u64 lsna, .int .i64 txna, .int .u64 preva, .int .u64 nexta, .slice iqa ima ica, .slice sqa sna sca, .int .i64 nextTxna, .slice tqa tna tca, .slice dqa dna dca]) hwe); have hd1 := lh (hst.out.trans (hbk.out.1.mono hst.out.size))
    by_cases h8 : j = 8
    · subst h8
      go_wp2_with (first
       | (with_reducible refine wpList_load_at rfl 30 (.tmp 17) rfl Tryz.underlying30 rfl hsza rfl hcA.out ?_))
      go_ret; exact ⟨rfl, hd1.out⟩
    have n8 : ((j : Int) == 8) = false := by simpa using (show ¬ (j : Int) = 8 by omega)
    have n8' : decide ((j : Int) = 8) = false := decide_eq_false (show ¬ (j : Int) = 8 by omega)
    go_wp2_with (first
     | (with_reducible refine wpList_load_at rfl 30 (.tmp 17) rfl Tryz.underlying30 rfl hsza rfl hcA.out ?_)
     | (with_reducible refine wpList_load_at rfl 30 (.tmp 4) rfl Tryz.underlying30 rfl hsza rfl hbk.out.2.1.all ?_))
    clear hwe; refine (few_any ⟨kinda, lsna, txna, preva, nexta, iqa, ima, ica, sqa, sna, sca, nextTxna, tqa, tna, tca, dqa, dna, dca⟩ Va ra we (hona.out.below hbk.out.1 (Nat.le_refl _))).mono ?_; rintro e w3 ⟨⟨kindc, lsnc, txnc, prevc, nextc, iqc, imc, icc, sqc, snc, scc, nextTxnc, tqc, tnc, tcc, dqc, dnc, dcc⟩, Vc, rfl, hon3, _, _, hb3⟩; obtain ⟨R, hR⟩ : ∃ R, fewRec ra = R := ⟨_, rfl⟩; rw [hR] at hon3; have hd3 := lh (hd1.out.trans (hb3.mono hd1.out.size)); obtain ⟨w4, hw4⟩ : ∃ y, w3.alloc (.cells #[.int .i64 kindc, .int .u64 lsnc, .int .i64 txnc, .int .u64 prevc, .int .u64 nextc, .slice iqc imc icc, .slice sqc snc scc, .int .i64 nextTxnc, .slice tqc tnc tcc, .slice dqc dnc dcc] 30) = y := ⟨_, rfl⟩; have hbc := lh (one_box (xs := [.int .i64 kindc, .int .u64 lsnc, .int .i64 txnc, .int .u64 prevc, .int .u64 nextc, .slice iqc imc icc, .slice sqc snc scc, .int .i64 nextTxnc, .slice tqc tnc tcc, .slice dqc dnc dcc]) hw4)
    have hd4 := lh (hd3.out.trans (hbc.out.1.mono hd3.out.size)); have hon := lh (hon3 w4 (fun k _ h2 => hbc.out.1.block k h2)); have hszc : (Tryz.prog.info? 30).map (·.size) = some ([.int .i64 kindc, .int .u64 lsnc, .int .i64 txnc, .int .u64 prevc, .int .u64 nextc, .slice iqc imc icc, .slice sqc snc scc, .int .i64 nextTxnc, .slice tqc tnc tcc, .slice dqc dnc dcc] : List Value).length := sizeRec ⟨kindc, lsnc, txnc, prevc, nextc, iqc, imc, icc, sqc, snc, scc, nextTxnc, tqc, tnc, tcc, dqc, dnc, dcc⟩; have hkc : Hid (kindc = R.kind) := hon.out.kind; clear hb3 hR hon3 hcA hona hbk
    go_wp2_with (first
     | (with_reducible refine wpList_load_at rfl 30 (.tmp 5) rfl Tryz.underlying30 rfl hszc rfl hbc.out.2.1.all ?_))
    clear hw4; refine (cost_any ⟨kindc, lsnc, txnc, prevc, nextc, iqc, imc, icc, sqc, snc, scc, nextTxnc, tqc, tnc, tcc, dqc, dnc, dcc⟩ Vc R w4 hon.out).mono ?_; rintro e w5 ⟨n5, er5, rfl, hor5, hb5⟩; have hor5 := lh hor5; have hb5 := lh hb5; have hx5 := lh (hbc.out.2.1.below hb5.out (Nat.le_refl _))
    go_wp2_with (first
     | (with_reducible refine wpList_load_at rfl 30 (.tmp 5) rfl Tryz.underlying30 rfl hszc rfl hx5.out.all ?_))
    refine (reserve_any ⟨kindc, lsnc, txnc, prevc, nextc, iqc, imc, icc, sqc, snc, scc, nextTxnc, tqc, tnc, tcc, dqc, dnc, dcc⟩ Vc R w5 (hon.out.below hb5.out (Nat.le_refl _))).mono ?_; rintro e w6 ⟨n6, er6, rfl, hor6, hb6⟩; have hor6 := lh hor6; have hb6 := lh (below_step hb6 hb5.out); have hx6 := lh (hbc.out.2.1.below hb6.out (Nat.le_refl _))
    go_wp2_with (first
     | (with_reducible refine wpList_load_at rfl 30 (.tmp 5) rfl Tryz.underlying30 rfl hszc rfl hx6.out.all ?_))
    refine (right12_doc ⟨kindc, lsnc, txnc, prevc, nextc, iqc, imc, icc, sqc, snc, scc, nextTxnc, tqc, tnc, tcc, dqc, dnc, dcc⟩ Vc R w6 (hon.out.below hb6.out (Nat.le_refl _))).mono ?_; rintro e w7 ⟨rfl, hb7⟩; have hb7 := lh (below_step hb7 hb6.out); have hx7 := lh (hbc.out.2.1.below hb7.out (Nat.le_refl _)); have hon7 := lh (hon.out.below hb7.out (Nat.le_refl _)); have hd7 := lh (hd4.out.trans (hb7.out.mono hd4.out.size)); obtain ⟨B, hB⟩ : ∃ B, mayB R = B := ⟨_, rfl⟩; have hor5 := hor5.out; have hor6 := hor6.out; have hu := undoable_any ⟨kindc, lsnc, txnc, prevc, nextc, iqc, imc, icc, sqc, snc, scc, nextTxnc, tqc, tnc, tcc, dqc, dnc, dcc⟩ Vc R w7 hon7.out; rw [hB] at hor5 hor6 hu; rw [hB]; clear hb5 hb6 hx5 hx6 hbc hd1 hd3 hd4
    cases B with
    | false =>
      obtain ⟨rfl, rfl⟩ : er5 = 220 ∧ n5 = 0 := by
       rcases hor5 with ⟨_, hb, _⟩ | ⟨h1, _, h2⟩
       · cases hb
       · exact ⟨h1, h2⟩
      obtain ⟨rfl, rfl⟩ : er6 = 220 ∧ n6 = 0 := by
       rcases hor6 with ⟨_, hb, _⟩ | ⟨h1, _, h2⟩
       · cases hb
       · exact ⟨h1, h2⟩
      replace hu := lh hu; clear hor5 hor6
      go_wp2_with (first
       | ((with_reducible refine wpList_load_g ?_ 30 (.tmp 5) rfl Tryz.underlying30 rfl hszc rfl hx7.out.all ?_); exact rfl)
       | (with_reducible refine wpList_load_at rfl 30 (.tmp 5) rfl Tryz.underlying30 rfl hszc rfl hx7.out.all ?_))
      refine hu.out.mono ?_; rintro e w8 ⟨rfl, hb8⟩; have hdE := lh (hd7.out.trans (hb8.mono hd7.out.size)); clear hb8 hu
      go_wp2_with fail
      go_roundw
      case rel => exact ⟨j + 1, by omega, by omega, by go_num, hdE⟩
      case measure => simp [RowKit.intOf]; omega
    | true =>
      obtain ⟨rfl, h5⟩ : er5 = 0 ∧ n5 = (secs (encRec R).length : Int) := by
       rcases hor5 with ⟨h1, _, h2⟩ | ⟨_, hb, _⟩
       · exact ⟨h1, h2⟩
       · cases hb
      obtain ⟨rfl, h6⟩ : er6 = 0 ∧ n6 = resN R := by
       rcases hor6 with ⟨h1, _, h2⟩ | ⟨_, hb, _⟩
       · exact ⟨h1, h2⟩
       · cases hb
      have hS : ∀ u, Below w7.heap.size w7 u → RecV.On ⟨kindc, lsnc, txnc, prevc, nextc, iqc, imc, icc, sqc, snc, scc, nextTxnc, tqc, tnc, tcc, dqc, dnc, dcc⟩ u Vc R := fun u hu => hon7.out.below hu (Nat.le_refl _)
      have hcd : Hid (∀ u, Below w7.heap.size w7 u → Calls Tryz.prog 24 #[.agg #[.int .i64 kindc, .int .u64 lsnc, .int .i64 txnc, .int .u64 prevc, .int .u64 nextc, .slice iqc imc icc, .slice sqc snc scc, .int .i64 nextTxnc, .slice tqc tnc tcc, .slice dqc dnc dcc]] u (fun e w' => e = .returned (.int .i64 n5) ∧ Below w7.heap.size w7 w')) := fun u hu => by
       refine (cost_doc ⟨kindc, lsnc, txnc, prevc, nextc, iqc, imc, icc, sqc, snc, scc, nextTxnc, tqc, tnc, tcc, dqc, dnc, dcc⟩ Vc R u (hS u hu) (lay_of hB)).mono ?_; rintro e w' ⟨rfl, hb⟩; exact ⟨by rw [h5], below_step hb hu⟩
      have hrd : Hid (∀ u, Below w7.heap.size w7 u → Calls Tryz.prog 25 #[.agg #[.int .i64 kindc, .int .u64 lsnc, .int .i64 txnc, .int .u64 prevc, .int .u64 nextc, .slice iqc imc icc, .slice sqc snc scc, .int .i64 nextTxnc, .slice tqc tnc tcc, .slice dqc dnc dcc]] u (fun e w' => e = .returned (.int .i64 n6) ∧ Below w7.heap.size w7 w')) := fun u hu => by
       refine (reserve_doc ⟨kindc, lsnc, txnc, prevc, nextc, iqc, imc, icc, sqc, snc, scc, nextTxnc, tqc, tnc, tcc, dqc, dnc, dcc⟩ Vc R u (hS u hu) hB).mono ?_; rintro e w' ⟨rfl, hb⟩; exact ⟨by rw [h6], below_step hb hu⟩
      have hud : Hid (∀ u, Below w7.heap.size w7 u → Calls Tryz.prog 23 #[.agg #[.int .i64 kindc, .int .u64 lsnc, .int .i64 txnc, .int .u64 prevc, .int .u64 nextc, .slice iqc imc icc, .slice sqc snc scc, .int .i64 nextTxnc, .slice tqc tnc tcc, .slice dqc dnc dcc]] u (fun e w' => e = .returned (.bool (kindc == 2 || kindc == 4)) ∧ Below w7.heap.size w7 w')) := fun u hu => by
       refine (undoable_any ⟨kindc, lsnc, txnc, prevc, nextc, iqc, imc, icc, sqc, snc, scc, nextTxnc, tqc, tnc, tcc, dqc, dnc, dcc⟩ Vc R u (hS u hu)).mono ?_; rintro e w' ⟨rfl, hb⟩; exact ⟨by rw [hB, hkc.out, Bool.true_and], below_step hb hu⟩
      have hS0 : Below w7.heap.size w7 w7.drew := below_drew w7; clear hor5 hor6 hu hS h5 h6 hB; have hr7 : Hid (∀ u, Below w7.heap.size w7 u → Boxed u w3.heap.size [.int .i64 kindc, .int .u64 lsnc, .int .i64 txnc, .int .u64 prevc, .int .u64 nextc, .slice iqc imc icc, .slice sqc snc scc, .int .i64 nextTxnc, .slice tqc tnc tcc, .slice dqc dnc dcc]) := fun u hu => hx7.out.below hu (Nat.le_refl _)
      obtain ⟨k2, hk2⟩ : ∃ b, (kindc == 2) = b := ⟨_, rfl⟩; obtain ⟨k4, hk4⟩ : ∃ b, (kindc == 4) = b := ⟨_, rfl⟩; rw [hk2, hk4] at hud
      go_wp2_with fail
      refine wp_region_held (S := fun u => Below w7.heap.size w7 u) (by kernel_rfl) ?_; change wpAnyH _ _ _ _ _ _ _ _ (World.drew w7); refine wpF.held _ _ _ ?_ _ hS0
      cases k2 with
      | true =>
        refine fg 0 54 (.int .i64 0) ?_; go_frame; refine fg 1 55 (.bool false) ?_; go_frame; refine fg 2 56 (.bool false) ?_; go_frame; refine fg 3 57 (.int .i64 0) ?_; go_frame; refine fg 4 58 (.bool false) ?_; go_frame; refine fg 5 59 (.bool false) ?_; go_frame; refine fg 6 60 (.bool false) ?_; go_frame; refine fg 7 61 (.int .i64 n5) ?_; go_frame; refine fh 8 62 (.agg #[.int .i64 kindc, .int .u64 lsnc, .int .i64 txnc, .int .u64 prevc, .int .u64 nextc, .slice iqc imc icc, .slice sqc snc scc, .int .i64 nextTxnc, .slice tqc tnc tcc, .slice dqc dnc dcc]) rfl (fx_load 30 (.tmp 5) (fun u hu => run_loadVar_at Tryz.underlying30 rfl hszc _ (hr7.out u hu).all)) ?_; go_frame; refine fh 9 63 (.int .i64 n5) rfl (fx_call hcd.out) ?_; go_frame; refine fg 10 64 (.bool false) ?_; go_frame; refine fg 11 65 (.bool false) ?_; go_frame; refine fg 12 66 (.bool false) ?_; go_frame; refine fg 13 67 (.int .i64 n6) ?_; go_frame
        refine fh 14 68 (.agg #[.int .i64 kindc, .int .u64 lsnc, .int .i64 txnc, .int .u64 prevc, .int .u64 nextc, .slice iqc imc icc, .slice sqc snc scc, .int .i64 nextTxnc, .slice tqc tnc tcc, .slice dqc dnc dcc]) rfl (fx_load 30 (.tmp 5) (fun u hu => run_loadVar_at Tryz.underlying30 rfl hszc _ (hr7.out u hu).all)) ?_; go_frame; refine fh 15 69 (.int .i64 n6) rfl (fx_call hrd.out) ?_; go_frame; refine fg 16 70 (.bool false) ?_; go_frame; refine fg 17 71 (.bool false) ?_; go_frame; refine fg 18 72 (.bool false) ?_; go_frame; refine fh 19 73 (.agg #[.int .i64 kindc, .int .u64 lsnc, .int .i64 txnc, .int .u64 prevc, .int .u64 nextc, .slice iqc imc icc, .slice sqc snc scc, .int .i64 nextTxnc, .slice tqc tnc tcc, .slice dqc dnc dcc]) rfl (fx_load 30 (.tmp 5) (fun u hu => run_loadVar_at Tryz.underlying30 rfl hszc _ (hr7.out u hu).all)) ?_; go_frame; refine fh 20 74 (.bool true) rfl (fx_call hud.out) ?_; go_frame
        refine fg 21 75 (.pointer (some ⟨w3.heap.size, 0, none⟩)) ?_; go_frame; refine fh 22 76 (.int .i64 kindc) rfl (fx_read (fun u hu => by have c0 := (hr7.out u hu).cell 0 rfl; go_simp)) ?_; go_frame; refine fg 23 77 (.bool true) ?_; go_frame; refine fg 24 78 (.bool true) ?_; go_frame; refine fu 25 79 ?_; go_frame; refine fu 26 80 ?_; go_frame; refine fu 27 81 ?_; go_frame; refine fg 28 82 (.bool true) ?_; go_frame; refine fg 29 83 (.bool false) ?_; go_frame; refine fg 30 84 (.bool false) ?_; go_frame; refine fx_done ?_ (by kernel_rfl) _; intro u hu; have hdE := lh (hd7.out.trans (hu.mono hd7.out.size))
        go_wp2_with fail
        go_roundw
        case rel => exact ⟨j + 1, by omega, by omega, by go_num, hdE⟩
        case measure => simp [RowKit.intOf]; omega
      | false =>
        cases k4 with
        | true =>
          refine fg 0 54 (.int .i64 0) ?_; go_frame; refine fg 1 55 (.bool false) ?_; go_frame; refine fg 2 56 (.bool false) ?_; go_frame; refine fg 3 57 (.int .i64 0) ?_; go_frame; refine fg 4 58 (.bool false) ?_; go_frame; refine fg 5 59 (.bool false) ?_; go_frame; refine fg 6 60 (.bool false) ?_; go_frame; refine fg 7 61 (.int .i64 n5) ?_; go_frame; refine fh 8 62 (.agg #[.int .i64 kindc, .int .u64 lsnc, .int .i64 txnc, .int .u64 prevc, .int .u64 nextc, .slice iqc imc icc, .slice sqc snc scc, .int .i64 nextTxnc, .slice tqc tnc tcc, .slice dqc dnc dcc]) rfl (fx_load 30 (.tmp 5) (fun u hu => run_loadVar_at Tryz.underlying30 rfl hszc _ (hr7.out u hu).all)) ?_; go_frame; refine fh 9 63 (.int .i64 n5) rfl (fx_call hcd.out) ?_; go_frame; refine fg 10 64 (.bool false) ?_; go_frame; refine fg 11 65 (.bool false) ?_; go_frame; refine fg 12 66 (.bool false) ?_; go_frame; refine fg 13 67 (.int .i64 n6) ?_; go_frame
          refine fh 14 68 (.agg #[.int .i64 kindc, .int .u64 lsnc, .int .i64 txnc, .int .u64 prevc, .int .u64 nextc, .slice iqc imc icc, .slice sqc snc scc, .int .i64 nextTxnc, .slice tqc tnc tcc, .slice dqc dnc dcc]) rfl (fx_load 30 (.tmp 5) (fun u hu => run_loadVar_at Tryz.underlying30 rfl hszc _ (hr7.out u hu).all)) ?_; go_frame; refine fh 15 69 (.int .i64 n6) rfl (fx_call hrd.out) ?_; go_frame; refine fg 16 70 (.bool false) ?_; go_frame; refine fg 17 71 (.bool false) ?_; go_frame; refine fg 18 72 (.bool false) ?_; go_frame; refine fh 19 73 (.agg #[.int .i64 kindc, .int .u64 lsnc, .int .i64 txnc, .int .u64 prevc, .int .u64 nextc, .slice iqc imc icc, .slice sqc snc scc, .int .i64 nextTxnc, .slice tqc tnc tcc, .slice dqc dnc dcc]) rfl (fx_load 30 (.tmp 5) (fun u hu => run_loadVar_at Tryz.underlying30 rfl hszc _ (hr7.out u hu).all)) ?_; go_frame; refine fh 20 74 (.bool true) rfl (fx_call hud.out) ?_; go_frame
          refine fg 21 75 (.pointer (some ⟨w3.heap.size, 0, none⟩)) ?_; go_frame; refine fh 22 76 (.int .i64 kindc) rfl (fx_read (fun u hu => by have c0 := (hr7.out u hu).cell 0 rfl; go_simp)) ?_; go_frame; refine fg 23 77 (.bool false) ?_; go_frame; refine fg 24 78 (.bool false) ?_; go_frame; refine fg 25 79 (.pointer (some ⟨w3.heap.size, 0, none⟩)) ?_; go_frame; refine fh 26 80 (.int .i64 kindc) rfl (fx_read (fun u hu => by have c0 := (hr7.out u hu).cell 0 rfl; go_simp)) ?_; go_frame; refine fg 27 81 (.bool true) ?_; go_frame; refine fg 28 82 (.bool true) ?_; go_frame; refine fg 29 83 (.bool false) ?_; go_frame; refine fg 30 84 (.bool false) ?_; go_frame; refine fx_done ?_ (by kernel_rfl) _; intro u hu; have hdE := lh (hd7.out.trans (hu.mono hd7.out.size))
          go_wp2_with fail
          go_roundw
          case rel => exact ⟨j + 1, by omega, by omega, by go_num, hdE⟩
          case measure => simp [RowKit.intOf]; omega
        | false =>
          refine fg 0 54 (.int .i64 0) ?_; go_frame; refine fg 1 55 (.bool false) ?_; go_frame; refine fg 2 56 (.bool false) ?_; go_frame; refine fg 3 57 (.int .i64 0) ?_; go_frame; refine fg 4 58 (.bool false) ?_; go_frame; refine fg 5 59 (.bool false) ?_; go_frame; refine fg 6 60 (.bool false) ?_; go_frame; refine fg 7 61 (.int .i64 n5) ?_; go_frame; refine fh 8 62 (.agg #[.int .i64 kindc, .int .u64 lsnc, .int .i64 txnc, .int .u64 prevc, .int .u64 nextc, .slice iqc imc icc, .slice sqc snc scc, .int .i64 nextTxnc, .slice tqc tnc tcc, .slice dqc dnc dcc]) rfl (fx_load 30 (.tmp 5) (fun u hu => run_loadVar_at Tryz.underlying30 rfl hszc _ (hr7.out u hu).all)) ?_; go_frame; refine fh 9 63 (.int .i64 n5) rfl (fx_call hcd.out) ?_; go_frame; refine fg 10 64 (.bool false) ?_; go_frame; refine fg 11 65 (.bool false) ?_; go_frame; refine fg 12 66 (.bool false) ?_; go_frame; refine fg 13 67 (.int .i64 n6) ?_; go_frame
          refine fh 14 68 (.agg #[.int .i64 kindc, .int .u64 lsnc, .int .i64 txnc, .int .u64 prevc, .int .u64 nextc, .slice iqc imc icc, .slice sqc snc scc, .int .i64 nextTxnc, .slice tqc tnc tcc, .slice dqc dnc dcc]) rfl (fx_load 30 (.tmp 5) (fun u hu => run_loadVar_at Tryz.underlying30 rfl hszc _ (hr7.out u hu).all)) ?_; go_frame; refine fh 15 69 (.int .i64 n6) rfl (fx_call hrd.out) ?_; go_frame; refine fg 16 70 (.bool false) ?_; go_frame; refine fg 17 71 (.bool false) ?_; go_frame; refine fg 18 72 (.bool false) ?_; go_frame; refine fh 19 73 (.agg #[.int .i64 kindc, .int .u64 lsnc, .int .i64 txnc, .int .u64 prevc, .int .u64 nextc, .slice iqc imc icc, .slice sqc snc scc, .int .i64 nextTxnc, .slice tqc tnc tcc, .slice dqc dnc dcc]) rfl (fx_load 30 (.tmp 5) (fun u hu => run_loadVar_at Tryz.underlying30 rfl hszc _ (hr7.out u hu).all)) ?_; go_frame; refine fh 20 74 (.bool false) rfl (fx_call hud.out) ?_; go_frame
          refine fg 21 75 (.pointer (some ⟨w3.heap.size, 0, none⟩)) ?_; go_frame; refine fh 22 76 (.int .i64 kindc) rfl (fx_read (fun u hu => by have c0 := (hr7.out u hu).cell 0 rfl; go_simp)) ?_; go_frame; refine fg 23 77 (.bool false) ?_; go_frame; refine fg 24 78 (.bool false) ?_; go_frame; refine fg 25 79 (.pointer (some ⟨w3.heap.size, 0, none⟩)) ?_; go_frame; refine fh 26 80 (.int .i64 kindc) rfl (fx_read (fun u hu => by have c0 := (hr7.out u hu).cell 0 rfl; go_simp)) ?_; go_frame; refine fg 27 81 (.bool false) ?_; go_frame; refine fg 28 82 (.bool false) ?_; go_frame; refine fg 29 83 (.bool false) ?_; go_frame; refine fg 30 84 (.bool false) ?_; go_frame; refine fx_done ?_ (by kernel_rfl) _; intro u hu; have hdE := lh (hd7.out.trans (hu.mono hd7.out.size))
          go_wp2_with fail
          go_roundw
          case rel => exact ⟨j + 1, by omega, by omega, by go_num, hdE⟩
          case measure => simp [RowKit.intOf]; omega
  · obtain rfl : n = j := by omega
    go_wp2_with fail
    go_ret; exact ⟨rfl, hst.out⟩
set_option maxRecDepth 1000000 in
theorem costs_lifted (os : Os) (started : os.Started) (H : Type) (enc : TypeId × Value → H) :
 ReturnsInHanded {} Tryz.checked os 5 .any (Rows.recordCostsSpec.pre6 enc Tryz.prog Tryz.f5 Rows.recordCostsRow.domain false) (Rows.recordCostsSpec.post enc Tryz.prog Tryz.f5 false true false false) := by
 refine returnsInHanded_of_change (C := Tryz.checked) own started (by kernel_rfl) Tryz.func5
  (ChangeSpec.witness6 (enc := enc) (C := Tryz.checked) false ⟨#[], #[.slice none 0 0], []⟩ 8 (by kernel_rfl) (by kernel_rfl) (by kernel_rfl) (by kernel_rfl)) ?_
 intro W base args ds gs before hval0 hW _ _; have hval : ∀ (j : Nat) t v, Tryz.f5.params[j]? = some t → args[j]? = some v → Value.okWide Tryz.prog W .any base t v := hval0; have hW' := hW; obtain ⟨p, q, hA0, hV, rfl, _, _⟩ := hW; have hA : DataW.TrodAll enc Tryz.prog W 0 (fun _ => true) true Tryz.f5.params.toList args.toList ds p := hA0; rw [Tryz.params5] at hA hval; obtain ⟨v0, d0, rfl, rfl, h0⟩ := trodAll_one hA; obtain ⟨rfl, rfl⟩ := trodVars_none hV; obtain ⟨a0, len0, cap0, rfl⟩ := okWide_slice Tryz.underlying22 (hval 0 22 v0 rfl rfl); obtain ⟨L0, hl0⟩ := open_recs h0; refine (costs_law a0 len0 cap0 L0 W hl0).mono fun e W' ⟨he, hb⟩ => ?_
 subst he; exact ⟨_, rfl, law_post laidOut (of_decide_eq_true (by kernel_rfl)) rfl (by kernel_rfl) Tryz.underlying4 hW' ⟨rfl, rfl, rfl⟩ hb⟩
set_option maxRecDepth 1000000 in
theorem costs_holds : Rows.RecordCostsSaid :=
 OpenClaim.holds_of_wide 5 Tryz.f5 rfl rfl rfl rfl rfl rfl rfl ⟨rfl, rfl, rfl, rfl, rfl⟩ rfl rfl rfl rfl rfl (by kernel_rfl) Tryz.func5 (by kernel_rfl)
  (of_decide_eq_true (by kernel_rfl)) (by unfold Func.isWrapper; first | (rw [if_pos (by decide +kernel)]; kernel_rfl) | (rw [if_neg (by decide +kernel)]; exact ⟨rfl, rfl⟩))
  (fun os started H enc _ => costs_lifted os started H enc)
end Go.Proofs.YtocekhckmpkbmaaGreat
