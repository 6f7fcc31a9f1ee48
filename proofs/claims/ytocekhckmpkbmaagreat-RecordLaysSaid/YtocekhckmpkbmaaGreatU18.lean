/- Which records may be: mayBe. -/
import Derived.Test.YtocekhckmpkbmaaGreatU12
import Derived.Test.YtocekhckmpkbmaaGreatU10
import Derived.Test.YtocekhckmpkbmaaGreatU01
namespace Go.Proofs.YtocekhckmpkbmaaGreat
open Go.RowKit
noncomputable def pB (p : Prop) : Bool := @decide p (Classical.propDecidable p)
theorem pB_iff (p : Prop) : pB p = true ↔ p := by unfold pB; simp
noncomputable def imgsB (L : List ImgD) : Bool := pB (ImagesOk L)
noncomputable def sidesB (L : List ImgD) : Bool := pB (∀ d ∈ L, d.bef = zeroC)
noncomputable def kindB (r : RecD) : Bool :=
 if r.kind = 1 then (numB r.txn && (r.prev == 0))
 else if r.kind = 2 then (chainB r && (decide (1 ≤ (r.images.length : Int)) && imgsB r.images))
 else if r.kind = 3 then (chainB r && decide (r.next < r.prev))
 else if r.kind = 4 then (chainB r && (decide (r.next < r.prev) && stpsB r.steps))
 else if r.kind = 5 then (chainB r && (decide (r.next < r.lsn) && (imgsB r.images && sidesB r.images)))
 else if r.kind = 6 then chainB r
 else if r.kind = 7 then chainB r
 else if r.kind = 8 then chainB r
 else if r.kind = 9 then ((r.txn == 0) && ((r.prev == 0) && (numB r.nextTxn && (txnsB r && dirtyB r))))
 else false
theorem kindB1 {r : RecD} (h : r.kind = 1) : kindB r = (numB r.txn && (r.prev == 0)) := by unfold kindB; rw [h]; rfl
theorem kindB2 {r : RecD} (h : r.kind = 2) : kindB r = (chainB r && (decide (1 ≤ (r.images.length : Int)) && imgsB r.images)) := by unfold kindB; rw [h]; rfl
theorem kindB3 {r : RecD} (h : r.kind = 3) : kindB r = (chainB r && decide (r.next < r.prev)) := by unfold kindB; rw [h]; rfl
theorem kindB4 {r : RecD} (h : r.kind = 4) : kindB r = (chainB r && (decide (r.next < r.prev) && stpsB r.steps)) := by unfold kindB; rw [h]; rfl
theorem kindB5 {r : RecD} (h : r.kind = 5) : kindB r = (chainB r && (decide (r.next < r.lsn) && (imgsB r.images && sidesB r.images))) := by unfold kindB; rw [h]; rfl
theorem kindB6 {r : RecD} (h : r.kind = 6) : kindB r = chainB r := by unfold kindB; rw [h]; rfl
theorem kindB7 {r : RecD} (h : r.kind = 7) : kindB r = chainB r := by unfold kindB; rw [h]; rfl
theorem kindB8 {r : RecD} (h : r.kind = 8) : kindB r = chainB r := by unfold kindB; rw [h]; rfl
theorem kindB9 {r : RecD} (h : r.kind = 9) : kindB r = ((r.txn == 0) && ((r.prev == 0) && (numB r.nextTxn && (txnsB r && dirtyB r)))) := by unfold kindB; rw [h]; rfl
theorem kindBN {r : RecD} (h1 : r.kind ≠ 1) (h2 : r.kind ≠ 2) (h3 : r.kind ≠ 3) (h4 : r.kind ≠ 4) (h5 : r.kind ≠ 5) (h6 : r.kind ≠ 6) (h7 : r.kind ≠ 7) (h8 : r.kind ≠ 8) (h9 : r.kind ≠ 9) : kindB r = false := by unfold kindB; rw [if_neg h1, if_neg h2, if_neg h3, if_neg h4, if_neg h5, if_neg h6, if_neg h7, if_neg h8, if_neg h9]
noncomputable def headB (r : RecD) : Bool := decide (1 ≤ r.lsn) && (decide (r.lsn ≤ 1099511627776) && sameRec (othersD r) zRec)
noncomputable def mayB (r : RecD) : Bool := headB r && kindB r
theorem zero_on (w : World) : RecV.On ⟨0, 0, 0, 0, 0, none, 0, 0, none, 0, 0, 0, none, 0, 0, none, 0, 0⟩ w [] zRec := ⟨rfl, rfl, rfl, rfl, rfl, rfl, ⟨i64_zero, u64_zero, i64_zero, u64_zero, u64_zero, i64_zero⟩, ImgsOn.none_ w, SlOn.none_ w, SlOn.none_ w, SlOn.none_ w, (fun s h => by cases h), (fun s h => by cases h), (fun s h => by cases h)⟩
set_option maxRecDepth 100000 in
set_option maxHeartbeats 8000000 in
theorem mayBe_bad (kind lsn txn prev next nextTxn : Int) (iq sq tq dq : Option Addr) (im ic sn sc tn tc dn dc : Nat) (V : List ImgV) (r : RecD) (w : World) (h : RecV.On ⟨kind, lsn, txn, prev, next, iq, im, ic, sq, sn, sc, nextTxn, tq, tn, tc, dq, dn, dc⟩ w V r) (hh : headB r = false) :
 Calls Tryz.prog 35 #[.agg #[.int .i64 kind, .int .u64 lsn, .int .i64 txn, .int .u64 prev, .int .u64 next, .slice iq im ic, .slice sq sn sc, .int .i64 nextTxn, .slice tq tn tc, .slice dq dn dc]] w (fun e w' => e = .returned (.bool (mayB r)) ∧ Below w.heap.size w w') := by
 obtain ⟨W, hW⟩ : ∃ W, w.alloc (.cells #[.int .i64 kind, .int .u64 lsn, .int .i64 txn, .int .u64 prev, .int .u64 next, .slice iq im ic, .slice sq sn sc, .int .i64 nextTxn, .slice tq tn tc, .slice dq dn dc] 30) = W := ⟨_, rfl⟩; have hbx := lh (one_box hW); have o1 := lh (h.below hbx.out.1 (Nat.le_refl _)); have zr : (Tryz.prog.info? 30).map (·.size) = some ([.int .i64 kind, .int .u64 lsn, .int .i64 txn, .int .u64 prev, .int .u64 next, .slice iq im ic, .slice sq sn sc, .int .i64 nextTxn, .slice tq tn tc, .slice dq dn dc] : List Value).length := sizeRec ⟨kind, lsn, txn, prev, next, iq, im, ic, sq, sn, sc, nextTxn, tq, tn, tc, dq, dn, dc⟩; have c1 := hbx.out.2.1.cell 1 rfl; have hot := lh (others_any ⟨kind, lsn, txn, prev, next, iq, im, ic, sq, sn, sc, nextTxn, tq, tn, tc, dq, dn, dc⟩ V r W o1.out); have hl := h.lsn; simp only at hl; have hm : mayB r = false := by unfold mayB; rw [hh]; rfl
 rw [hm]; unfold headB at hh; rw [← hl] at hh; clear hm hl h o1
 by_cases h1 : 1 ≤ lsn
 rotate_left
 · have d1 : decide (lsn < 1) = true := decide_eq_true (by omega); clear hh hot h1; show Calls _ _ #[.agg #[.int .i64 kind, .int .u64 lsn, .int .i64 txn, .int .u64 prev, .int .u64 next, .slice iq im ic, .slice sq sn sc, .int .i64 nextTxn, .slice tq tn tc, .slice dq dn dc]] _ _
   go_enter Tryz.func35, Tryz.ntmps35
   go_wp2; go_ret; exact ⟨rfl, hbx.out.1⟩
 have d1 : decide (lsn < 1) = false := decide_eq_false (by omega); have t1 : decide (1 ≤ lsn) = true := decide_eq_true h1; rw [t1] at hh
 by_cases h2 : lsn ≤ 1099511627776
 rotate_left
 · have d2 : decide (lsn > 1099511627776) = true := decide_eq_true (by omega); clear hh hot h1 h2 t1; show Calls _ _ #[.agg #[.int .i64 kind, .int .u64 lsn, .int .i64 txn, .int .u64 prev, .int .u64 next, .slice iq im ic, .slice sq sn sc, .int .i64 nextTxn, .slice tq tn tc, .slice dq dn dc]] _ _
   go_enter Tryz.func35, Tryz.ntmps35
   go_wp2; go_ret; exact ⟨rfl, hbx.out.1⟩
 have d2 : decide (lsn > 1099511627776) = false := decide_eq_false (by omega); have t2 : decide (lsn ≤ 1099511627776) = true := decide_eq_true h2; rw [t2] at hh; have hS : sameRec (othersD r) zRec = false := by simpa using hh
 clear hh t1 t2 h1 h2; show Calls _ _ #[.agg #[.int .i64 kind, .int .u64 lsn, .int .i64 txn, .int .u64 prev, .int .u64 next, .slice iq im ic, .slice sq sn sc, .int .i64 nextTxn, .slice tq tn tc, .slice dq dn dc]] _ _
 go_enter Tryz.func35, Tryz.ntmps35
 go_wp2_with (first
  | ((with_reducible refine wpList_load_g ?_ 30 (.tmp 1) rfl Tryz.underlying30 rfl zr rfl hbx.out.2.1.all ?_); exact rfl))
 clear hW; refine hot.out.mono ?_; clear hot c1; rintro e w1 ⟨v', V', rfl, hon1, hb1⟩; obtain ⟨ka, la, xa, va, na, iqa, ima, ica, sqa, sna, sca, ya, tqa, tna, tca, dqa, dna, dca⟩ := v'; have hon1 := lh hon1; have hd1 := lh hb1; clear hb1; have hsm := sameRec_any _ ⟨0, 0, 0, 0, 0, none, 0, 0, none, 0, 0, 0, none, 0, 0, none, 0, 0⟩ V' [] (othersD r) zRec w1 hon1.out (zero_on w1); rw [hS] at hsm; have hsm := lh hsm; clear hS
 go_wp2_with fail
 refine hsm.out.mono ?_; clear hsm hon1; rintro e w2 ⟨rfl, hb2⟩; have hd2 := lh (hd1.out.trans (hb2.mono hd1.out.size)); clear hb2 hd1; go_wp2; go_ret; exact ⟨rfl, hbx.out.1.trans (hd2.out.mono hbx.out.1.size)⟩
set_option maxRecDepth 100000 in
set_option maxHeartbeats 8000000 in
theorem mayBe1 (lsn txn prev next nextTxn : Int) (iq sq tq dq : Option Addr) (im ic sn sc tn tc dn dc : Nat) (V : List ImgV) (r : RecD) (w : World) (h : RecV.On ⟨1, lsn, txn, prev, next, iq, im, ic, sq, sn, sc, nextTxn, tq, tn, tc, dq, dn, dc⟩ w V r) (hh : headB r = true) :
 Calls Tryz.prog 35 #[.agg #[.int .i64 1, .int .u64 lsn, .int .i64 txn, .int .u64 prev, .int .u64 next, .slice iq im ic, .slice sq sn sc, .int .i64 nextTxn, .slice tq tn tc, .slice dq dn dc]] w (fun e w' => e = .returned (.bool (mayB r)) ∧ Below w.heap.size w w') := by
 obtain ⟨W, hW⟩ : ∃ W, w.alloc (.cells #[.int .i64 1, .int .u64 lsn, .int .i64 txn, .int .u64 prev, .int .u64 next, .slice iq im ic, .slice sq sn sc, .int .i64 nextTxn, .slice tq tn tc, .slice dq dn dc] 30) = W := ⟨_, rfl⟩; have hbx := lh (one_box hW); have o1 := lh (h.below hbx.out.1 (Nat.le_refl _)); have zr : (Tryz.prog.info? 30).map (·.size) = some ([.int .i64 1, .int .u64 lsn, .int .i64 txn, .int .u64 prev, .int .u64 next, .slice iq im ic, .slice sq sn sc, .int .i64 nextTxn, .slice tq tn tc, .slice dq dn dc] : List Value).length := sizeRec ⟨1, lsn, txn, prev, next, iq, im, ic, sq, sn, sc, nextTxn, tq, tn, tc, dq, dn, dc⟩; have c1 := hbx.out.2.1.cell 1 rfl; have hot := lh (others_any ⟨1, lsn, txn, prev, next, iq, im, ic, sq, sn, sc, nextTxn, tq, tn, tc, dq, dn, dc⟩ V r W o1.out); have hl := h.lsn; simp only at hl; have hm : mayB r = kindB r := by unfold mayB; rw [hh]; rfl
 rw [hm, kindB1 h.kind.symm]; have H0 := fun u => numbered_any txn u
 obtain ⟨B0, hB0⟩ : ∃ E, numB txn = E := ⟨_, rfl⟩; have q0 : numB r.txn = B0 := by rw [← h.txn]; exact hB0
 rw [hB0] at H0; rw [q0]; clear hB0 q0; have H0 := lh H0; obtain ⟨B1, hB1⟩ : ∃ E, (prev == 0) = E := ⟨_, rfl⟩; have q1 : (r.prev == 0) = B1 := by rw [← h.prev]; exact hB1
 rw [q1]; clear q1; clear h hm; unfold headB at hh; rw [← hl] at hh; simp only [Bool.and_eq_true, decide_eq_true_eq] at hh; obtain ⟨h1, h2, hS⟩ := hh; have d1 : decide (lsn < 1) = false := decide_eq_false (by omega); have d2 : decide (lsn > 1099511627776) = false := decide_eq_false (by omega); clear h1 h2 hl; show Calls _ _ #[.agg #[.int .i64 1, .int .u64 lsn, .int .i64 txn, .int .u64 prev, .int .u64 next, .slice iq im ic, .slice sq sn sc, .int .i64 nextTxn, .slice tq tn tc, .slice dq dn dc]] _ _
 go_enter Tryz.func35, Tryz.ntmps35
 go_wp2_with (first
  | ((with_reducible refine wpList_load_g ?_ 30 (.tmp 1) rfl Tryz.underlying30 rfl zr rfl hbx.out.2.1.all ?_); exact rfl))
 clear hW; refine hot.out.mono ?_; clear hot c1; rintro e w1 ⟨v', V', rfl, hon1, hb1⟩; obtain ⟨ka, la, xa, va, na, iqa, ima, ica, sqa, sna, sca, ya, tqa, tna, tca, dqa, dna, dca⟩ := v'; have hon1 := lh hon1; have hd1 := lh hb1; clear hb1; have hsm := sameRec_any _ ⟨0, 0, 0, 0, 0, none, 0, 0, none, 0, 0, 0, none, 0, 0, none, 0, 0⟩ V' [] (othersD r) zRec w1 hon1.out (zero_on w1); rw [hS] at hsm; have hsm := lh hsm; clear hS
 go_wp2_with fail
 refine hsm.out.mono ?_; clear hsm hon1; rintro e w2 ⟨rfl, hb2⟩; have hd2 := lh (hd1.out.trans (hb2.mono hd1.out.size)); clear hb2 hd1; have c0 := (hbx.out.2.1.below hd2.out (Nat.le_refl _)).cell 0 rfl; have z2 := (hbx.out.2.1.below hd2.out (Nat.le_refl _)).cell 2 rfl
 go_wp2_with fail
 refine (H0.out w2).mono ?_; clear H0; rintro e wq ⟨rfl, hw⟩; obtain rfl := hw.symm; cases B0 with
 | false => clear  hB1; go_wp2; go_ret; exact ⟨rfl, hbx.out.1.trans (hd2.out.mono hbx.out.1.size)⟩
 | true =>
 have z3 := (hbx.out.2.1.below hd2.out (Nat.le_refl _)).cell 3 rfl; cases B1 with
 | false => go_wp2; go_ret; exact ⟨rfl, hbx.out.1.trans (hd2.out.mono hbx.out.1.size)⟩
 | true =>
 go_wp2; go_ret; exact ⟨rfl, hbx.out.1.trans (hd2.out.mono hbx.out.1.size)⟩
set_option maxRecDepth 100000 in
set_option maxHeartbeats 8000000 in
theorem mayBe2 (lsn txn prev next nextTxn : Int) (iq sq tq dq : Option Addr) (im ic sn sc tn tc dn dc : Nat) (V : List ImgV) (r : RecD) (w : World) (h : RecV.On ⟨2, lsn, txn, prev, next, iq, im, ic, sq, sn, sc, nextTxn, tq, tn, tc, dq, dn, dc⟩ w V r) (hh : headB r = true) :
 Calls Tryz.prog 35 #[.agg #[.int .i64 2, .int .u64 lsn, .int .i64 txn, .int .u64 prev, .int .u64 next, .slice iq im ic, .slice sq sn sc, .int .i64 nextTxn, .slice tq tn tc, .slice dq dn dc]] w (fun e w' => e = .returned (.bool (mayB r)) ∧ Below w.heap.size w w') := by
 obtain ⟨W, hW⟩ : ∃ W, w.alloc (.cells #[.int .i64 2, .int .u64 lsn, .int .i64 txn, .int .u64 prev, .int .u64 next, .slice iq im ic, .slice sq sn sc, .int .i64 nextTxn, .slice tq tn tc, .slice dq dn dc] 30) = W := ⟨_, rfl⟩; have hbx := lh (one_box hW); have o1 := lh (h.below hbx.out.1 (Nat.le_refl _)); have zr : (Tryz.prog.info? 30).map (·.size) = some ([.int .i64 2, .int .u64 lsn, .int .i64 txn, .int .u64 prev, .int .u64 next, .slice iq im ic, .slice sq sn sc, .int .i64 nextTxn, .slice tq tn tc, .slice dq dn dc] : List Value).length := sizeRec ⟨2, lsn, txn, prev, next, iq, im, ic, sq, sn, sc, nextTxn, tq, tn, tc, dq, dn, dc⟩; have c1 := hbx.out.2.1.cell 1 rfl; have hot := lh (others_any ⟨2, lsn, txn, prev, next, iq, im, ic, sq, sn, sc, nextTxn, tq, tn, tc, dq, dn, dc⟩ V r W o1.out); have hl := h.lsn; simp only at hl; have hm : mayB r = kindB r := by unfold mayB; rw [hh]; rfl
 rw [hm, kindB2 h.kind.symm]; have H0 := fun u (hu : Below W.heap.size W u) => chained_any ⟨2, lsn, txn, prev, next, iq, im, ic, sq, sn, sc, nextTxn, tq, tn, tc, dq, dn, dc⟩ V r u (o1.out.below hu (Nat.le_refl _))
 obtain ⟨B0, hB0⟩ : ∃ E, chainB r = E := ⟨_, rfl⟩; rw [hB0] at H0; rw [hB0]; clear hB0; have H0 := lh H0; obtain ⟨B1, hB1⟩ : ∃ E, decide (1 ≤ (im : Int)) = E := ⟨_, rfl⟩; have q1 : decide (1 ≤ (r.images.length : Int)) = B1 := by rw [show r.images.length = im from by have h1 := h.images.len; have h2 := h.images.on.len; simp only at h2; omega]; exact hB1
 rw [q1]; clear q1; have H2 := fun u (hu : Below W.heap.size W u) => imagesMayBe_any iq im ic V r.images u (o1.out.images.below hu (Nat.le_refl _)) (Nat.le_trans o1.out.images.on.le o1.out.images.on.cap) (imgsB r.images) (pB_iff _)
 obtain ⟨B2, hB2⟩ : ∃ E, imgsB r.images = E := ⟨_, rfl⟩; rw [hB2] at H2; rw [hB2]; clear hB2; have H2 := lh H2; clear h hm; unfold headB at hh; rw [← hl] at hh; simp only [Bool.and_eq_true, decide_eq_true_eq] at hh; obtain ⟨h1, h2, hS⟩ := hh; have d1 : decide (lsn < 1) = false := decide_eq_false (by omega); have d2 : decide (lsn > 1099511627776) = false := decide_eq_false (by omega); clear h1 h2 hl; show Calls _ _ #[.agg #[.int .i64 2, .int .u64 lsn, .int .i64 txn, .int .u64 prev, .int .u64 next, .slice iq im ic, .slice sq sn sc, .int .i64 nextTxn, .slice tq tn tc, .slice dq dn dc]] _ _
 go_enter Tryz.func35, Tryz.ntmps35
 go_wp2_with (first
  | ((with_reducible refine wpList_load_g ?_ 30 (.tmp 1) rfl Tryz.underlying30 rfl zr rfl hbx.out.2.1.all ?_); exact rfl))
 clear hW; refine hot.out.mono ?_; clear hot c1; rintro e w1 ⟨v', V', rfl, hon1, hb1⟩; obtain ⟨ka, la, xa, va, na, iqa, ima, ica, sqa, sna, sca, ya, tqa, tna, tca, dqa, dna, dca⟩ := v'; have hon1 := lh hon1; have hd1 := lh hb1; clear hb1; have hsm := sameRec_any _ ⟨0, 0, 0, 0, 0, none, 0, 0, none, 0, 0, 0, none, 0, 0, none, 0, 0⟩ V' [] (othersD r) zRec w1 hon1.out (zero_on w1); rw [hS] at hsm; have hsm := lh hsm; clear hS
 go_wp2_with fail
 refine hsm.out.mono ?_; clear hsm hon1; rintro e w2 ⟨rfl, hb2⟩; have hd2 := lh (hd1.out.trans (hb2.mono hd1.out.size)); clear hb2 hd1; have c0 := (hbx.out.2.1.below hd2.out (Nat.le_refl _)).cell 0 rfl
 go_wp2_with (first
  | ((with_reducible refine wpList_load_g ?_ 30 (.tmp 1) rfl Tryz.underlying30 rfl zr rfl (hbx.out.2.1.below hd2.out (Nat.le_refl _)).all ?_); exact rfl))
 refine (H0.out w2 hd2.out).mono ?_; clear H0; rintro e w3 ⟨rfl, hb⟩; have hd3 := lh (hd2.out.trans (hb.mono hd2.out.size)); clear hb c0; cases B0 with
 | false => clear H2 hB1; go_wp2; go_ret; exact ⟨rfl, hbx.out.1.trans (hd3.out.mono hbx.out.1.size)⟩
 | true =>
 have z5 := (hbx.out.2.1.below hd3.out (Nat.le_refl _)).cell 5 rfl; cases B1 with
 | false => clear H2 ; go_wp2; go_ret; exact ⟨rfl, hbx.out.1.trans (hd3.out.mono hbx.out.1.size)⟩
 | true =>
 go_wp2_with fail
 refine (H2.out w3 hd3.out).mono ?_; clear H2; rintro e w4 ⟨rfl, hb⟩; have hd4 := lh (hd3.out.trans (hb.mono hd3.out.size)); clear hb z5
 cases B2 <;>
  (go_wp2
   go_ret
   exact ⟨rfl, hbx.out.1.trans (hd4.out.mono hbx.out.1.size)⟩)
set_option maxRecDepth 100000 in
set_option maxHeartbeats 8000000 in
theorem mayBe3 (lsn txn prev next nextTxn : Int) (iq sq tq dq : Option Addr) (im ic sn sc tn tc dn dc : Nat) (V : List ImgV) (r : RecD) (w : World) (h : RecV.On ⟨3, lsn, txn, prev, next, iq, im, ic, sq, sn, sc, nextTxn, tq, tn, tc, dq, dn, dc⟩ w V r) (hh : headB r = true) :
 Calls Tryz.prog 35 #[.agg #[.int .i64 3, .int .u64 lsn, .int .i64 txn, .int .u64 prev, .int .u64 next, .slice iq im ic, .slice sq sn sc, .int .i64 nextTxn, .slice tq tn tc, .slice dq dn dc]] w (fun e w' => e = .returned (.bool (mayB r)) ∧ Below w.heap.size w w') := by
 obtain ⟨W, hW⟩ : ∃ W, w.alloc (.cells #[.int .i64 3, .int .u64 lsn, .int .i64 txn, .int .u64 prev, .int .u64 next, .slice iq im ic, .slice sq sn sc, .int .i64 nextTxn, .slice tq tn tc, .slice dq dn dc] 30) = W := ⟨_, rfl⟩; have hbx := lh (one_box hW); have o1 := lh (h.below hbx.out.1 (Nat.le_refl _)); have zr : (Tryz.prog.info? 30).map (·.size) = some ([.int .i64 3, .int .u64 lsn, .int .i64 txn, .int .u64 prev, .int .u64 next, .slice iq im ic, .slice sq sn sc, .int .i64 nextTxn, .slice tq tn tc, .slice dq dn dc] : List Value).length := sizeRec ⟨3, lsn, txn, prev, next, iq, im, ic, sq, sn, sc, nextTxn, tq, tn, tc, dq, dn, dc⟩; have c1 := hbx.out.2.1.cell 1 rfl; have hot := lh (others_any ⟨3, lsn, txn, prev, next, iq, im, ic, sq, sn, sc, nextTxn, tq, tn, tc, dq, dn, dc⟩ V r W o1.out); have hl := h.lsn; simp only at hl; have hm : mayB r = kindB r := by unfold mayB; rw [hh]; rfl
 rw [hm, kindB3 h.kind.symm]; have H0 := fun u (hu : Below W.heap.size W u) => chained_any ⟨3, lsn, txn, prev, next, iq, im, ic, sq, sn, sc, nextTxn, tq, tn, tc, dq, dn, dc⟩ V r u (o1.out.below hu (Nat.le_refl _))
 obtain ⟨B0, hB0⟩ : ∃ E, chainB r = E := ⟨_, rfl⟩; rw [hB0] at H0; rw [hB0]; clear hB0; have H0 := lh H0; obtain ⟨B1, hB1⟩ : ∃ E, decide (next < prev) = E := ⟨_, rfl⟩; have q1 : decide (r.next < r.prev) = B1 := by rw [← h.next, ← h.prev]; exact hB1
 rw [q1]; clear q1; clear h hm; unfold headB at hh; rw [← hl] at hh; simp only [Bool.and_eq_true, decide_eq_true_eq] at hh; obtain ⟨h1, h2, hS⟩ := hh; have d1 : decide (lsn < 1) = false := decide_eq_false (by omega); have d2 : decide (lsn > 1099511627776) = false := decide_eq_false (by omega); clear h1 h2 hl; show Calls _ _ #[.agg #[.int .i64 3, .int .u64 lsn, .int .i64 txn, .int .u64 prev, .int .u64 next, .slice iq im ic, .slice sq sn sc, .int .i64 nextTxn, .slice tq tn tc, .slice dq dn dc]] _ _
 go_enter Tryz.func35, Tryz.ntmps35
 go_wp2_with (first
  | ((with_reducible refine wpList_load_g ?_ 30 (.tmp 1) rfl Tryz.underlying30 rfl zr rfl hbx.out.2.1.all ?_); exact rfl))
 clear hW; refine hot.out.mono ?_; clear hot c1; rintro e w1 ⟨v', V', rfl, hon1, hb1⟩; obtain ⟨ka, la, xa, va, na, iqa, ima, ica, sqa, sna, sca, ya, tqa, tna, tca, dqa, dna, dca⟩ := v'; have hon1 := lh hon1; have hd1 := lh hb1; clear hb1; have hsm := sameRec_any _ ⟨0, 0, 0, 0, 0, none, 0, 0, none, 0, 0, 0, none, 0, 0, none, 0, 0⟩ V' [] (othersD r) zRec w1 hon1.out (zero_on w1); rw [hS] at hsm; have hsm := lh hsm; clear hS
 go_wp2_with fail
 refine hsm.out.mono ?_; clear hsm hon1; rintro e w2 ⟨rfl, hb2⟩; have hd2 := lh (hd1.out.trans (hb2.mono hd1.out.size)); clear hb2 hd1; have c0 := (hbx.out.2.1.below hd2.out (Nat.le_refl _)).cell 0 rfl
 go_wp2_with (first
  | ((with_reducible refine wpList_load_g ?_ 30 (.tmp 1) rfl Tryz.underlying30 rfl zr rfl (hbx.out.2.1.below hd2.out (Nat.le_refl _)).all ?_); exact rfl))
 refine (H0.out w2 hd2.out).mono ?_; clear H0; rintro e w3 ⟨rfl, hb⟩; have hd3 := lh (hd2.out.trans (hb.mono hd2.out.size)); clear hb c0; cases B0 with
 | false => clear  hB1; go_wp2; go_ret; exact ⟨rfl, hbx.out.1.trans (hd3.out.mono hbx.out.1.size)⟩
 | true =>
 have z4 := (hbx.out.2.1.below hd3.out (Nat.le_refl _)).cell 4 rfl; have z3 := (hbx.out.2.1.below hd3.out (Nat.le_refl _)).cell 3 rfl; cases B1 with
 | false => go_wp2; go_ret; exact ⟨rfl, hbx.out.1.trans (hd3.out.mono hbx.out.1.size)⟩
 | true =>
 go_wp2; go_ret; exact ⟨rfl, hbx.out.1.trans (hd3.out.mono hbx.out.1.size)⟩
set_option maxRecDepth 100000 in
set_option maxHeartbeats 8000000 in
theorem mayBe4 (lsn txn prev next nextTxn : Int) (iq sq tq dq : Option Addr) (im ic sn sc tn tc dn dc : Nat) (V : List ImgV) (r : RecD) (w : World) (h : RecV.On ⟨4, lsn, txn, prev, next, iq, im, ic, sq, sn, sc, nextTxn, tq, tn, tc, dq, dn, dc⟩ w V r) (hh : headB r = true) :
 Calls Tryz.prog 35 #[.agg #[.int .i64 4, .int .u64 lsn, .int .i64 txn, .int .u64 prev, .int .u64 next, .slice iq im ic, .slice sq sn sc, .int .i64 nextTxn, .slice tq tn tc, .slice dq dn dc]] w (fun e w' => e = .returned (.bool (mayB r)) ∧ Below w.heap.size w w') := by
 obtain ⟨W, hW⟩ : ∃ W, w.alloc (.cells #[.int .i64 4, .int .u64 lsn, .int .i64 txn, .int .u64 prev, .int .u64 next, .slice iq im ic, .slice sq sn sc, .int .i64 nextTxn, .slice tq tn tc, .slice dq dn dc] 30) = W := ⟨_, rfl⟩; have hbx := lh (one_box hW); have o1 := lh (h.below hbx.out.1 (Nat.le_refl _)); have zr : (Tryz.prog.info? 30).map (·.size) = some ([.int .i64 4, .int .u64 lsn, .int .i64 txn, .int .u64 prev, .int .u64 next, .slice iq im ic, .slice sq sn sc, .int .i64 nextTxn, .slice tq tn tc, .slice dq dn dc] : List Value).length := sizeRec ⟨4, lsn, txn, prev, next, iq, im, ic, sq, sn, sc, nextTxn, tq, tn, tc, dq, dn, dc⟩; have c1 := hbx.out.2.1.cell 1 rfl; have hot := lh (others_any ⟨4, lsn, txn, prev, next, iq, im, ic, sq, sn, sc, nextTxn, tq, tn, tc, dq, dn, dc⟩ V r W o1.out); have hl := h.lsn; simp only at hl; have hm : mayB r = kindB r := by unfold mayB; rw [hh]; rfl
 rw [hm, kindB4 h.kind.symm]; have H0 := fun u (hu : Below W.heap.size W u) => chained_any ⟨4, lsn, txn, prev, next, iq, im, ic, sq, sn, sc, nextTxn, tq, tn, tc, dq, dn, dc⟩ V r u (o1.out.below hu (Nat.le_refl _))
 obtain ⟨B0, hB0⟩ : ∃ E, chainB r = E := ⟨_, rfl⟩; rw [hB0] at H0; rw [hB0]; clear hB0; have H0 := lh H0; obtain ⟨B1, hB1⟩ : ∃ E, decide (next < prev) = E := ⟨_, rfl⟩; have q1 : decide (r.next < r.prev) = B1 := by rw [← h.next, ← h.prev]; exact hB1
 rw [q1]; clear q1; have H2 := fun u (hu : Below W.heap.size W u) => stepsMayBe_any sq sn sc r.steps u (o1.out.steps.below hu (Nat.le_refl _)) o1.out.sok (Nat.le_trans o1.out.steps.le o1.out.steps.cap)
 obtain ⟨B2, hB2⟩ : ∃ E, stpsB r.steps = E := ⟨_, rfl⟩; rw [hB2] at H2; rw [hB2]; clear hB2; have H2 := lh H2; clear h hm; unfold headB at hh; rw [← hl] at hh; simp only [Bool.and_eq_true, decide_eq_true_eq] at hh; obtain ⟨h1, h2, hS⟩ := hh; have d1 : decide (lsn < 1) = false := decide_eq_false (by omega); have d2 : decide (lsn > 1099511627776) = false := decide_eq_false (by omega); clear h1 h2 hl; show Calls _ _ #[.agg #[.int .i64 4, .int .u64 lsn, .int .i64 txn, .int .u64 prev, .int .u64 next, .slice iq im ic, .slice sq sn sc, .int .i64 nextTxn, .slice tq tn tc, .slice dq dn dc]] _ _
 go_enter Tryz.func35, Tryz.ntmps35
 go_wp2_with (first
  | ((with_reducible refine wpList_load_g ?_ 30 (.tmp 1) rfl Tryz.underlying30 rfl zr rfl hbx.out.2.1.all ?_); exact rfl))
 clear hW; refine hot.out.mono ?_; clear hot c1; rintro e w1 ⟨v', V', rfl, hon1, hb1⟩; obtain ⟨ka, la, xa, va, na, iqa, ima, ica, sqa, sna, sca, ya, tqa, tna, tca, dqa, dna, dca⟩ := v'; have hon1 := lh hon1; have hd1 := lh hb1; clear hb1; have hsm := sameRec_any _ ⟨0, 0, 0, 0, 0, none, 0, 0, none, 0, 0, 0, none, 0, 0, none, 0, 0⟩ V' [] (othersD r) zRec w1 hon1.out (zero_on w1); rw [hS] at hsm; have hsm := lh hsm; clear hS
 go_wp2_with fail
 refine hsm.out.mono ?_; clear hsm hon1; rintro e w2 ⟨rfl, hb2⟩; have hd2 := lh (hd1.out.trans (hb2.mono hd1.out.size)); clear hb2 hd1; have c0 := (hbx.out.2.1.below hd2.out (Nat.le_refl _)).cell 0 rfl
 go_wp2_with (first
  | ((with_reducible refine wpList_load_g ?_ 30 (.tmp 1) rfl Tryz.underlying30 rfl zr rfl (hbx.out.2.1.below hd2.out (Nat.le_refl _)).all ?_); exact rfl))
 refine (H0.out w2 hd2.out).mono ?_; clear H0; rintro e w3 ⟨rfl, hb⟩; have hd3 := lh (hd2.out.trans (hb.mono hd2.out.size)); clear hb c0; cases B0 with
 | false => clear H2 hB1; go_wp2; go_ret; exact ⟨rfl, hbx.out.1.trans (hd3.out.mono hbx.out.1.size)⟩
 | true =>
 have z4 := (hbx.out.2.1.below hd3.out (Nat.le_refl _)).cell 4 rfl; have z3 := (hbx.out.2.1.below hd3.out (Nat.le_refl _)).cell 3 rfl; have z6 := (hbx.out.2.1.below hd3.out (Nat.le_refl _)).cell 6 rfl; cases B1 with
 | false => clear H2 ; go_wp2; go_ret; exact ⟨rfl, hbx.out.1.trans (hd3.out.mono hbx.out.1.size)⟩
 | true =>
 go_wp2_with fail
 refine (H2.out w3 hd3.out).mono ?_; clear H2; rintro e w4 ⟨rfl, hb⟩; have hd4 := lh (hd3.out.trans (hb.mono hd3.out.size)); clear hb z4 z3 z6
 cases B2 <;>
  (go_wp2
   go_ret
   exact ⟨rfl, hbx.out.1.trans (hd4.out.mono hbx.out.1.size)⟩)
set_option maxRecDepth 100000 in
set_option maxHeartbeats 8000000 in
theorem mayBe5 (lsn txn prev next nextTxn : Int) (iq sq tq dq : Option Addr) (im ic sn sc tn tc dn dc : Nat) (V : List ImgV) (r : RecD) (w : World) (h : RecV.On ⟨5, lsn, txn, prev, next, iq, im, ic, sq, sn, sc, nextTxn, tq, tn, tc, dq, dn, dc⟩ w V r) (hh : headB r = true) :
 Calls Tryz.prog 35 #[.agg #[.int .i64 5, .int .u64 lsn, .int .i64 txn, .int .u64 prev, .int .u64 next, .slice iq im ic, .slice sq sn sc, .int .i64 nextTxn, .slice tq tn tc, .slice dq dn dc]] w (fun e w' => e = .returned (.bool (mayB r)) ∧ Below w.heap.size w w') := by
 obtain ⟨W, hW⟩ : ∃ W, w.alloc (.cells #[.int .i64 5, .int .u64 lsn, .int .i64 txn, .int .u64 prev, .int .u64 next, .slice iq im ic, .slice sq sn sc, .int .i64 nextTxn, .slice tq tn tc, .slice dq dn dc] 30) = W := ⟨_, rfl⟩; have hbx := lh (one_box hW); have o1 := lh (h.below hbx.out.1 (Nat.le_refl _)); have zr : (Tryz.prog.info? 30).map (·.size) = some ([.int .i64 5, .int .u64 lsn, .int .i64 txn, .int .u64 prev, .int .u64 next, .slice iq im ic, .slice sq sn sc, .int .i64 nextTxn, .slice tq tn tc, .slice dq dn dc] : List Value).length := sizeRec ⟨5, lsn, txn, prev, next, iq, im, ic, sq, sn, sc, nextTxn, tq, tn, tc, dq, dn, dc⟩; have c1 := hbx.out.2.1.cell 1 rfl; have hot := lh (others_any ⟨5, lsn, txn, prev, next, iq, im, ic, sq, sn, sc, nextTxn, tq, tn, tc, dq, dn, dc⟩ V r W o1.out); have hl := h.lsn; simp only at hl; have hm : mayB r = kindB r := by unfold mayB; rw [hh]; rfl
 rw [hm, kindB5 h.kind.symm]; have H0 := fun u (hu : Below W.heap.size W u) => chained_any ⟨5, lsn, txn, prev, next, iq, im, ic, sq, sn, sc, nextTxn, tq, tn, tc, dq, dn, dc⟩ V r u (o1.out.below hu (Nat.le_refl _))
 obtain ⟨B0, hB0⟩ : ∃ E, chainB r = E := ⟨_, rfl⟩; rw [hB0] at H0; rw [hB0]; clear hB0; have H0 := lh H0; obtain ⟨B1, hB1⟩ : ∃ E, decide (next < lsn) = E := ⟨_, rfl⟩; have q1 : decide (r.next < r.lsn) = B1 := by rw [← h.next, ← h.lsn]; exact hB1
 rw [q1]; clear q1; have H2 := fun u (hu : Below W.heap.size W u) => imagesMayBe_any iq im ic V r.images u (o1.out.images.below hu (Nat.le_refl _)) (Nat.le_trans o1.out.images.on.le o1.out.images.on.cap) (imgsB r.images) (pB_iff _)
 obtain ⟨B2, hB2⟩ : ∃ E, imgsB r.images = E := ⟨_, rfl⟩; rw [hB2] at H2; rw [hB2]; clear hB2; have H2 := lh H2; have H3 := fun u (hu : Below W.heap.size W u) => oneSided_any iq im ic V r.images u (o1.out.images.below hu (Nat.le_refl _)) (Nat.le_trans o1.out.images.on.le o1.out.images.on.cap) (sidesB r.images) (pB_iff _)
 obtain ⟨B3, hB3⟩ : ∃ E, sidesB r.images = E := ⟨_, rfl⟩; rw [hB3] at H3; rw [hB3]; clear hB3; have H3 := lh H3; clear h hm; unfold headB at hh; rw [← hl] at hh; simp only [Bool.and_eq_true, decide_eq_true_eq] at hh; obtain ⟨h1, h2, hS⟩ := hh; have d1 : decide (lsn < 1) = false := decide_eq_false (by omega); have d2 : decide (lsn > 1099511627776) = false := decide_eq_false (by omega); clear h1 h2 hl; show Calls _ _ #[.agg #[.int .i64 5, .int .u64 lsn, .int .i64 txn, .int .u64 prev, .int .u64 next, .slice iq im ic, .slice sq sn sc, .int .i64 nextTxn, .slice tq tn tc, .slice dq dn dc]] _ _
 go_enter Tryz.func35, Tryz.ntmps35
 go_wp2_with (first
  | ((with_reducible refine wpList_load_g ?_ 30 (.tmp 1) rfl Tryz.underlying30 rfl zr rfl hbx.out.2.1.all ?_); exact rfl))
 clear hW; refine hot.out.mono ?_; clear hot c1; rintro e w1 ⟨v', V', rfl, hon1, hb1⟩; obtain ⟨ka, la, xa, va, na, iqa, ima, ica, sqa, sna, sca, ya, tqa, tna, tca, dqa, dna, dca⟩ := v'; have hon1 := lh hon1; have hd1 := lh hb1; clear hb1; have hsm := sameRec_any _ ⟨0, 0, 0, 0, 0, none, 0, 0, none, 0, 0, 0, none, 0, 0, none, 0, 0⟩ V' [] (othersD r) zRec w1 hon1.out (zero_on w1); rw [hS] at hsm; have hsm := lh hsm; clear hS
 go_wp2_with fail
 refine hsm.out.mono ?_; clear hsm hon1; rintro e w2 ⟨rfl, hb2⟩; have hd2 := lh (hd1.out.trans (hb2.mono hd1.out.size)); clear hb2 hd1; have c0 := (hbx.out.2.1.below hd2.out (Nat.le_refl _)).cell 0 rfl
 go_wp2_with (first
  | ((with_reducible refine wpList_load_g ?_ 30 (.tmp 1) rfl Tryz.underlying30 rfl zr rfl (hbx.out.2.1.below hd2.out (Nat.le_refl _)).all ?_); exact rfl))
 refine (H0.out w2 hd2.out).mono ?_; clear H0; rintro e w3 ⟨rfl, hb⟩; have hd3 := lh (hd2.out.trans (hb.mono hd2.out.size)); clear hb c0; cases B0 with
 | false => clear H2 H3 hB1; go_wp2; go_ret; exact ⟨rfl, hbx.out.1.trans (hd3.out.mono hbx.out.1.size)⟩
 | true =>
 have z4 := (hbx.out.2.1.below hd3.out (Nat.le_refl _)).cell 4 rfl; have z1 := (hbx.out.2.1.below hd3.out (Nat.le_refl _)).cell 1 rfl; have z5 := (hbx.out.2.1.below hd3.out (Nat.le_refl _)).cell 5 rfl; cases B1 with
 | false => clear H2 H3 ; go_wp2; go_ret; exact ⟨rfl, hbx.out.1.trans (hd3.out.mono hbx.out.1.size)⟩
 | true =>
 go_wp2_with fail
 refine (H2.out w3 hd3.out).mono ?_; clear H2; rintro e w4 ⟨rfl, hb⟩; have hd4 := lh (hd3.out.trans (hb.mono hd3.out.size)); clear hb z4 z1 z5; cases B2 with
 | false => clear H3 ; go_wp2; go_ret; exact ⟨rfl, hbx.out.1.trans (hd4.out.mono hbx.out.1.size)⟩
 | true =>
 have z5 := (hbx.out.2.1.below hd4.out (Nat.le_refl _)).cell 5 rfl
 go_wp2_with fail
 refine (H3.out w4 hd4.out).mono ?_; clear H3; rintro e w5 ⟨rfl, hb⟩; have hd5 := lh (hd4.out.trans (hb.mono hd4.out.size)); clear hb z5
 cases B3 <;>
  (go_wp2
   go_ret
   exact ⟨rfl, hbx.out.1.trans (hd5.out.mono hbx.out.1.size)⟩)
theorem kindB678 {r : RecD} {K : Int} (hK : K = 6 ∨ K = 7 ∨ K = 8) (h : r.kind = K) : kindB r = chainB r := by
 rcases hK with rfl | rfl | rfl
 · exact kindB6 h
 · exact kindB7 h
 · exact kindB8 h
set_option maxRecDepth 100000 in
set_option maxHeartbeats 24000000 in
theorem mayBe678 (K : Int) (hK : K = 6 ∨ K = 7 ∨ K = 8) (lsn txn prev next nextTxn : Int) (iq sq tq dq : Option Addr) (im ic sn sc tn tc dn dc : Nat) (V : List ImgV) (r : RecD) (w : World) (h : RecV.On ⟨K, lsn, txn, prev, next, iq, im, ic, sq, sn, sc, nextTxn, tq, tn, tc, dq, dn, dc⟩ w V r) (hh : headB r = true) :
 Calls Tryz.prog 35 #[.agg #[.int .i64 K, .int .u64 lsn, .int .i64 txn, .int .u64 prev, .int .u64 next, .slice iq im ic, .slice sq sn sc, .int .i64 nextTxn, .slice tq tn tc, .slice dq dn dc]] w (fun e w' => e = .returned (.bool (mayB r)) ∧ Below w.heap.size w w') := by
 obtain ⟨W, hW⟩ : ∃ W, w.alloc (.cells #[.int .i64 K, .int .u64 lsn, .int .i64 txn, .int .u64 prev, .int .u64 next, .slice iq im ic, .slice sq sn sc, .int .i64 nextTxn, .slice tq tn tc, .slice dq dn dc] 30) = W := ⟨_, rfl⟩; have hbx := lh (one_box hW); have o1 := lh (h.below hbx.out.1 (Nat.le_refl _)); have zr : (Tryz.prog.info? 30).map (·.size) = some ([.int .i64 K, .int .u64 lsn, .int .i64 txn, .int .u64 prev, .int .u64 next, .slice iq im ic, .slice sq sn sc, .int .i64 nextTxn, .slice tq tn tc, .slice dq dn dc] : List Value).length := sizeRec ⟨K, lsn, txn, prev, next, iq, im, ic, sq, sn, sc, nextTxn, tq, tn, tc, dq, dn, dc⟩; have c1 := hbx.out.2.1.cell 1 rfl; have hot := lh (others_any ⟨K, lsn, txn, prev, next, iq, im, ic, sq, sn, sc, nextTxn, tq, tn, tc, dq, dn, dc⟩ V r W o1.out); have hl := h.lsn; simp only at hl; have hm : mayB r = kindB r := by unfold mayB; rw [hh]; rfl
 rw [hm, kindB678 hK h.kind.symm]; have H0 := fun u (hu : Below W.heap.size W u) => chained_any ⟨K, lsn, txn, prev, next, iq, im, ic, sq, sn, sc, nextTxn, tq, tn, tc, dq, dn, dc⟩ V r u (o1.out.below hu (Nat.le_refl _))
 obtain ⟨B0, hB0⟩ : ∃ E, chainB r = E := ⟨_, rfl⟩; rw [hB0] at H0; rw [hB0]; clear hB0; have H0 := lh H0; clear h hm; unfold headB at hh; rw [← hl] at hh; simp only [Bool.and_eq_true, decide_eq_true_eq] at hh; obtain ⟨h1, h2, hS⟩ := hh; have d1 : decide (lsn < 1) = false := decide_eq_false (by omega); have d2 : decide (lsn > 1099511627776) = false := decide_eq_false (by omega); clear h1 h2 hl; show Calls _ _ #[.agg #[.int .i64 K, .int .u64 lsn, .int .i64 txn, .int .u64 prev, .int .u64 next, .slice iq im ic, .slice sq sn sc, .int .i64 nextTxn, .slice tq tn tc, .slice dq dn dc]] _ _; rcases hK with rfl | rfl | rfl
 all_goals
  go_enter Tryz.func35, Tryz.ntmps35
  go_wp2_with (first
   | ((with_reducible refine wpList_load_g ?_ 30 (.tmp 1) rfl Tryz.underlying30 rfl zr rfl hbx.out.2.1.all ?_); exact rfl))
  clear hW; refine hot.out.mono ?_; clear hot c1; rintro e w1 ⟨v', V', rfl, hon1, hb1⟩; obtain ⟨ka, la, xa, va, na, iqa, ima, ica, sqa, sna, sca, ya, tqa, tna, tca, dqa, dna, dca⟩ := v'; have hon1 := lh hon1; have hd1 := lh hb1; clear hb1; have hsm := sameRec_any _ ⟨0, 0, 0, 0, 0, none, 0, 0, none, 0, 0, 0, none, 0, 0, none, 0, 0⟩ V' [] (othersD r) zRec w1 hon1.out (zero_on w1); rw [hS] at hsm; have hsm := lh hsm; clear hS
  go_wp2_with fail
  refine hsm.out.mono ?_; clear hsm hon1; rintro e w2 ⟨rfl, hb2⟩; have hd2 := lh (hd1.out.trans (hb2.mono hd1.out.size)); clear hb2 hd1; have c0 := (hbx.out.2.1.below hd2.out (Nat.le_refl _)).cell 0 rfl
  go_wp2_with (first
   | ((with_reducible refine wpList_load_g ?_ 30 (.tmp 1) rfl Tryz.underlying30 rfl zr rfl (hbx.out.2.1.below hd2.out (Nat.le_refl _)).all ?_); exact rfl))
  refine (H0.out w2 hd2.out).mono ?_; clear H0; rintro e w3 ⟨rfl, hb⟩; have hd3 := lh (hd2.out.trans (hb.mono hd2.out.size)); clear hb c0
  cases B0 <;>
   (go_wp2
    go_ret
    exact ⟨rfl, hbx.out.1.trans (hd3.out.mono hbx.out.1.size)⟩)
set_option maxRecDepth 100000 in
set_option maxHeartbeats 8000000 in
theorem mayBe9 (lsn txn prev next nextTxn : Int) (iq sq tq dq : Option Addr) (im ic sn sc tn tc dn dc : Nat) (V : List ImgV) (r : RecD) (w : World) (h : RecV.On ⟨9, lsn, txn, prev, next, iq, im, ic, sq, sn, sc, nextTxn, tq, tn, tc, dq, dn, dc⟩ w V r) (hh : headB r = true) :
 Calls Tryz.prog 35 #[.agg #[.int .i64 9, .int .u64 lsn, .int .i64 txn, .int .u64 prev, .int .u64 next, .slice iq im ic, .slice sq sn sc, .int .i64 nextTxn, .slice tq tn tc, .slice dq dn dc]] w (fun e w' => e = .returned (.bool (mayB r)) ∧ Below w.heap.size w w') := by
 obtain ⟨W, hW⟩ : ∃ W, w.alloc (.cells #[.int .i64 9, .int .u64 lsn, .int .i64 txn, .int .u64 prev, .int .u64 next, .slice iq im ic, .slice sq sn sc, .int .i64 nextTxn, .slice tq tn tc, .slice dq dn dc] 30) = W := ⟨_, rfl⟩; have hbx := lh (one_box hW); have o1 := lh (h.below hbx.out.1 (Nat.le_refl _)); have zr : (Tryz.prog.info? 30).map (·.size) = some ([.int .i64 9, .int .u64 lsn, .int .i64 txn, .int .u64 prev, .int .u64 next, .slice iq im ic, .slice sq sn sc, .int .i64 nextTxn, .slice tq tn tc, .slice dq dn dc] : List Value).length := sizeRec ⟨9, lsn, txn, prev, next, iq, im, ic, sq, sn, sc, nextTxn, tq, tn, tc, dq, dn, dc⟩; have c1 := hbx.out.2.1.cell 1 rfl; have hot := lh (others_any ⟨9, lsn, txn, prev, next, iq, im, ic, sq, sn, sc, nextTxn, tq, tn, tc, dq, dn, dc⟩ V r W o1.out); have hl := h.lsn; simp only at hl; have hm : mayB r = kindB r := by unfold mayB; rw [hh]; rfl
 rw [hm, kindB9 h.kind.symm]; obtain ⟨B0, hB0⟩ : ∃ E, (txn == 0) = E := ⟨_, rfl⟩; have q0 : (r.txn == 0) = B0 := by rw [← h.txn]; exact hB0
 rw [q0]; clear q0; obtain ⟨B1, hB1⟩ : ∃ E, (prev == 0) = E := ⟨_, rfl⟩; have q1 : (r.prev == 0) = B1 := by rw [← h.prev]; exact hB1
 rw [q1]; clear q1; have H2 := fun u => numbered_any nextTxn u
 obtain ⟨B2, hB2⟩ : ∃ E, numB nextTxn = E := ⟨_, rfl⟩; have q2 : numB r.nextTxn = B2 := by rw [← h.nextTxn]; exact hB2
 rw [hB2] at H2; rw [q2]; clear hB2 q2; have H2 := lh H2; have H3 := fun u (hu : Below W.heap.size W u) => txnsMayBe_any ⟨9, lsn, txn, prev, next, iq, im, ic, sq, sn, sc, nextTxn, tq, tn, tc, dq, dn, dc⟩ V r u (o1.out.below hu (Nat.le_refl _))
 obtain ⟨B3, hB3⟩ : ∃ E, txnsB r = E := ⟨_, rfl⟩; rw [hB3] at H3; rw [hB3]; clear hB3; have H3 := lh H3; have H4 := fun u (hu : Below W.heap.size W u) => dirtyMayBe_any ⟨9, lsn, txn, prev, next, iq, im, ic, sq, sn, sc, nextTxn, tq, tn, tc, dq, dn, dc⟩ V r u (o1.out.below hu (Nat.le_refl _))
 obtain ⟨B4, hB4⟩ : ∃ E, dirtyB r = E := ⟨_, rfl⟩; rw [hB4] at H4; rw [hB4]; clear hB4; have H4 := lh H4; clear h hm; unfold headB at hh; rw [← hl] at hh; simp only [Bool.and_eq_true, decide_eq_true_eq] at hh; obtain ⟨h1, h2, hS⟩ := hh; have d1 : decide (lsn < 1) = false := decide_eq_false (by omega); have d2 : decide (lsn > 1099511627776) = false := decide_eq_false (by omega); clear h1 h2 hl; show Calls _ _ #[.agg #[.int .i64 9, .int .u64 lsn, .int .i64 txn, .int .u64 prev, .int .u64 next, .slice iq im ic, .slice sq sn sc, .int .i64 nextTxn, .slice tq tn tc, .slice dq dn dc]] _ _
 go_enter Tryz.func35, Tryz.ntmps35
 go_wp2_with (first
  | ((with_reducible refine wpList_load_g ?_ 30 (.tmp 1) rfl Tryz.underlying30 rfl zr rfl hbx.out.2.1.all ?_); exact rfl))
 clear hW; refine hot.out.mono ?_; clear hot c1; rintro e w1 ⟨v', V', rfl, hon1, hb1⟩; obtain ⟨ka, la, xa, va, na, iqa, ima, ica, sqa, sna, sca, ya, tqa, tna, tca, dqa, dna, dca⟩ := v'; have hon1 := lh hon1; have hd1 := lh hb1; clear hb1; have hsm := sameRec_any _ ⟨0, 0, 0, 0, 0, none, 0, 0, none, 0, 0, 0, none, 0, 0, none, 0, 0⟩ V' [] (othersD r) zRec w1 hon1.out (zero_on w1); rw [hS] at hsm; have hsm := lh hsm; clear hS
 go_wp2_with fail
 refine hsm.out.mono ?_; clear hsm hon1; rintro e w2 ⟨rfl, hb2⟩; have hd2 := lh (hd1.out.trans (hb2.mono hd1.out.size)); clear hb2 hd1; have c0 := (hbx.out.2.1.below hd2.out (Nat.le_refl _)).cell 0 rfl; have z2 := (hbx.out.2.1.below hd2.out (Nat.le_refl _)).cell 2 rfl; have z3 := (hbx.out.2.1.below hd2.out (Nat.le_refl _)).cell 3 rfl; have z7 := (hbx.out.2.1.below hd2.out (Nat.le_refl _)).cell 7 rfl; cases B0 with
 | false => clear H2 H3 H4 hB1; go_wp2; go_ret; exact ⟨rfl, hbx.out.1.trans (hd2.out.mono hbx.out.1.size)⟩
 | true =>
 cases B1 with
 | false => clear H2 H3 H4 ; go_wp2; go_ret; exact ⟨rfl, hbx.out.1.trans (hd2.out.mono hbx.out.1.size)⟩
 | true =>
 go_wp2_with fail
 refine (H2.out w2).mono ?_; clear H2; rintro e wq ⟨rfl, hw⟩; obtain rfl := hw.symm; cases B2 with
 | false => clear H3 H4 ; go_wp2; go_ret; exact ⟨rfl, hbx.out.1.trans (hd2.out.mono hbx.out.1.size)⟩
 | true =>
 go_wp2_with (first
  | ((with_reducible refine wpList_load_g ?_ 30 (.tmp 1) rfl Tryz.underlying30 rfl zr rfl (hbx.out.2.1.below hd2.out (Nat.le_refl _)).all ?_); exact rfl))
 refine (H3.out w2 hd2.out).mono ?_; clear H3; rintro e w3 ⟨rfl, hb⟩; have hd3 := lh (hd2.out.trans (hb.mono hd2.out.size)); clear hb c0; cases B3 with
 | false => clear H4 ; go_wp2; go_ret; exact ⟨rfl, hbx.out.1.trans (hd3.out.mono hbx.out.1.size)⟩
 | true =>
 go_wp2_with (first
  | ((with_reducible refine wpList_load_g ?_ 30 (.tmp 1) rfl Tryz.underlying30 rfl zr rfl (hbx.out.2.1.below hd3.out (Nat.le_refl _)).all ?_); exact rfl))
 refine (H4.out w3 hd3.out).mono ?_; clear H4; rintro e w4 ⟨rfl, hb⟩; have hd4 := lh (hd3.out.trans (hb.mono hd3.out.size)); clear hb
 cases B4 <;>
  (go_wp2
   go_ret
   exact ⟨rfl, hbx.out.1.trans (hd4.out.mono hbx.out.1.size)⟩)
set_option maxRecDepth 100000 in
set_option maxHeartbeats 8000000 in
theorem mayBeN (kind lsn txn prev next nextTxn : Int) (iq sq tq dq : Option Addr) (im ic sn sc tn tc dn dc : Nat) (V : List ImgV) (r : RecD) (w : World) (h : RecV.On ⟨kind, lsn, txn, prev, next, iq, im, ic, sq, sn, sc, nextTxn, tq, tn, tc, dq, dn, dc⟩ w V r) (hh : headB r = true) (n1 : kind ≠ 1) (n2 : kind ≠ 2) (n3 : kind ≠ 3) (n4 : kind ≠ 4) (n5 : kind ≠ 5) (n6 : kind ≠ 6) (n7 : kind ≠ 7) (n8 : kind ≠ 8) (n9 : kind ≠ 9) :
 Calls Tryz.prog 35 #[.agg #[.int .i64 kind, .int .u64 lsn, .int .i64 txn, .int .u64 prev, .int .u64 next, .slice iq im ic, .slice sq sn sc, .int .i64 nextTxn, .slice tq tn tc, .slice dq dn dc]] w (fun e w' => e = .returned (.bool (mayB r)) ∧ Below w.heap.size w w') := by
 obtain ⟨W, hW⟩ : ∃ W, w.alloc (.cells #[.int .i64 kind, .int .u64 lsn, .int .i64 txn, .int .u64 prev, .int .u64 next, .slice iq im ic, .slice sq sn sc, .int .i64 nextTxn, .slice tq tn tc, .slice dq dn dc] 30) = W := ⟨_, rfl⟩; have hbx := lh (one_box hW); have o1 := lh (h.below hbx.out.1 (Nat.le_refl _)); have zr : (Tryz.prog.info? 30).map (·.size) = some ([.int .i64 kind, .int .u64 lsn, .int .i64 txn, .int .u64 prev, .int .u64 next, .slice iq im ic, .slice sq sn sc, .int .i64 nextTxn, .slice tq tn tc, .slice dq dn dc] : List Value).length := sizeRec ⟨kind, lsn, txn, prev, next, iq, im, ic, sq, sn, sc, nextTxn, tq, tn, tc, dq, dn, dc⟩; have c1 := hbx.out.2.1.cell 1 rfl; have hot := lh (others_any ⟨kind, lsn, txn, prev, next, iq, im, ic, sq, sn, sc, nextTxn, tq, tn, tc, dq, dn, dc⟩ V r W o1.out); have hl := h.lsn; simp only at hl; have hm : mayB r = false := by unfold mayB; rw [hh, kindBN (by rw [← h.kind]; exact n1) (by rw [← h.kind]; exact n2) (by rw [← h.kind]; exact n3) (by rw [← h.kind]; exact n4) (by rw [← h.kind]; exact n5) (by rw [← h.kind]; exact n6) (by rw [← h.kind]; exact n7) (by rw [← h.kind]; exact n8) (by rw [← h.kind]; exact n9)]; rfl
 rw [hm]; have m1 : (kind == 1) = false := by simpa using n1
 have m2 : (kind == 2) = false := by simpa using n2
 have m3 : (kind == 3) = false := by simpa using n3
 have m4 : (kind == 4) = false := by simpa using n4
 have m5 : (kind == 5) = false := by simpa using n5
 have m6 : (kind == 6) = false := by simpa using n6
 have m7 : (kind == 7) = false := by simpa using n7
 have m8 : (kind == 8) = false := by simpa using n8
 have m9 : (kind == 9) = false := by simpa using n9
 clear h hm n1 n2 n3 n4 n5 n6 n7 n8 n9; unfold headB at hh; rw [← hl] at hh; simp only [Bool.and_eq_true, decide_eq_true_eq] at hh; obtain ⟨h1, h2, hS⟩ := hh; have d1 : decide (lsn < 1) = false := decide_eq_false (by omega); have d2 : decide (lsn > 1099511627776) = false := decide_eq_false (by omega); clear h1 h2 hl; show Calls _ _ #[.agg #[.int .i64 kind, .int .u64 lsn, .int .i64 txn, .int .u64 prev, .int .u64 next, .slice iq im ic, .slice sq sn sc, .int .i64 nextTxn, .slice tq tn tc, .slice dq dn dc]] _ _
 go_enter Tryz.func35, Tryz.ntmps35
 go_wp2_with (first
  | ((with_reducible refine wpList_load_g ?_ 30 (.tmp 1) rfl Tryz.underlying30 rfl zr rfl hbx.out.2.1.all ?_); exact rfl))
 clear hW; refine hot.out.mono ?_; clear hot c1; rintro e w1 ⟨v', V', rfl, hon1, hb1⟩; obtain ⟨ka, la, xa, va, na, iqa, ima, ica, sqa, sna, sca, ya, tqa, tna, tca, dqa, dna, dca⟩ := v'; have hon1 := lh hon1; have hd1 := lh hb1; clear hb1; have hsm := sameRec_any _ ⟨0, 0, 0, 0, 0, none, 0, 0, none, 0, 0, 0, none, 0, 0, none, 0, 0⟩ V' [] (othersD r) zRec w1 hon1.out (zero_on w1); rw [hS] at hsm; have hsm := lh hsm; clear hS
 go_wp2_with fail
 refine hsm.out.mono ?_; clear hsm hon1; rintro e w2 ⟨rfl, hb2⟩; have hd2 := lh (hd1.out.trans (hb2.mono hd1.out.size)); clear hb2 hd1; have c0 := (hbx.out.2.1.below hd2.out (Nat.le_refl _)).cell 0 rfl; go_wp2; go_ret; exact ⟨rfl, hbx.out.1.trans (hd2.out.mono hbx.out.1.size)⟩
theorem mayBe_any (v : RecV) (V : List ImgV) (r : RecD) (w : World) (h : v.On w V r) :
 Calls Tryz.prog 35 #[v.val] w (fun e w' => e = .returned (.bool (mayB r)) ∧ Below w.heap.size w w') := by
 obtain ⟨kind, lsn, txn, prev, next, iq, im, ic, sq, sn, sc, nextTxn, tq, tn, tc, dq, dn, dc⟩ := v; cases hh : headB r with
 | false => exact mayBe_bad _ _ _ _ _ _ _ _ _ _ _ _ _ _ _ _ _ _ V r w h hh
 | true =>
   by_cases n1 : kind = 1
   · subst n1; exact mayBe1 _ _ _ _ _ _ _ _ _ _ _ _ _ _ _ _ _ V r w h hh
   by_cases n2 : kind = 2
   · subst n2; exact mayBe2 _ _ _ _ _ _ _ _ _ _ _ _ _ _ _ _ _ V r w h hh
   by_cases n3 : kind = 3
   · subst n3; exact mayBe3 _ _ _ _ _ _ _ _ _ _ _ _ _ _ _ _ _ V r w h hh
   by_cases n4 : kind = 4
   · subst n4; exact mayBe4 _ _ _ _ _ _ _ _ _ _ _ _ _ _ _ _ _ V r w h hh
   by_cases n5 : kind = 5
   · subst n5; exact mayBe5 _ _ _ _ _ _ _ _ _ _ _ _ _ _ _ _ _ V r w h hh
   by_cases n6 : kind = 6
   · subst n6; exact mayBe678 6 (.inl rfl) _ _ _ _ _ _ _ _ _ _ _ _ _ _ _ _ _ V r w h hh
   by_cases n7 : kind = 7
   · subst n7; exact mayBe678 7 (.inr (.inl rfl)) _ _ _ _ _ _ _ _ _ _ _ _ _ _ _ _ _ V r w h hh
   by_cases n8 : kind = 8
   · subst n8; exact mayBe678 8 (.inr (.inr rfl)) _ _ _ _ _ _ _ _ _ _ _ _ _ _ _ _ _ V r w h hh
   by_cases n9 : kind = 9
   · subst n9; exact mayBe9 _ _ _ _ _ _ _ _ _ _ _ _ _ _ _ _ _ V r w h hh
   exact mayBeN _ _ _ _ _ _ _ _ _ _ _ _ _ _ _ _ _ _ V r w h hh n1 n2 n3 n4 n5 n6 n7 n8 n9
end Go.Proofs.YtocekhckmpkbmaaGreat
