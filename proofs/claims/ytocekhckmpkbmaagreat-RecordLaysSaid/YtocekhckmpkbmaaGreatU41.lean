/- Parts of the proof: The document's record: which records may be (part h); The document's record: which records may be (part i); The document's record: which records may be (part j) -/
import Derived.Test.YtocekhckmpkbmaaGreatU40
import Derived.Test.YtocekhckmpkbmaaGreatU01
namespace Go.Proofs.YtocekhckmpkbmaaGreat
open Go.RowKit
set_option maxRecDepth 100000 in
set_option maxHeartbeats 8000000 in
theorem right_4 (lsn txn prev next nextTxn : Int) (iq sq tq dq : Option Addr) (im ic sn sc tn tc dn dc : Nat) (V : List ImgV) (r : RecD) (w : World) (h : RecV.On ⟨4, lsn, txn, prev, next, iq, im, ic, sq, sn, sc, nextTxn, tq, tn, tc, dq, dn, dc⟩ w V r) (hh : HeadP r) :
 Calls Tryz.prog 12 #[.agg #[.int .i64 4, .int .u64 lsn, .int .i64 txn, .int .u64 prev, .int .u64 next, .slice iq im ic, .slice sq sn sc, .int .i64 nextTxn, .slice tq tn tc, .slice dq dn dc]] w (fun e w' => e = .returned (.bool (mayB r)) ∧ Below w.heap.size w w') := by
 obtain ⟨W, hW⟩ : ∃ W, w.alloc (.cells #[.int .i64 4, .int .u64 lsn, .int .i64 txn, .int .u64 prev, .int .u64 next, .slice iq im ic, .slice sq sn sc, .int .i64 nextTxn, .slice tq tn tc, .slice dq dn dc] 30) = W := ⟨_, rfl⟩; have hbx := lh (one_box hW); have o1 := lh (h.below hbx.out.1 (Nat.le_refl _)); have r1 : Hid (4 = r.kind) := h.kind; have r2 : Hid (lsn = r.lsn) := h.lsn; have r3 : Hid (txn = r.txn) := h.txn; have r4 : Hid (prev = r.prev) := h.prev; have r5 : Hid (next = r.next) := h.next; have r6 : Hid (nextTxn = r.nextTxn) := h.nextTxn; have p4 : Hid (0 ≤ r.prev) := h.ints.2.2.2.1.1; have p5 : Hid (0 ≤ r.next) := h.ints.2.2.2.2.1.1; have l1 : Hid (r.images.length = im) := by show _ = _; have h1 := h.images.len; have h2 := h.images.on.len; simp only at h1 h2; omega
 have l2 : Hid (r.steps.length = sn) := h.steps.len; have l3 : Hid (r.txns.length = tn) := h.txns.len; have l4 : Hid (r.dirty.length = dn) := h.dirty.len
 have hfalse : Hid (¬ MayP r → mayB r = false) := fun hn => by
  cases e : mayB r with
  | false => rfl
  | true => exact absurd ((may_iff r p4.out).1 e) hn
 have htrue : Hid (MayP r → mayB r = true) := (may_iff r p4.out).2; have hiff : Hid (mayB r = true ↔ MayP r) := may_iff r p4.out; have c0 := hbx.out.2.1.cell 0 rfl; have c1 := hbx.out.2.1.cell 1 rfl; have c2 := hbx.out.2.1.cell 2 rfl; have c3 := hbx.out.2.1.cell 3 rfl; have c4 := hbx.out.2.1.cell 4 rfl; have c5 := hbx.out.2.1.cell 5 rfl; have c6 := hbx.out.2.1.cell 6 rfl; have c7 := hbx.out.2.1.cell 7 rfl; have c8 := hbx.out.2.1.cell 8 rfl; have c9 := hbx.out.2.1.cell 9 rfl; clear h; have hh' := hh; unfold HeadP at hh'; rw [← r2.out, ← r4.out] at hh'; have d1 : decide (lsn < 1) = false := decide_eq_false (by omega); have d2 : decide (1099511627776 < lsn) = false := decide_eq_false (by omega); have d3 : decide (lsn ≤ prev) = false := decide_eq_false (by omega); clear hh'; replace hh := lh hh; have H1 := lh (steps_doc sq sn sc r.steps W o1.out.steps); clear o1; show Calls _ _ #[.agg #[.int .i64 4, .int .u64 lsn, .int .i64 txn, .int .u64 prev, .int .u64 next, .slice iq im ic, .slice sq sn sc, .int .i64 nextTxn, .slice tq tn tc, .slice dq dn dc]] _ _
 go_enter Tryz.func12, Tryz.ntmps12
 by_cases t0 : txn = 0
 · have e0 : (txn == 0) = true := by simpa using t0
   replace t0 : txn ≤ 0 ∧ 0 ≤ txn := by omega
   have hno := lh (hfalse.out (fun h => by have h1 := h.2.1; unfold TxnP at h1; rw [← r1.out, ← r3.out, ← r4.out] at h1; omega)); clear hfalse htrue; go_wp2; go_ret; exact ⟨by rw [hno.out]; rfl, hbx.out.1⟩
 have e0 : (txn == 0) = false := by simpa using t0
 by_cases t1 : txn < 0
 · have e1 : decide (txn < 0) = true := decide_eq_true t1; have hno := lh (hfalse.out (fun h => by have h1 := h.2.1; unfold TxnP at h1; rw [← r1.out, ← r3.out, ← r4.out] at h1; omega)); clear hfalse htrue; go_wp2; go_ret; exact ⟨by rw [hno.out]; rfl, hbx.out.1⟩
 have e1 : decide (txn < 0) = false := decide_eq_false t1
 by_cases t2 : 1073741824 < txn
 · have e2 : decide (1073741824 < txn) = true := decide_eq_true t2; have hno := lh (hfalse.out (fun h => by have h1 := h.2.1; unfold TxnP at h1; rw [← r1.out, ← r3.out, ← r4.out] at h1; omega)); clear hfalse htrue; go_wp2; go_ret; exact ⟨by rw [hno.out]; rfl, hbx.out.1⟩
 have e2 : decide (1073741824 < txn) = false := decide_eq_false t2
 by_cases t3 : prev = 0
 · have e3 : (prev == 0) = true := by simpa using t3
   replace t3 : prev ≤ 0 ∧ 0 ≤ prev := by omega
   have hno := lh (hfalse.out (fun h => by have h1 := h.2.1; unfold TxnP at h1; rw [← r1.out, ← r3.out, ← r4.out] at h1; omega)); clear hfalse htrue; go_wp2; go_ret; exact ⟨by rw [hno.out]; rfl, hbx.out.1⟩
 have e3 : (prev == 0) = false := by simpa using t3
 by_cases t4 : nextTxn = 0
 rotate_left
 · have e4 : (nextTxn != 0) = true := by simpa using t4
   have hno := lh (hfalse.out (fun h => by have h1 := (h.2.2.1.1 (by rw [← r1.out]; decide)).1; have h2 := r6.out; omega)); clear hfalse htrue; go_wp2; go_ret; exact ⟨by rw [hno.out]; rfl, hbx.out.1⟩
 have e4 : (nextTxn != 0) = false := by simpa using t4
 replace t4 : nextTxn ≤ 0 ∧ 0 ≤ nextTxn := by omega
 by_cases t5 : (0 : Int) < (tn : Int)
 · have e5 : decide ((0 : Int) < (tn : Int)) = true := decide_eq_true t5; have hno := lh (hfalse.out (fun h => by have h1 : r.txns = [] := (h.2.2.1.1 (by rw [← r1.out]; decide)).2.1; have h2 := l3.out; rw [h1] at h2; simp only [List.length_nil] at h2; omega)); clear hfalse htrue; go_wp2; go_ret; exact ⟨by rw [hno.out]; rfl, hbx.out.1⟩
 have e5 : decide ((0 : Int) < (tn : Int)) = false := decide_eq_false t5
 by_cases t6 : (0 : Int) < (dn : Int)
 · have e6 : decide ((0 : Int) < (dn : Int)) = true := decide_eq_true t6; have hno := lh (hfalse.out (fun h => by have h1 : r.dirty = [] := (h.2.2.1.1 (by rw [← r1.out]; decide)).2.2; have h2 := l4.out; rw [h1] at h2; simp only [List.length_nil] at h2; omega)); clear hfalse htrue; go_wp2; go_ret; exact ⟨by rw [hno.out]; rfl, hbx.out.1⟩
 have e6 : decide ((0 : Int) < (dn : Int)) = false := decide_eq_false t6
 by_cases t8 : (0 : Int) < (im : Int)
 · have e8 : decide ((0 : Int) < (im : Int)) = true := decide_eq_true t8; have hno := lh (hfalse.out (fun h => by have h1 : r.images = [] := h.2.2.1.2.2 (by rw [← r1.out]; decide) (by rw [← r1.out]; decide); have h2 := l1.out; rw [h1] at h2; simp only [List.length_nil] at h2; omega)); clear hfalse htrue; go_wp2; go_ret; exact ⟨by rw [hno.out]; rfl, hbx.out.1⟩
 have e8 : decide ((0 : Int) < (im : Int)) = false := decide_eq_false t8; have hT : TxnP r := by unfold TxnP; rw [← r1.out, ← r3.out, ← r4.out]; omega
 have hR : RestP r := ⟨fun _ => ⟨by have h2 := r6.out; omega, List.length_eq_zero_iff.1 (by have h2 := l3.out; omega), List.length_eq_zero_iff.1 (by have h2 := l4.out; omega)⟩, fun h => absurd r1.out.symm h, fun _ _ => List.length_eq_zero_iff.1 (by have h2 := l1.out; omega)⟩; have hm : Hid (mayB r = true ↔ (r.next < r.prev ∧ stpsB r.steps = true)) := by show _ ↔ _; rw [hiff.out]; exact ⟨fun h => (kindP4 r1.out.symm).1 h.2.2.2, fun h => ⟨hh.out, hT, hR, (kindP4 r1.out.symm).2 h⟩⟩
 clear hT hR hiff hh
 by_cases t9 : next < prev
 rotate_left
 · have e9 : decide (next < prev) = false := decide_eq_false t9; have hno := lh (hfalse.out (fun h => by have h1 := (kindP4 r1.out.symm).1 h.2.2.2; exact t9 (by rw [r5.out, r4.out]; exact h1.1))); clear hfalse htrue; go_wp2; go_ret; exact ⟨by rw [hno.out]; rfl, hbx.out.1⟩
 have e9 : decide (next < prev) = true := decide_eq_true t9
 go_wp2_with fail
 clear hW; refine H1.out.mono ?_; clear H1; rintro e w1 ⟨rfl, hb⟩; have hE := lh (hbx.out.1.trans (hb.mono hbx.out.1.size)); clear hb; obtain ⟨x, hx⟩ : ∃ x, stpsB r.steps = x := ⟨_, rfl⟩; rw [hx]; replace hx := lh hx; cases x with
 | false => have hno := lh (hfalse.out (fun h => by have h1 := (kindP4 r1.out.symm).1 h.2.2.2; have h3 := h1.2; rw [hx.out] at h3; cases h3)); clear hm hfalse htrue; go_wp2; go_ret; exact ⟨by rw [hno.out]; rfl, hE.out⟩
 | true => have hyes := lh (hm.out.2 ⟨by rw [← r5.out, ← r4.out]; exact t9, hx.out⟩); clear hm hfalse htrue; go_wp2; go_ret; exact ⟨by rw [hyes.out]; rfl, hE.out⟩
set_option maxRecDepth 100000 in
set_option maxHeartbeats 8000000 in
theorem right_5 (lsn txn prev next nextTxn : Int) (iq sq tq dq : Option Addr) (im ic sn sc tn tc dn dc : Nat) (V : List ImgV) (r : RecD) (w : World) (h : RecV.On ⟨5, lsn, txn, prev, next, iq, im, ic, sq, sn, sc, nextTxn, tq, tn, tc, dq, dn, dc⟩ w V r) (hh : HeadP r) :
 Calls Tryz.prog 12 #[.agg #[.int .i64 5, .int .u64 lsn, .int .i64 txn, .int .u64 prev, .int .u64 next, .slice iq im ic, .slice sq sn sc, .int .i64 nextTxn, .slice tq tn tc, .slice dq dn dc]] w (fun e w' => e = .returned (.bool (mayB r)) ∧ Below w.heap.size w w') := by
 obtain ⟨W, hW⟩ : ∃ W, w.alloc (.cells #[.int .i64 5, .int .u64 lsn, .int .i64 txn, .int .u64 prev, .int .u64 next, .slice iq im ic, .slice sq sn sc, .int .i64 nextTxn, .slice tq tn tc, .slice dq dn dc] 30) = W := ⟨_, rfl⟩; have hbx := lh (one_box hW); have o1 := lh (h.below hbx.out.1 (Nat.le_refl _)); have r1 : Hid (5 = r.kind) := h.kind; have r2 : Hid (lsn = r.lsn) := h.lsn; have r3 : Hid (txn = r.txn) := h.txn; have r4 : Hid (prev = r.prev) := h.prev; have r5 : Hid (next = r.next) := h.next; have r6 : Hid (nextTxn = r.nextTxn) := h.nextTxn; have p4 : Hid (0 ≤ r.prev) := h.ints.2.2.2.1.1; have p5 : Hid (0 ≤ r.next) := h.ints.2.2.2.2.1.1; have l1 : Hid (r.images.length = im) := by show _ = _; have h1 := h.images.len; have h2 := h.images.on.len; simp only at h1 h2; omega
 have l2 : Hid (r.steps.length = sn) := h.steps.len; have l3 : Hid (r.txns.length = tn) := h.txns.len; have l4 : Hid (r.dirty.length = dn) := h.dirty.len
 have hfalse : Hid (¬ MayP r → mayB r = false) := fun hn => by
  cases e : mayB r with
  | false => rfl
  | true => exact absurd ((may_iff r p4.out).1 e) hn
 have htrue : Hid (MayP r → mayB r = true) := (may_iff r p4.out).2; have hiff : Hid (mayB r = true ↔ MayP r) := may_iff r p4.out; have c0 := hbx.out.2.1.cell 0 rfl; have c1 := hbx.out.2.1.cell 1 rfl; have c2 := hbx.out.2.1.cell 2 rfl; have c3 := hbx.out.2.1.cell 3 rfl; have c4 := hbx.out.2.1.cell 4 rfl; have c5 := hbx.out.2.1.cell 5 rfl; have c6 := hbx.out.2.1.cell 6 rfl; have c7 := hbx.out.2.1.cell 7 rfl; have c8 := hbx.out.2.1.cell 8 rfl; have c9 := hbx.out.2.1.cell 9 rfl; clear h; have hh' := hh; unfold HeadP at hh'; rw [← r2.out, ← r4.out] at hh'; have d1 : decide (lsn < 1) = false := decide_eq_false (by omega); have d2 : decide (1099511627776 < lsn) = false := decide_eq_false (by omega); have d3 : decide (lsn ≤ prev) = false := decide_eq_false (by omega); clear hh'; replace hh := lh hh; have H1 := images_doc iq im ic V r.images false W o1.out.images; replace H1 := lh H1; clear o1; show Calls _ _ #[.agg #[.int .i64 5, .int .u64 lsn, .int .i64 txn, .int .u64 prev, .int .u64 next, .slice iq im ic, .slice sq sn sc, .int .i64 nextTxn, .slice tq tn tc, .slice dq dn dc]] _ _
 go_enter Tryz.func12, Tryz.ntmps12
 by_cases t0 : txn = 0
 · have e0 : (txn == 0) = true := by simpa using t0
   replace t0 : txn ≤ 0 ∧ 0 ≤ txn := by omega
   have hno := lh (hfalse.out (fun h => by have h1 := h.2.1; unfold TxnP at h1; rw [← r1.out, ← r3.out, ← r4.out] at h1; omega)); clear hfalse htrue; go_wp2; go_ret; exact ⟨by rw [hno.out]; rfl, hbx.out.1⟩
 have e0 : (txn == 0) = false := by simpa using t0
 by_cases t1 : txn < 0
 · have e1 : decide (txn < 0) = true := decide_eq_true t1; have hno := lh (hfalse.out (fun h => by have h1 := h.2.1; unfold TxnP at h1; rw [← r1.out, ← r3.out, ← r4.out] at h1; omega)); clear hfalse htrue; go_wp2; go_ret; exact ⟨by rw [hno.out]; rfl, hbx.out.1⟩
 have e1 : decide (txn < 0) = false := decide_eq_false t1
 by_cases t2 : 1073741824 < txn
 · have e2 : decide (1073741824 < txn) = true := decide_eq_true t2; have hno := lh (hfalse.out (fun h => by have h1 := h.2.1; unfold TxnP at h1; rw [← r1.out, ← r3.out, ← r4.out] at h1; omega)); clear hfalse htrue; go_wp2; go_ret; exact ⟨by rw [hno.out]; rfl, hbx.out.1⟩
 have e2 : decide (1073741824 < txn) = false := decide_eq_false t2
 by_cases t3 : prev = 0
 · have e3 : (prev == 0) = true := by simpa using t3
   replace t3 : prev ≤ 0 ∧ 0 ≤ prev := by omega
   have hno := lh (hfalse.out (fun h => by have h1 := h.2.1; unfold TxnP at h1; rw [← r1.out, ← r3.out, ← r4.out] at h1; omega)); clear hfalse htrue; go_wp2; go_ret; exact ⟨by rw [hno.out]; rfl, hbx.out.1⟩
 have e3 : (prev == 0) = false := by simpa using t3
 by_cases t4 : nextTxn = 0
 rotate_left
 · have e4 : (nextTxn != 0) = true := by simpa using t4
   have hno := lh (hfalse.out (fun h => by have h1 := (h.2.2.1.1 (by rw [← r1.out]; decide)).1; have h2 := r6.out; omega)); clear hfalse htrue; go_wp2; go_ret; exact ⟨by rw [hno.out]; rfl, hbx.out.1⟩
 have e4 : (nextTxn != 0) = false := by simpa using t4
 replace t4 : nextTxn ≤ 0 ∧ 0 ≤ nextTxn := by omega
 by_cases t5 : (0 : Int) < (tn : Int)
 · have e5 : decide ((0 : Int) < (tn : Int)) = true := decide_eq_true t5; have hno := lh (hfalse.out (fun h => by have h1 : r.txns = [] := (h.2.2.1.1 (by rw [← r1.out]; decide)).2.1; have h2 := l3.out; rw [h1] at h2; simp only [List.length_nil] at h2; omega)); clear hfalse htrue; go_wp2; go_ret; exact ⟨by rw [hno.out]; rfl, hbx.out.1⟩
 have e5 : decide ((0 : Int) < (tn : Int)) = false := decide_eq_false t5
 by_cases t6 : (0 : Int) < (dn : Int)
 · have e6 : decide ((0 : Int) < (dn : Int)) = true := decide_eq_true t6; have hno := lh (hfalse.out (fun h => by have h1 : r.dirty = [] := (h.2.2.1.1 (by rw [← r1.out]; decide)).2.2; have h2 := l4.out; rw [h1] at h2; simp only [List.length_nil] at h2; omega)); clear hfalse htrue; go_wp2; go_ret; exact ⟨by rw [hno.out]; rfl, hbx.out.1⟩
 have e6 : decide ((0 : Int) < (dn : Int)) = false := decide_eq_false t6
 by_cases t7 : (0 : Int) < (sn : Int)
 · have e7 : decide ((0 : Int) < (sn : Int)) = true := decide_eq_true t7; have hno := lh (hfalse.out (fun h => by have h1 : r.steps = [] := h.2.2.1.2.1 (by rw [← r1.out]; decide); have h2 := l2.out; rw [h1] at h2; simp only [List.length_nil] at h2; omega)); clear hfalse htrue; go_wp2; go_ret; exact ⟨by rw [hno.out]; rfl, hbx.out.1⟩
 have e7 : decide ((0 : Int) < (sn : Int)) = false := decide_eq_false t7; have hT : TxnP r := by unfold TxnP; rw [← r1.out, ← r3.out, ← r4.out]; omega
 have hR : RestP r := ⟨fun _ => ⟨by have h2 := r6.out; omega, List.length_eq_zero_iff.1 (by have h2 := l3.out; omega), List.length_eq_zero_iff.1 (by have h2 := l4.out; omega)⟩, fun _ => List.length_eq_zero_iff.1 (by have h2 := l2.out; omega), fun _ h => absurd r1.out.symm h⟩; have hm : Hid (mayB r = true ↔ (r.next < r.lsn ∧ imgsD false r.images)) := by show _ ↔ _; rw [hiff.out]; exact ⟨fun h => (kindP5 r1.out.symm).1 h.2.2.2, fun h => ⟨hh.out, hT, hR, (kindP5 r1.out.symm).2 h⟩⟩
 clear hT hR hiff hh
 by_cases t9 : next < lsn
 rotate_left
 · have e9 : decide (next < lsn) = false := decide_eq_false t9; have hno := lh (hfalse.out (fun h => by have h1 := (kindP5 r1.out.symm).1 h.2.2.2; exact t9 (by rw [r5.out, r2.out]; exact h1.1))); clear hfalse htrue; go_wp2; go_ret; exact ⟨by rw [hno.out]; rfl, hbx.out.1⟩
 have e9 : decide (next < lsn) = true := decide_eq_true t9; have p8 : (0 : Int) ≤ (im : Int) := by omega
 go_wp2_with fail
 clear hW; refine H1.out.mono ?_; clear H1; rintro e w1 ⟨x, rfl, hx, hb⟩; have hE := lh (hbx.out.1.trans (hb.mono hbx.out.1.size)); clear hb; have hx := lh hx; cases x with
 | false => have hno := lh (hfalse.out (fun h => by have h1 := (kindP5 r1.out.symm).1 h.2.2.2; have h3 := hx.out.2 (h1.2); cases h3)); clear hm hfalse htrue; go_wp2; go_ret; exact ⟨by rw [hno.out]; rfl, hE.out⟩
 | true => have hyes := lh (hm.out.2 ⟨by rw [← r5.out, ← r2.out]; exact t9, hx.out.1 rfl⟩); clear hm hfalse htrue; go_wp2; go_ret; exact ⟨by rw [hyes.out]; rfl, hE.out⟩
theorem kindP678 {r : RecD} {K : Int} (hK : K = 6 ∨ K = 7 ∨ K = 8) (h : r.kind = K) : KindP r ↔ (r.next = 0) := by
 rcases hK with rfl | rfl | rfl
 · exact kindP6 h
 · exact kindP7 h
 · exact kindP8 h
set_option maxRecDepth 100000 in
set_option maxHeartbeats 24000000 in
theorem right_678 (K : Int) (hK : K = 6 ∨ K = 7 ∨ K = 8) (lsn txn prev next nextTxn : Int) (iq sq tq dq : Option Addr) (im ic sn sc tn tc dn dc : Nat) (V : List ImgV) (r : RecD) (w : World) (h : RecV.On ⟨K, lsn, txn, prev, next, iq, im, ic, sq, sn, sc, nextTxn, tq, tn, tc, dq, dn, dc⟩ w V r) (hh : HeadP r) :
 Calls Tryz.prog 12 #[.agg #[.int .i64 K, .int .u64 lsn, .int .i64 txn, .int .u64 prev, .int .u64 next, .slice iq im ic, .slice sq sn sc, .int .i64 nextTxn, .slice tq tn tc, .slice dq dn dc]] w (fun e w' => e = .returned (.bool (mayB r)) ∧ Below w.heap.size w w') := by
 obtain ⟨W, hW⟩ : ∃ W, w.alloc (.cells #[.int .i64 K, .int .u64 lsn, .int .i64 txn, .int .u64 prev, .int .u64 next, .slice iq im ic, .slice sq sn sc, .int .i64 nextTxn, .slice tq tn tc, .slice dq dn dc] 30) = W := ⟨_, rfl⟩; have hbx := lh (one_box hW); have o1 := lh (h.below hbx.out.1 (Nat.le_refl _)); have r1 : Hid (K = r.kind) := h.kind; have hkp := lh (kindP678 hK r1.out.symm); have r2 : Hid (lsn = r.lsn) := h.lsn; have r3 : Hid (txn = r.txn) := h.txn; have r4 : Hid (prev = r.prev) := h.prev; have r5 : Hid (next = r.next) := h.next; have r6 : Hid (nextTxn = r.nextTxn) := h.nextTxn; have p4 : Hid (0 ≤ r.prev) := h.ints.2.2.2.1.1; have p5 : Hid (0 ≤ r.next) := h.ints.2.2.2.2.1.1; have l1 : Hid (r.images.length = im) := by show _ = _; have h1 := h.images.len; have h2 := h.images.on.len; simp only at h1 h2; omega
 have l2 : Hid (r.steps.length = sn) := h.steps.len; have l3 : Hid (r.txns.length = tn) := h.txns.len; have l4 : Hid (r.dirty.length = dn) := h.dirty.len
 have hfalse : Hid (¬ MayP r → mayB r = false) := fun hn => by
  cases e : mayB r with
  | false => rfl
  | true => exact absurd ((may_iff r p4.out).1 e) hn
 have htrue : Hid (MayP r → mayB r = true) := (may_iff r p4.out).2; have hiff : Hid (mayB r = true ↔ MayP r) := may_iff r p4.out; have c0 := hbx.out.2.1.cell 0 rfl; have c1 := hbx.out.2.1.cell 1 rfl; have c2 := hbx.out.2.1.cell 2 rfl; have c3 := hbx.out.2.1.cell 3 rfl; have c4 := hbx.out.2.1.cell 4 rfl; have c5 := hbx.out.2.1.cell 5 rfl; have c6 := hbx.out.2.1.cell 6 rfl; have c7 := hbx.out.2.1.cell 7 rfl; have c8 := hbx.out.2.1.cell 8 rfl; have c9 := hbx.out.2.1.cell 9 rfl; clear h; have hh' := hh; unfold HeadP at hh'; rw [← r2.out, ← r4.out] at hh'; have d1 : decide (lsn < 1) = false := decide_eq_false (by omega); have d2 : decide (1099511627776 < lsn) = false := decide_eq_false (by omega); have d3 : decide (lsn ≤ prev) = false := decide_eq_false (by omega); clear hh'; replace hh := lh hh; clear o1; show Calls _ _ #[.agg #[.int .i64 K, .int .u64 lsn, .int .i64 txn, .int .u64 prev, .int .u64 next, .slice iq im ic, .slice sq sn sc, .int .i64 nextTxn, .slice tq tn tc, .slice dq dn dc]] _ _
 rcases hK with rfl | rfl | rfl
 all_goals
  go_enter Tryz.func12, Tryz.ntmps12
  by_cases t0 : txn = 0
  · have e0 : (txn == 0) = true := by simpa using t0
    replace t0 : txn ≤ 0 ∧ 0 ≤ txn := by omega
    have hno := lh (hfalse.out (fun h => by have h1 := h.2.1; unfold TxnP at h1; rw [← r1.out, ← r3.out, ← r4.out] at h1; omega)); clear hfalse htrue; go_wp2; go_ret; exact ⟨by rw [hno.out]; rfl, hbx.out.1⟩
  have e0 : (txn == 0) = false := by simpa using t0
  by_cases t1 : txn < 0
  · have e1 : decide (txn < 0) = true := decide_eq_true t1; have hno := lh (hfalse.out (fun h => by have h1 := h.2.1; unfold TxnP at h1; rw [← r1.out, ← r3.out, ← r4.out] at h1; omega)); clear hfalse htrue; go_wp2; go_ret; exact ⟨by rw [hno.out]; rfl, hbx.out.1⟩
  have e1 : decide (txn < 0) = false := decide_eq_false t1
  by_cases t2 : 1073741824 < txn
  · have e2 : decide (1073741824 < txn) = true := decide_eq_true t2; have hno := lh (hfalse.out (fun h => by have h1 := h.2.1; unfold TxnP at h1; rw [← r1.out, ← r3.out, ← r4.out] at h1; omega)); clear hfalse htrue; go_wp2; go_ret; exact ⟨by rw [hno.out]; rfl, hbx.out.1⟩
  have e2 : decide (1073741824 < txn) = false := decide_eq_false t2
  by_cases t3 : prev = 0
  · have e3 : (prev == 0) = true := by simpa using t3
    replace t3 : prev ≤ 0 ∧ 0 ≤ prev := by omega
    have hno := lh (hfalse.out (fun h => by have h1 := h.2.1; unfold TxnP at h1; rw [← r1.out, ← r3.out, ← r4.out] at h1; omega)); clear hfalse htrue; go_wp2; go_ret; exact ⟨by rw [hno.out]; rfl, hbx.out.1⟩
  have e3 : (prev == 0) = false := by simpa using t3
  by_cases t4 : nextTxn = 0
  rotate_left
  · have e4 : (nextTxn != 0) = true := by simpa using t4
    have hno := lh (hfalse.out (fun h => by have h1 := (h.2.2.1.1 (by rw [← r1.out]; decide)).1; have h2 := r6.out; omega)); clear hfalse htrue; go_wp2; go_ret; exact ⟨by rw [hno.out]; rfl, hbx.out.1⟩
  have e4 : (nextTxn != 0) = false := by simpa using t4
  replace t4 : nextTxn ≤ 0 ∧ 0 ≤ nextTxn := by omega
  by_cases t5 : (0 : Int) < (tn : Int)
  · have e5 : decide ((0 : Int) < (tn : Int)) = true := decide_eq_true t5; have hno := lh (hfalse.out (fun h => by have h1 : r.txns = [] := (h.2.2.1.1 (by rw [← r1.out]; decide)).2.1; have h2 := l3.out; rw [h1] at h2; simp only [List.length_nil] at h2; omega)); clear hfalse htrue; go_wp2; go_ret; exact ⟨by rw [hno.out]; rfl, hbx.out.1⟩
  have e5 : decide ((0 : Int) < (tn : Int)) = false := decide_eq_false t5
  by_cases t6 : (0 : Int) < (dn : Int)
  · have e6 : decide ((0 : Int) < (dn : Int)) = true := decide_eq_true t6; have hno := lh (hfalse.out (fun h => by have h1 : r.dirty = [] := (h.2.2.1.1 (by rw [← r1.out]; decide)).2.2; have h2 := l4.out; rw [h1] at h2; simp only [List.length_nil] at h2; omega)); clear hfalse htrue; go_wp2; go_ret; exact ⟨by rw [hno.out]; rfl, hbx.out.1⟩
  have e6 : decide ((0 : Int) < (dn : Int)) = false := decide_eq_false t6
  by_cases t7 : (0 : Int) < (sn : Int)
  · have e7 : decide ((0 : Int) < (sn : Int)) = true := decide_eq_true t7; have hno := lh (hfalse.out (fun h => by have h1 : r.steps = [] := h.2.2.1.2.1 (by rw [← r1.out]; decide); have h2 := l2.out; rw [h1] at h2; simp only [List.length_nil] at h2; omega)); clear hfalse htrue; go_wp2; go_ret; exact ⟨by rw [hno.out]; rfl, hbx.out.1⟩
  have e7 : decide ((0 : Int) < (sn : Int)) = false := decide_eq_false t7
  by_cases t8 : (0 : Int) < (im : Int)
  · have e8 : decide ((0 : Int) < (im : Int)) = true := decide_eq_true t8; have hno := lh (hfalse.out (fun h => by have h1 : r.images = [] := h.2.2.1.2.2 (by rw [← r1.out]; decide) (by rw [← r1.out]; decide); have h2 := l1.out; rw [h1] at h2; simp only [List.length_nil] at h2; omega)); clear hfalse htrue; go_wp2; go_ret; exact ⟨by rw [hno.out]; rfl, hbx.out.1⟩
  have e8 : decide ((0 : Int) < (im : Int)) = false := decide_eq_false t8; have hT : TxnP r := by unfold TxnP; rw [← r1.out, ← r3.out, ← r4.out]; omega
  have hR : RestP r := ⟨fun _ => ⟨by have h2 := r6.out; omega, List.length_eq_zero_iff.1 (by have h2 := l3.out; omega), List.length_eq_zero_iff.1 (by have h2 := l4.out; omega)⟩, fun _ => List.length_eq_zero_iff.1 (by have h2 := l2.out; omega), fun _ _ => List.length_eq_zero_iff.1 (by have h2 := l1.out; omega)⟩; have hm : Hid (mayB r = true ↔ (r.next = 0)) := by show _ ↔ _; rw [hiff.out]; exact ⟨fun h => hkp.out.1 h.2.2.2, fun h => ⟨hh.out, hT, hR, hkp.out.2 h⟩⟩
  clear hT hR hiff hh
  by_cases t9 : next = 0
  rotate_left
  · have e9 : (next == 0) = false := by simpa using t9
    have hno := lh (hfalse.out (fun h => by have h1 := hkp.out.1 h.2.2.2; have h2 := r5.out; omega)); clear hfalse htrue; go_wp2; go_ret; exact ⟨by rw [hno.out]; rfl, hbx.out.1⟩
  have e9 : (next == 0) = true := by simpa using t9
  replace t9 : next ≤ 0 ∧ 0 ≤ next := by omega
  have hyes := lh (hm.out.2 (by have h2 := r5.out; omega)); clear hm hfalse htrue; go_wp2; go_ret; exact ⟨by rw [hyes.out]; rfl, hbx.out.1⟩
end Go.Proofs.YtocekhckmpkbmaaGreat
namespace Go.Proofs.YtocekhckmpkbmaaGreat
open Go.RowKit
set_option maxRecDepth 100000 in
set_option maxHeartbeats 8000000 in
theorem right_9 (lsn txn prev next nextTxn : Int) (iq sq tq dq : Option Addr) (im ic sn sc tn tc dn dc : Nat) (V : List ImgV) (r : RecD) (w : World) (h : RecV.On ⟨9, lsn, txn, prev, next, iq, im, ic, sq, sn, sc, nextTxn, tq, tn, tc, dq, dn, dc⟩ w V r) (hh : HeadP r) :
 Calls Tryz.prog 12 #[.agg #[.int .i64 9, .int .u64 lsn, .int .i64 txn, .int .u64 prev, .int .u64 next, .slice iq im ic, .slice sq sn sc, .int .i64 nextTxn, .slice tq tn tc, .slice dq dn dc]] w (fun e w' => e = .returned (.bool (mayB r)) ∧ Below w.heap.size w w') := by
 obtain ⟨W, hW⟩ : ∃ W, w.alloc (.cells #[.int .i64 9, .int .u64 lsn, .int .i64 txn, .int .u64 prev, .int .u64 next, .slice iq im ic, .slice sq sn sc, .int .i64 nextTxn, .slice tq tn tc, .slice dq dn dc] 30) = W := ⟨_, rfl⟩; have hbx := lh (one_box hW); have o1 := lh (h.below hbx.out.1 (Nat.le_refl _)); have r1 : Hid (9 = r.kind) := h.kind; have r2 : Hid (lsn = r.lsn) := h.lsn; have r3 : Hid (txn = r.txn) := h.txn; have r4 : Hid (prev = r.prev) := h.prev; have r5 : Hid (next = r.next) := h.next; have r6 : Hid (nextTxn = r.nextTxn) := h.nextTxn; have p4 : Hid (0 ≤ r.prev) := h.ints.2.2.2.1.1; have p5 : Hid (0 ≤ r.next) := h.ints.2.2.2.2.1.1; have l1 : Hid (r.images.length = im) := by show _ = _; have h1 := h.images.len; have h2 := h.images.on.len; simp only at h1 h2; omega
 have l2 : Hid (r.steps.length = sn) := h.steps.len; have l3 : Hid (r.txns.length = tn) := h.txns.len; have l4 : Hid (r.dirty.length = dn) := h.dirty.len
 have hfalse : Hid (¬ MayP r → mayB r = false) := fun hn => by
  cases e : mayB r with
  | false => rfl
  | true => exact absurd ((may_iff r p4.out).1 e) hn
 have htrue : Hid (MayP r → mayB r = true) := (may_iff r p4.out).2; have hiff : Hid (mayB r = true ↔ MayP r) := may_iff r p4.out; have c0 := hbx.out.2.1.cell 0 rfl; have c1 := hbx.out.2.1.cell 1 rfl; have c2 := hbx.out.2.1.cell 2 rfl; have c3 := hbx.out.2.1.cell 3 rfl; have c4 := hbx.out.2.1.cell 4 rfl; have c5 := hbx.out.2.1.cell 5 rfl; have c6 := hbx.out.2.1.cell 6 rfl; have c7 := hbx.out.2.1.cell 7 rfl; have c8 := hbx.out.2.1.cell 8 rfl; have c9 := hbx.out.2.1.cell 9 rfl; clear h; have hh' := hh; unfold HeadP at hh'; rw [← r2.out, ← r4.out] at hh'; have d1 : decide (lsn < 1) = false := decide_eq_false (by omega); have d2 : decide (1099511627776 < lsn) = false := decide_eq_false (by omega); have d3 : decide (lsn ≤ prev) = false := decide_eq_false (by omega); clear hh'; replace hh := lh hh; have H1 := txns_doc tq tn tc r.txns lsn nextTxn W o1.out.txns; have H2 := lh (fun u (hu : Below W.heap.size W u) => dirty_doc dq dn dc r.dirty lsn u (o1.out.dirty.below hu (Nat.le_refl _)))
 obtain ⟨BT, hBT⟩ : ∃ x, (decide (r.txns.length ≤ 8) && txF lsn nextTxn 0 r.txns) = x := ⟨_, rfl⟩; obtain ⟨BD, hBD⟩ : ∃ x, (r.dirty.all (pgB lsn) && riseF (-1) (r.dirty.map (·.page))) = x := ⟨_, rfl⟩; rw [hBT] at H1; simp only [hBD] at H2; replace H1 := lh H1; have qT : Hid (txnsB r = BT) := by show _ = _; unfold txnsB; rw [← r2.out, ← r6.out]; exact hBT
 have qD : Hid (dirtyB r = BD) := by show _ = _; unfold dirtyB; rw [← r2.out]; exact hBD
 clear hBT hBD; clear o1; show Calls _ _ #[.agg #[.int .i64 9, .int .u64 lsn, .int .i64 txn, .int .u64 prev, .int .u64 next, .slice iq im ic, .slice sq sn sc, .int .i64 nextTxn, .slice tq tn tc, .slice dq dn dc]] _ _
 go_enter Tryz.func12, Tryz.ntmps12
 by_cases t0 : txn = 0
 rotate_left
 · have e0 : (txn == 0) = false := by simpa using t0
   have hno := lh (hfalse.out (fun h => by have h1 := h.2.1; unfold TxnP at h1; rw [← r1.out, ← r3.out, ← r4.out] at h1; omega)); clear hfalse htrue; go_wp2; go_ret; exact ⟨by rw [hno.out]; rfl, hbx.out.1⟩
 have e0 : (txn == 0) = true := by simpa using t0
 replace t0 : txn ≤ 0 ∧ 0 ≤ txn := by omega
 have e1 : decide (txn < 0) = false := decide_eq_false (by omega); have e2 : decide (1073741824 < txn) = false := decide_eq_false (by omega)
 by_cases t3 : prev = 0
 rotate_left
 · have e3 : (prev == 0) = false := by simpa using t3
   have hno := lh (hfalse.out (fun h => by have h1 := h.2.1; unfold TxnP at h1; rw [← r1.out, ← r3.out, ← r4.out] at h1; omega)); clear hfalse htrue; go_wp2; go_ret; exact ⟨by rw [hno.out]; rfl, hbx.out.1⟩
 have e3 : (prev == 0) = true := by simpa using t3
 replace t3 : prev ≤ 0 ∧ 0 ≤ prev := by omega
 by_cases t7 : (0 : Int) < (sn : Int)
 · have e7 : decide ((0 : Int) < (sn : Int)) = true := decide_eq_true t7; have hno := lh (hfalse.out (fun h => by have h1 : r.steps = [] := h.2.2.1.2.1 (by rw [← r1.out]; decide); have h2 := l2.out; rw [h1] at h2; simp only [List.length_nil] at h2; omega)); clear hfalse htrue; go_wp2; go_ret; exact ⟨by rw [hno.out]; rfl, hbx.out.1⟩
 have e7 : decide ((0 : Int) < (sn : Int)) = false := decide_eq_false t7
 by_cases t8 : (0 : Int) < (im : Int)
 · have e8 : decide ((0 : Int) < (im : Int)) = true := decide_eq_true t8; have hno := lh (hfalse.out (fun h => by have h1 : r.images = [] := h.2.2.1.2.2 (by rw [← r1.out]; decide) (by rw [← r1.out]; decide); have h2 := l1.out; rw [h1] at h2; simp only [List.length_nil] at h2; omega)); clear hfalse htrue; go_wp2; go_ret; exact ⟨by rw [hno.out]; rfl, hbx.out.1⟩
 have e8 : decide ((0 : Int) < (im : Int)) = false := decide_eq_false t8; have hT : TxnP r := by unfold TxnP; rw [← r1.out, ← r3.out, ← r4.out]; omega
 have hR : RestP r := ⟨fun h => absurd r1.out.symm h, fun _ => List.length_eq_zero_iff.1 (by have h2 := l2.out; omega), fun _ _ => List.length_eq_zero_iff.1 (by have h2 := l1.out; omega)⟩; have hm : Hid (mayB r = true ↔ (r.next = 0 ∧ 1 ≤ r.nextTxn ∧ r.nextTxn ≤ 1073741824 ∧ txnsB r = true ∧ dirtyB r = true)) := by show _ ↔ _; rw [hiff.out]; exact ⟨fun h => (kindP9 r1.out.symm).1 h.2.2.2, fun h => ⟨hh.out, hT, hR, (kindP9 r1.out.symm).2 h⟩⟩
 clear hT hR hiff hh
 by_cases t9 : next = 0
 rotate_left
 · have e9 : (next == 0) = false := by simpa using t9
   have hno := lh (hfalse.out (fun h => by have h1 := (kindP9 r1.out.symm).1 h.2.2.2; have h2 := h1.1; have h3 := r5.out; omega)); clear hfalse htrue; go_wp2; go_ret; exact ⟨by rw [hno.out]; rfl, hbx.out.1⟩
 have e9 : (next == 0) = true := by simpa using t9
 replace t9 : next ≤ 0 ∧ 0 ≤ next := by omega
 by_cases ta : 1 ≤ nextTxn
 rotate_left
 · have ea : decide (1 ≤ nextTxn) = false := decide_eq_false ta; have hno := lh (hfalse.out (fun h => by have h1 := (kindP9 r1.out.symm).1 h.2.2.2; exact ta (by rw [r6.out]; exact h1.2.1))); clear hfalse htrue; go_wp2; go_ret; exact ⟨by rw [hno.out]; rfl, hbx.out.1⟩
 have ea : decide (1 ≤ nextTxn) = true := decide_eq_true ta
 by_cases tb : nextTxn ≤ 1073741824
 rotate_left
 · have eb : decide (nextTxn ≤ 1073741824) = false := decide_eq_false tb; have hno := lh (hfalse.out (fun h => by have h1 := (kindP9 r1.out.symm).1 h.2.2.2; exact tb (by rw [r6.out]; exact h1.2.2.1))); clear hfalse htrue; go_wp2; go_ret; exact ⟨by rw [hno.out]; rfl, hbx.out.1⟩
 have eb : decide (nextTxn ≤ 1073741824) = true := decide_eq_true tb
 go_wp2_with fail
 clear hW; refine H1.out.mono ?_; clear H1; rintro e w1 ⟨rfl, hb⟩; have hE1 := lh hb; clear hb; have hE := lh (hbx.out.1.trans (hE1.out.mono hbx.out.1.size)); cases BT with
 | false => have hno := lh (hfalse.out (fun h => by have h1 := (kindP9 r1.out.symm).1 h.2.2.2; have h3 := h1.2.2.2.1; rw [qT.out] at h3; cases h3)); clear hm hfalse htrue; go_wp2; go_ret; exact ⟨by rw [hno.out]; rfl, hE.out⟩
 | true =>
   have f1 := (hbx.out.2.1.below hE1.out (Nat.le_refl _)).cell 1 rfl; have f9 := (hbx.out.2.1.below hE1.out (Nat.le_refl _)).cell 9 rfl
   go_wp2_with fail
   refine (H2.out w1 hE1.out).mono ?_; clear H2; rintro e w2 ⟨rfl, hb⟩; have hE2 := lh (hE.out.trans (hb.mono hE.out.size)); clear hb; cases BD with
   | false => have hno := lh (hfalse.out (fun h => by have h1 := (kindP9 r1.out.symm).1 h.2.2.2; have h3 := h1.2.2.2.2; rw [qD.out] at h3; cases h3)); clear hm hfalse htrue; go_wp2; go_ret; exact ⟨by rw [hno.out]; rfl, hE2.out⟩
   | true => have hyes := lh (hm.out.2 ⟨by have h2 := r5.out; omega, by rw [← r6.out]; exact ta, by rw [← r6.out]; exact tb, qT.out, qD.out⟩); clear hm hfalse htrue; go_wp2; go_ret; exact ⟨by rw [hyes.out]; rfl, hE2.out⟩
end Go.Proofs.YtocekhckmpkbmaaGreat
namespace Go.Proofs.YtocekhckmpkbmaaGreat
open Go.RowKit
theorem right12_doc (v : RecV) (V : List ImgV) (r : RecD) (w : World) (h : v.On w V r) :
 Calls Tryz.prog 12 #[v.val] w (fun e w' => e = .returned (.bool (mayB r)) ∧ Below w.heap.size w w') := by
 obtain ⟨kind, lsn, txn, prev, next, iq, im, ic, sq, sn, sc, nextTxn, tq, tn, tc, dq, dn, dc⟩ := v
 by_cases hh : HeadP r
 rotate_left
 · exact right_bad kind lsn txn prev next nextTxn iq sq tq dq im ic sn sc tn tc dn dc V r w h hh
 have hk : 1 ≤ kind ∧ kind ≤ 9 := by rw [show kind = r.kind from h.kind]; exact ⟨hh.2.2.2.1, hh.2.2.2.2⟩
 have hc : kind = 1 ∨ kind = 2 ∨ kind = 3 ∨ kind = 4 ∨ kind = 5 ∨ kind = 6 ∨ kind = 7 ∨ kind = 8 ∨ kind = 9 := by omega
 rcases hc with rfl | rfl | rfl | rfl | rfl | rfl | rfl | rfl | rfl
 · exact right_1 lsn txn prev next nextTxn iq sq tq dq im ic sn sc tn tc dn dc V r w h hh
 · exact right_2 lsn txn prev next nextTxn iq sq tq dq im ic sn sc tn tc dn dc V r w h hh
 · exact right_3 lsn txn prev next nextTxn iq sq tq dq im ic sn sc tn tc dn dc V r w h hh
 · exact right_4 lsn txn prev next nextTxn iq sq tq dq im ic sn sc tn tc dn dc V r w h hh
 · exact right_5 lsn txn prev next nextTxn iq sq tq dq im ic sn sc tn tc dn dc V r w h hh
 · exact right_678 6 (.inl rfl) lsn txn prev next nextTxn iq sq tq dq im ic sn sc tn tc dn dc V r w h hh
 · exact right_678 7 (.inr (.inl rfl)) lsn txn prev next nextTxn iq sq tq dq im ic sn sc tn tc dn dc V r w h hh
 · exact right_678 8 (.inr (.inr rfl)) lsn txn prev next nextTxn iq sq tq dq im ic sn sc tn tc dn dc V r w h hh
 · exact right_9 lsn txn prev next nextTxn iq sq tq dq im ic sn sc tn tc dn dc V r w h hh
end Go.Proofs.YtocekhckmpkbmaaGreat
