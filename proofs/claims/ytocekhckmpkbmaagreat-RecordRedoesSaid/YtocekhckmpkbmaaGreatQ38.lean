/- The document's record: which records may be (part h). -/
import Derived.Test.YtocekhckmpkbmaaGreatQ37
namespace Go.Proofs.YtocekhckmpkbmaaGreat
open Go.RowKit
set_option maxRecDepth 100000 in
set_option maxHeartbeats 8000000 in
theorem right_4 (lsn txn prev next nextTxn : Int) (iq sq tq dq : Option Addr) (im ic sn sc tn tc dn dc : Nat) (V : List ImgV) (r : RecD) (w : World) (h : RecV.On ⟨4, lsn, txn, prev, next, iq, im, ic, sq, sn, sc, nextTxn, tq, tn, tc, dq, dn, dc⟩ w V r) (hh : HeadP r) :
 Calls Tryz.prog 12 #[.agg #[.int .i64 4, .int .u64 lsn, .int .i64 txn, .int .u64 prev, .int .u64 next, .slice iq im ic, .slice sq sn sc, .int .i64 nextTxn, .slice tq tn tc, .slice dq dn dc]] w (fun e w' => e = .returned (.bool (mayB r)) ∧ Below w.heap.size w w') := by
 obtain ⟨W, hW⟩ : ∃ W, w.alloc (.cells #[.int .i64 4, .int .u64 lsn, .int .i64 txn, .int .u64 prev, .int .u64 next, .slice iq im ic, .slice sq sn sc, .int .i64 nextTxn, .slice tq tn tc, .slice dq dn dc] 30) = W := ⟨_, rfl⟩
 have hbx := Lib.hid (one_box (xs := [.int .i64 4, .int .u64 lsn, .int .i64 txn, .int .u64 prev, .int .u64 next, .slice iq im ic, .slice sq sn sc, .int .i64 nextTxn, .slice tq tn tc, .slice dq dn dc]) hW)
 have o1 := Lib.hid (h.below hbx.out.1 (Nat.le_refl _))
 have r1 : Hid (4 = r.kind) := h.kind
 have r2 : Hid (lsn = r.lsn) := h.lsn
 have r3 : Hid (txn = r.txn) := h.txn
 have r4 : Hid (prev = r.prev) := h.prev
 have r5 : Hid (next = r.next) := h.next
 have r6 : Hid (nextTxn = r.nextTxn) := h.nextTxn
 have p4 : Hid (0 ≤ r.prev) := h.ints.2.2.2.1.1
 have p5 : Hid (0 ≤ r.next) := h.ints.2.2.2.2.1.1
 have l1 : Hid (r.images.length = im) := by show _ = _; have h1 := h.images.len; have h2 := h.images.on.len; simp only at h1 h2; omega
 have l2 : Hid (r.steps.length = sn) := h.steps.len
 have l3 : Hid (r.txns.length = tn) := h.txns.len
 have l4 : Hid (r.dirty.length = dn) := h.dirty.len
 have hfalse : Hid (¬ MayP r → mayB r = false) := fun hn => by
  cases e : mayB r with
  | false => rfl
  | true => exact absurd ((may_iff r p4.out).1 e) hn
 have htrue : Hid (MayP r → mayB r = true) := (may_iff r p4.out).2
 have hiff : Hid (mayB r = true ↔ MayP r) := may_iff r p4.out
 have c0 : W.cell? ⟨w.heap.size, 0, none⟩ = some (.int .i64 4) := hbx.out.2.1.cell 0 rfl
 have c1 : W.cell? ⟨w.heap.size, 1, none⟩ = some (.int .u64 lsn) := hbx.out.2.1.cell 1 rfl
 have c2 : W.cell? ⟨w.heap.size, 2, none⟩ = some (.int .i64 txn) := hbx.out.2.1.cell 2 rfl
 have c3 : W.cell? ⟨w.heap.size, 3, none⟩ = some (.int .u64 prev) := hbx.out.2.1.cell 3 rfl
 have c4 : W.cell? ⟨w.heap.size, 4, none⟩ = some (.int .u64 next) := hbx.out.2.1.cell 4 rfl
 have c5 : W.cell? ⟨w.heap.size, 5, none⟩ = some (.slice iq im ic) := hbx.out.2.1.cell 5 rfl
 have c6 : W.cell? ⟨w.heap.size, 6, none⟩ = some (.slice sq sn sc) := hbx.out.2.1.cell 6 rfl
 have c7 : W.cell? ⟨w.heap.size, 7, none⟩ = some (.int .i64 nextTxn) := hbx.out.2.1.cell 7 rfl
 have c8 : W.cell? ⟨w.heap.size, 8, none⟩ = some (.slice tq tn tc) := hbx.out.2.1.cell 8 rfl
 have c9 : W.cell? ⟨w.heap.size, 9, none⟩ = some (.slice dq dn dc) := hbx.out.2.1.cell 9 rfl
 clear h
 have hh' := hh
 unfold HeadP at hh'
 rw [← r2.out, ← r4.out] at hh'
 have d1 : decide (lsn < 1) = false := decide_eq_false (by omega)
 have d2 : decide (1099511627776 < lsn) = false := decide_eq_false (by omega)
 have d3 : decide (lsn ≤ prev) = false := decide_eq_false (by omega)
 clear hh'
 replace hh := Lib.hid hh
 have H1 := Lib.hid (steps_doc sq sn sc r.steps W o1.out.steps)
 clear o1
 show Calls _ _ #[.agg #[.int .i64 4, .int .u64 lsn, .int .i64 txn, .int .u64 prev, .int .u64 next, .slice iq im ic, .slice sq sn sc, .int .i64 nextTxn, .slice tq tn tc, .slice dq dn dc]] _ _
 go_enter Tryz.func12, Tryz.ntmps12
 by_cases t0 : txn = 0
 · have e0 : (txn == 0) = true := by simpa using t0
   replace t0 : txn ≤ 0 ∧ 0 ≤ txn := by omega
   have hno := Lib.hid (hfalse.out (fun h => by have h1 := h.2.1; unfold TxnP at h1; rw [← r1.out, ← r3.out, ← r4.out] at h1; omega))
   clear hfalse htrue
   go_wp2
   go_ret
   exact ⟨by rw [hno.out]; rfl, hbx.out.1⟩
 have e0 : (txn == 0) = false := by simpa using t0
 by_cases t1 : txn < 0
 · have e1 : decide (txn < 0) = true := decide_eq_true t1
   have hno := Lib.hid (hfalse.out (fun h => by have h1 := h.2.1; unfold TxnP at h1; rw [← r1.out, ← r3.out, ← r4.out] at h1; omega))
   clear hfalse htrue
   go_wp2
   go_ret
   exact ⟨by rw [hno.out]; rfl, hbx.out.1⟩
 have e1 : decide (txn < 0) = false := decide_eq_false t1
 by_cases t2 : 1073741824 < txn
 · have e2 : decide (1073741824 < txn) = true := decide_eq_true t2
   have hno := Lib.hid (hfalse.out (fun h => by have h1 := h.2.1; unfold TxnP at h1; rw [← r1.out, ← r3.out, ← r4.out] at h1; omega))
   clear hfalse htrue
   go_wp2
   go_ret
   exact ⟨by rw [hno.out]; rfl, hbx.out.1⟩
 have e2 : decide (1073741824 < txn) = false := decide_eq_false t2
 by_cases t3 : prev = 0
 · have e3 : (prev == 0) = true := by simpa using t3
   replace t3 : prev ≤ 0 ∧ 0 ≤ prev := by omega
   have hno := Lib.hid (hfalse.out (fun h => by have h1 := h.2.1; unfold TxnP at h1; rw [← r1.out, ← r3.out, ← r4.out] at h1; omega))
   clear hfalse htrue
   go_wp2
   go_ret
   exact ⟨by rw [hno.out]; rfl, hbx.out.1⟩
 have e3 : (prev == 0) = false := by simpa using t3
 by_cases t4 : nextTxn = 0
 rotate_left
 · have e4 : (nextTxn != 0) = true := by simpa using t4
   have hno := Lib.hid (hfalse.out (fun h => by have h1 := (h.2.2.1.1 (by rw [← r1.out]; decide)).1; have h2 := r6.out; omega))
   clear hfalse htrue
   go_wp2
   go_ret
   exact ⟨by rw [hno.out]; rfl, hbx.out.1⟩
 have e4 : (nextTxn != 0) = false := by simpa using t4
 replace t4 : nextTxn ≤ 0 ∧ 0 ≤ nextTxn := by omega
 by_cases t5 : (0 : Int) < (tn : Int)
 · have e5 : decide ((0 : Int) < (tn : Int)) = true := decide_eq_true t5
   have hno := Lib.hid (hfalse.out (fun h => by have h1 : r.txns = [] := (h.2.2.1.1 (by rw [← r1.out]; decide)).2.1; have h2 := l3.out; rw [h1] at h2; simp only [List.length_nil] at h2; omega))
   clear hfalse htrue
   go_wp2
   go_ret
   exact ⟨by rw [hno.out]; rfl, hbx.out.1⟩
 have e5 : decide ((0 : Int) < (tn : Int)) = false := decide_eq_false t5
 by_cases t6 : (0 : Int) < (dn : Int)
 · have e6 : decide ((0 : Int) < (dn : Int)) = true := decide_eq_true t6
   have hno := Lib.hid (hfalse.out (fun h => by have h1 : r.dirty = [] := (h.2.2.1.1 (by rw [← r1.out]; decide)).2.2; have h2 := l4.out; rw [h1] at h2; simp only [List.length_nil] at h2; omega))
   clear hfalse htrue
   go_wp2
   go_ret
   exact ⟨by rw [hno.out]; rfl, hbx.out.1⟩
 have e6 : decide ((0 : Int) < (dn : Int)) = false := decide_eq_false t6
 by_cases t8 : (0 : Int) < (im : Int)
 · have e8 : decide ((0 : Int) < (im : Int)) = true := decide_eq_true t8
   have hno := Lib.hid (hfalse.out (fun h => by have h1 : r.images = [] := h.2.2.1.2.2 (by rw [← r1.out]; decide) (by rw [← r1.out]; decide); have h2 := l1.out; rw [h1] at h2; simp only [List.length_nil] at h2; omega))
   clear hfalse htrue
   go_wp2
   go_ret
   exact ⟨by rw [hno.out]; rfl, hbx.out.1⟩
 have e8 : decide ((0 : Int) < (im : Int)) = false := decide_eq_false t8
 have hT : TxnP r := by unfold TxnP; rw [← r1.out, ← r3.out, ← r4.out]; omega
 have hR : RestP r := ⟨fun _ => ⟨by have h2 := r6.out; omega, List.length_eq_zero_iff.1 (by have h2 := l3.out; omega), List.length_eq_zero_iff.1 (by have h2 := l4.out; omega)⟩, fun h => absurd r1.out.symm h, fun _ _ => List.length_eq_zero_iff.1 (by have h2 := l1.out; omega)⟩
 have hm : Hid (mayB r = true ↔ (r.next < r.prev ∧ stpsB r.steps = true)) := by show _ ↔ _; rw [hiff.out]; exact ⟨fun h => (kindP4 r1.out.symm).1 h.2.2.2, fun h => ⟨hh.out, hT, hR, (kindP4 r1.out.symm).2 h⟩⟩
 clear hT hR hiff hh
 by_cases t9 : next < prev
 rotate_left
 · have e9 : decide (next < prev) = false := decide_eq_false t9
   have hno := Lib.hid (hfalse.out (fun h => by have h1 := (kindP4 r1.out.symm).1 h.2.2.2; exact t9 (by rw [r5.out, r4.out]; exact h1.1)))
   clear hfalse htrue
   go_wp2
   go_ret
   exact ⟨by rw [hno.out]; rfl, hbx.out.1⟩
 have e9 : decide (next < prev) = true := decide_eq_true t9
 go_wp2_with fail
 clear hW
 refine H1.out.mono ?_
 clear H1
 rintro e w1 ⟨rfl, hb⟩
 have hE := Lib.hid (hbx.out.1.trans (hb.mono hbx.out.1.size))
 clear hb
 obtain ⟨x, hx⟩ : ∃ x, stpsB r.steps = x := ⟨_, rfl⟩
 rw [hx]
 replace hx := Lib.hid hx
 cases x with
 | false =>
   have hno := Lib.hid (hfalse.out (fun h => by have h1 := (kindP4 r1.out.symm).1 h.2.2.2; have h3 := h1.2; rw [hx.out] at h3; cases h3))
   clear hm hfalse htrue
   go_wp2
   go_ret
   exact ⟨by rw [hno.out]; rfl, hE.out⟩
 | true =>
   have hyes := Lib.hid (hm.out.2 ⟨by rw [← r5.out, ← r4.out]; exact t9, hx.out⟩)
   clear hm hfalse htrue
   go_wp2
   go_ret
   exact ⟨by rw [hyes.out]; rfl, hE.out⟩
set_option maxRecDepth 100000 in
set_option maxHeartbeats 8000000 in
theorem right_5 (lsn txn prev next nextTxn : Int) (iq sq tq dq : Option Addr) (im ic sn sc tn tc dn dc : Nat) (V : List ImgV) (r : RecD) (w : World) (h : RecV.On ⟨5, lsn, txn, prev, next, iq, im, ic, sq, sn, sc, nextTxn, tq, tn, tc, dq, dn, dc⟩ w V r) (hh : HeadP r) :
 Calls Tryz.prog 12 #[.agg #[.int .i64 5, .int .u64 lsn, .int .i64 txn, .int .u64 prev, .int .u64 next, .slice iq im ic, .slice sq sn sc, .int .i64 nextTxn, .slice tq tn tc, .slice dq dn dc]] w (fun e w' => e = .returned (.bool (mayB r)) ∧ Below w.heap.size w w') := by
 obtain ⟨W, hW⟩ : ∃ W, w.alloc (.cells #[.int .i64 5, .int .u64 lsn, .int .i64 txn, .int .u64 prev, .int .u64 next, .slice iq im ic, .slice sq sn sc, .int .i64 nextTxn, .slice tq tn tc, .slice dq dn dc] 30) = W := ⟨_, rfl⟩
 have hbx := Lib.hid (one_box (xs := [.int .i64 5, .int .u64 lsn, .int .i64 txn, .int .u64 prev, .int .u64 next, .slice iq im ic, .slice sq sn sc, .int .i64 nextTxn, .slice tq tn tc, .slice dq dn dc]) hW)
 have o1 := Lib.hid (h.below hbx.out.1 (Nat.le_refl _))
 have r1 : Hid (5 = r.kind) := h.kind
 have r2 : Hid (lsn = r.lsn) := h.lsn
 have r3 : Hid (txn = r.txn) := h.txn
 have r4 : Hid (prev = r.prev) := h.prev
 have r5 : Hid (next = r.next) := h.next
 have r6 : Hid (nextTxn = r.nextTxn) := h.nextTxn
 have p4 : Hid (0 ≤ r.prev) := h.ints.2.2.2.1.1
 have p5 : Hid (0 ≤ r.next) := h.ints.2.2.2.2.1.1
 have l1 : Hid (r.images.length = im) := by show _ = _; have h1 := h.images.len; have h2 := h.images.on.len; simp only at h1 h2; omega
 have l2 : Hid (r.steps.length = sn) := h.steps.len
 have l3 : Hid (r.txns.length = tn) := h.txns.len
 have l4 : Hid (r.dirty.length = dn) := h.dirty.len
 have hfalse : Hid (¬ MayP r → mayB r = false) := fun hn => by
  cases e : mayB r with
  | false => rfl
  | true => exact absurd ((may_iff r p4.out).1 e) hn
 have htrue : Hid (MayP r → mayB r = true) := (may_iff r p4.out).2
 have hiff : Hid (mayB r = true ↔ MayP r) := may_iff r p4.out
 have c0 : W.cell? ⟨w.heap.size, 0, none⟩ = some (.int .i64 5) := hbx.out.2.1.cell 0 rfl
 have c1 : W.cell? ⟨w.heap.size, 1, none⟩ = some (.int .u64 lsn) := hbx.out.2.1.cell 1 rfl
 have c2 : W.cell? ⟨w.heap.size, 2, none⟩ = some (.int .i64 txn) := hbx.out.2.1.cell 2 rfl
 have c3 : W.cell? ⟨w.heap.size, 3, none⟩ = some (.int .u64 prev) := hbx.out.2.1.cell 3 rfl
 have c4 : W.cell? ⟨w.heap.size, 4, none⟩ = some (.int .u64 next) := hbx.out.2.1.cell 4 rfl
 have c5 : W.cell? ⟨w.heap.size, 5, none⟩ = some (.slice iq im ic) := hbx.out.2.1.cell 5 rfl
 have c6 : W.cell? ⟨w.heap.size, 6, none⟩ = some (.slice sq sn sc) := hbx.out.2.1.cell 6 rfl
 have c7 : W.cell? ⟨w.heap.size, 7, none⟩ = some (.int .i64 nextTxn) := hbx.out.2.1.cell 7 rfl
 have c8 : W.cell? ⟨w.heap.size, 8, none⟩ = some (.slice tq tn tc) := hbx.out.2.1.cell 8 rfl
 have c9 : W.cell? ⟨w.heap.size, 9, none⟩ = some (.slice dq dn dc) := hbx.out.2.1.cell 9 rfl
 clear h
 have hh' := hh
 unfold HeadP at hh'
 rw [← r2.out, ← r4.out] at hh'
 have d1 : decide (lsn < 1) = false := decide_eq_false (by omega)
 have d2 : decide (1099511627776 < lsn) = false := decide_eq_false (by omega)
 have d3 : decide (lsn ≤ prev) = false := decide_eq_false (by omega)
 clear hh'
 replace hh := Lib.hid hh
 have H1 := images_doc iq im ic V r.images false W o1.out.images
 replace H1 := Lib.hid H1
 clear o1
 show Calls _ _ #[.agg #[.int .i64 5, .int .u64 lsn, .int .i64 txn, .int .u64 prev, .int .u64 next, .slice iq im ic, .slice sq sn sc, .int .i64 nextTxn, .slice tq tn tc, .slice dq dn dc]] _ _
 go_enter Tryz.func12, Tryz.ntmps12
 by_cases t0 : txn = 0
 · have e0 : (txn == 0) = true := by simpa using t0
   replace t0 : txn ≤ 0 ∧ 0 ≤ txn := by omega
   have hno := Lib.hid (hfalse.out (fun h => by have h1 := h.2.1; unfold TxnP at h1; rw [← r1.out, ← r3.out, ← r4.out] at h1; omega))
   clear hfalse htrue
   go_wp2
   go_ret
   exact ⟨by rw [hno.out]; rfl, hbx.out.1⟩
 have e0 : (txn == 0) = false := by simpa using t0
 by_cases t1 : txn < 0
 · have e1 : decide (txn < 0) = true := decide_eq_true t1
   have hno := Lib.hid (hfalse.out (fun h => by have h1 := h.2.1; unfold TxnP at h1; rw [← r1.out, ← r3.out, ← r4.out] at h1; omega))
   clear hfalse htrue
   go_wp2
   go_ret
   exact ⟨by rw [hno.out]; rfl, hbx.out.1⟩
 have e1 : decide (txn < 0) = false := decide_eq_false t1
 by_cases t2 : 1073741824 < txn
 · have e2 : decide (1073741824 < txn) = true := decide_eq_true t2
   have hno := Lib.hid (hfalse.out (fun h => by have h1 := h.2.1; unfold TxnP at h1; rw [← r1.out, ← r3.out, ← r4.out] at h1; omega))
   clear hfalse htrue
   go_wp2
   go_ret
   exact ⟨by rw [hno.out]; rfl, hbx.out.1⟩
 have e2 : decide (1073741824 < txn) = false := decide_eq_false t2
 by_cases t3 : prev = 0
 · have e3 : (prev == 0) = true := by simpa using t3
   replace t3 : prev ≤ 0 ∧ 0 ≤ prev := by omega
   have hno := Lib.hid (hfalse.out (fun h => by have h1 := h.2.1; unfold TxnP at h1; rw [← r1.out, ← r3.out, ← r4.out] at h1; omega))
   clear hfalse htrue
   go_wp2
   go_ret
   exact ⟨by rw [hno.out]; rfl, hbx.out.1⟩
 have e3 : (prev == 0) = false := by simpa using t3
 by_cases t4 : nextTxn = 0
 rotate_left
 · have e4 : (nextTxn != 0) = true := by simpa using t4
   have hno := Lib.hid (hfalse.out (fun h => by have h1 := (h.2.2.1.1 (by rw [← r1.out]; decide)).1; have h2 := r6.out; omega))
   clear hfalse htrue
   go_wp2
   go_ret
   exact ⟨by rw [hno.out]; rfl, hbx.out.1⟩
 have e4 : (nextTxn != 0) = false := by simpa using t4
 replace t4 : nextTxn ≤ 0 ∧ 0 ≤ nextTxn := by omega
 by_cases t5 : (0 : Int) < (tn : Int)
 · have e5 : decide ((0 : Int) < (tn : Int)) = true := decide_eq_true t5
   have hno := Lib.hid (hfalse.out (fun h => by have h1 : r.txns = [] := (h.2.2.1.1 (by rw [← r1.out]; decide)).2.1; have h2 := l3.out; rw [h1] at h2; simp only [List.length_nil] at h2; omega))
   clear hfalse htrue
   go_wp2
   go_ret
   exact ⟨by rw [hno.out]; rfl, hbx.out.1⟩
 have e5 : decide ((0 : Int) < (tn : Int)) = false := decide_eq_false t5
 by_cases t6 : (0 : Int) < (dn : Int)
 · have e6 : decide ((0 : Int) < (dn : Int)) = true := decide_eq_true t6
   have hno := Lib.hid (hfalse.out (fun h => by have h1 : r.dirty = [] := (h.2.2.1.1 (by rw [← r1.out]; decide)).2.2; have h2 := l4.out; rw [h1] at h2; simp only [List.length_nil] at h2; omega))
   clear hfalse htrue
   go_wp2
   go_ret
   exact ⟨by rw [hno.out]; rfl, hbx.out.1⟩
 have e6 : decide ((0 : Int) < (dn : Int)) = false := decide_eq_false t6
 by_cases t7 : (0 : Int) < (sn : Int)
 · have e7 : decide ((0 : Int) < (sn : Int)) = true := decide_eq_true t7
   have hno := Lib.hid (hfalse.out (fun h => by have h1 : r.steps = [] := h.2.2.1.2.1 (by rw [← r1.out]; decide); have h2 := l2.out; rw [h1] at h2; simp only [List.length_nil] at h2; omega))
   clear hfalse htrue
   go_wp2
   go_ret
   exact ⟨by rw [hno.out]; rfl, hbx.out.1⟩
 have e7 : decide ((0 : Int) < (sn : Int)) = false := decide_eq_false t7
 have hT : TxnP r := by unfold TxnP; rw [← r1.out, ← r3.out, ← r4.out]; omega
 have hR : RestP r := ⟨fun _ => ⟨by have h2 := r6.out; omega, List.length_eq_zero_iff.1 (by have h2 := l3.out; omega), List.length_eq_zero_iff.1 (by have h2 := l4.out; omega)⟩, fun _ => List.length_eq_zero_iff.1 (by have h2 := l2.out; omega), fun _ h => absurd r1.out.symm h⟩
 have hm : Hid (mayB r = true ↔ (r.next < r.lsn ∧ imgsD false r.images)) := by show _ ↔ _; rw [hiff.out]; exact ⟨fun h => (kindP5 r1.out.symm).1 h.2.2.2, fun h => ⟨hh.out, hT, hR, (kindP5 r1.out.symm).2 h⟩⟩
 clear hT hR hiff hh
 by_cases t9 : next < lsn
 rotate_left
 · have e9 : decide (next < lsn) = false := decide_eq_false t9
   have hno := Lib.hid (hfalse.out (fun h => by have h1 := (kindP5 r1.out.symm).1 h.2.2.2; exact t9 (by rw [r5.out, r2.out]; exact h1.1)))
   clear hfalse htrue
   go_wp2
   go_ret
   exact ⟨by rw [hno.out]; rfl, hbx.out.1⟩
 have e9 : decide (next < lsn) = true := decide_eq_true t9
 have p8 : (0 : Int) ≤ (im : Int) := by omega
 go_wp2_with fail
 clear hW
 refine H1.out.mono ?_
 clear H1
 rintro e w1 ⟨x, rfl, hx, hb⟩
 have hE := Lib.hid (hbx.out.1.trans (hb.mono hbx.out.1.size))
 clear hb
 have hx := Lib.hid hx
 cases x with
 | false =>
   have hno := Lib.hid (hfalse.out (fun h => by have h1 := (kindP5 r1.out.symm).1 h.2.2.2; have h3 := hx.out.2 (h1.2); cases h3))
   clear hm hfalse htrue
   go_wp2
   go_ret
   exact ⟨by rw [hno.out]; rfl, hE.out⟩
 | true =>
   have hyes := Lib.hid (hm.out.2 ⟨by rw [← r5.out, ← r2.out]; exact t9, hx.out.1 rfl⟩)
   clear hm hfalse htrue
   go_wp2
   go_ret
   exact ⟨by rw [hyes.out]; rfl, hE.out⟩
set_option maxRecDepth 100000 in
set_option maxHeartbeats 8000000 in
theorem right_6 (lsn txn prev next nextTxn : Int) (iq sq tq dq : Option Addr) (im ic sn sc tn tc dn dc : Nat) (V : List ImgV) (r : RecD) (w : World) (h : RecV.On ⟨6, lsn, txn, prev, next, iq, im, ic, sq, sn, sc, nextTxn, tq, tn, tc, dq, dn, dc⟩ w V r) (hh : HeadP r) :
 Calls Tryz.prog 12 #[.agg #[.int .i64 6, .int .u64 lsn, .int .i64 txn, .int .u64 prev, .int .u64 next, .slice iq im ic, .slice sq sn sc, .int .i64 nextTxn, .slice tq tn tc, .slice dq dn dc]] w (fun e w' => e = .returned (.bool (mayB r)) ∧ Below w.heap.size w w') := by
 obtain ⟨W, hW⟩ : ∃ W, w.alloc (.cells #[.int .i64 6, .int .u64 lsn, .int .i64 txn, .int .u64 prev, .int .u64 next, .slice iq im ic, .slice sq sn sc, .int .i64 nextTxn, .slice tq tn tc, .slice dq dn dc] 30) = W := ⟨_, rfl⟩
 have hbx := Lib.hid (one_box (xs := [.int .i64 6, .int .u64 lsn, .int .i64 txn, .int .u64 prev, .int .u64 next, .slice iq im ic, .slice sq sn sc, .int .i64 nextTxn, .slice tq tn tc, .slice dq dn dc]) hW)
 have o1 := Lib.hid (h.below hbx.out.1 (Nat.le_refl _))
 have r1 : Hid (6 = r.kind) := h.kind
 have r2 : Hid (lsn = r.lsn) := h.lsn
 have r3 : Hid (txn = r.txn) := h.txn
 have r4 : Hid (prev = r.prev) := h.prev
 have r5 : Hid (next = r.next) := h.next
 have r6 : Hid (nextTxn = r.nextTxn) := h.nextTxn
 have p4 : Hid (0 ≤ r.prev) := h.ints.2.2.2.1.1
 have p5 : Hid (0 ≤ r.next) := h.ints.2.2.2.2.1.1
 have l1 : Hid (r.images.length = im) := by show _ = _; have h1 := h.images.len; have h2 := h.images.on.len; simp only at h1 h2; omega
 have l2 : Hid (r.steps.length = sn) := h.steps.len
 have l3 : Hid (r.txns.length = tn) := h.txns.len
 have l4 : Hid (r.dirty.length = dn) := h.dirty.len
 have hfalse : Hid (¬ MayP r → mayB r = false) := fun hn => by
  cases e : mayB r with
  | false => rfl
  | true => exact absurd ((may_iff r p4.out).1 e) hn
 have htrue : Hid (MayP r → mayB r = true) := (may_iff r p4.out).2
 have hiff : Hid (mayB r = true ↔ MayP r) := may_iff r p4.out
 have c0 : W.cell? ⟨w.heap.size, 0, none⟩ = some (.int .i64 6) := hbx.out.2.1.cell 0 rfl
 have c1 : W.cell? ⟨w.heap.size, 1, none⟩ = some (.int .u64 lsn) := hbx.out.2.1.cell 1 rfl
 have c2 : W.cell? ⟨w.heap.size, 2, none⟩ = some (.int .i64 txn) := hbx.out.2.1.cell 2 rfl
 have c3 : W.cell? ⟨w.heap.size, 3, none⟩ = some (.int .u64 prev) := hbx.out.2.1.cell 3 rfl
 have c4 : W.cell? ⟨w.heap.size, 4, none⟩ = some (.int .u64 next) := hbx.out.2.1.cell 4 rfl
 have c5 : W.cell? ⟨w.heap.size, 5, none⟩ = some (.slice iq im ic) := hbx.out.2.1.cell 5 rfl
 have c6 : W.cell? ⟨w.heap.size, 6, none⟩ = some (.slice sq sn sc) := hbx.out.2.1.cell 6 rfl
 have c7 : W.cell? ⟨w.heap.size, 7, none⟩ = some (.int .i64 nextTxn) := hbx.out.2.1.cell 7 rfl
 have c8 : W.cell? ⟨w.heap.size, 8, none⟩ = some (.slice tq tn tc) := hbx.out.2.1.cell 8 rfl
 have c9 : W.cell? ⟨w.heap.size, 9, none⟩ = some (.slice dq dn dc) := hbx.out.2.1.cell 9 rfl
 clear h
 have hh' := hh
 unfold HeadP at hh'
 rw [← r2.out, ← r4.out] at hh'
 have d1 : decide (lsn < 1) = false := decide_eq_false (by omega)
 have d2 : decide (1099511627776 < lsn) = false := decide_eq_false (by omega)
 have d3 : decide (lsn ≤ prev) = false := decide_eq_false (by omega)
 clear hh'
 replace hh := Lib.hid hh
 clear o1
 show Calls _ _ #[.agg #[.int .i64 6, .int .u64 lsn, .int .i64 txn, .int .u64 prev, .int .u64 next, .slice iq im ic, .slice sq sn sc, .int .i64 nextTxn, .slice tq tn tc, .slice dq dn dc]] _ _
 go_enter Tryz.func12, Tryz.ntmps12
 by_cases t0 : txn = 0
 · have e0 : (txn == 0) = true := by simpa using t0
   replace t0 : txn ≤ 0 ∧ 0 ≤ txn := by omega
   have hno := Lib.hid (hfalse.out (fun h => by have h1 := h.2.1; unfold TxnP at h1; rw [← r1.out, ← r3.out, ← r4.out] at h1; omega))
   clear hfalse htrue
   go_wp2
   go_ret
   exact ⟨by rw [hno.out]; rfl, hbx.out.1⟩
 have e0 : (txn == 0) = false := by simpa using t0
 by_cases t1 : txn < 0
 · have e1 : decide (txn < 0) = true := decide_eq_true t1
   have hno := Lib.hid (hfalse.out (fun h => by have h1 := h.2.1; unfold TxnP at h1; rw [← r1.out, ← r3.out, ← r4.out] at h1; omega))
   clear hfalse htrue
   go_wp2
   go_ret
   exact ⟨by rw [hno.out]; rfl, hbx.out.1⟩
 have e1 : decide (txn < 0) = false := decide_eq_false t1
 by_cases t2 : 1073741824 < txn
 · have e2 : decide (1073741824 < txn) = true := decide_eq_true t2
   have hno := Lib.hid (hfalse.out (fun h => by have h1 := h.2.1; unfold TxnP at h1; rw [← r1.out, ← r3.out, ← r4.out] at h1; omega))
   clear hfalse htrue
   go_wp2
   go_ret
   exact ⟨by rw [hno.out]; rfl, hbx.out.1⟩
 have e2 : decide (1073741824 < txn) = false := decide_eq_false t2
 by_cases t3 : prev = 0
 · have e3 : (prev == 0) = true := by simpa using t3
   replace t3 : prev ≤ 0 ∧ 0 ≤ prev := by omega
   have hno := Lib.hid (hfalse.out (fun h => by have h1 := h.2.1; unfold TxnP at h1; rw [← r1.out, ← r3.out, ← r4.out] at h1; omega))
   clear hfalse htrue
   go_wp2
   go_ret
   exact ⟨by rw [hno.out]; rfl, hbx.out.1⟩
 have e3 : (prev == 0) = false := by simpa using t3
 by_cases t4 : nextTxn = 0
 rotate_left
 · have e4 : (nextTxn != 0) = true := by simpa using t4
   have hno := Lib.hid (hfalse.out (fun h => by have h1 := (h.2.2.1.1 (by rw [← r1.out]; decide)).1; have h2 := r6.out; omega))
   clear hfalse htrue
   go_wp2
   go_ret
   exact ⟨by rw [hno.out]; rfl, hbx.out.1⟩
 have e4 : (nextTxn != 0) = false := by simpa using t4
 replace t4 : nextTxn ≤ 0 ∧ 0 ≤ nextTxn := by omega
 by_cases t5 : (0 : Int) < (tn : Int)
 · have e5 : decide ((0 : Int) < (tn : Int)) = true := decide_eq_true t5
   have hno := Lib.hid (hfalse.out (fun h => by have h1 : r.txns = [] := (h.2.2.1.1 (by rw [← r1.out]; decide)).2.1; have h2 := l3.out; rw [h1] at h2; simp only [List.length_nil] at h2; omega))
   clear hfalse htrue
   go_wp2
   go_ret
   exact ⟨by rw [hno.out]; rfl, hbx.out.1⟩
 have e5 : decide ((0 : Int) < (tn : Int)) = false := decide_eq_false t5
 by_cases t6 : (0 : Int) < (dn : Int)
 · have e6 : decide ((0 : Int) < (dn : Int)) = true := decide_eq_true t6
   have hno := Lib.hid (hfalse.out (fun h => by have h1 : r.dirty = [] := (h.2.2.1.1 (by rw [← r1.out]; decide)).2.2; have h2 := l4.out; rw [h1] at h2; simp only [List.length_nil] at h2; omega))
   clear hfalse htrue
   go_wp2
   go_ret
   exact ⟨by rw [hno.out]; rfl, hbx.out.1⟩
 have e6 : decide ((0 : Int) < (dn : Int)) = false := decide_eq_false t6
 by_cases t7 : (0 : Int) < (sn : Int)
 · have e7 : decide ((0 : Int) < (sn : Int)) = true := decide_eq_true t7
   have hno := Lib.hid (hfalse.out (fun h => by have h1 : r.steps = [] := h.2.2.1.2.1 (by rw [← r1.out]; decide); have h2 := l2.out; rw [h1] at h2; simp only [List.length_nil] at h2; omega))
   clear hfalse htrue
   go_wp2
   go_ret
   exact ⟨by rw [hno.out]; rfl, hbx.out.1⟩
 have e7 : decide ((0 : Int) < (sn : Int)) = false := decide_eq_false t7
 by_cases t8 : (0 : Int) < (im : Int)
 · have e8 : decide ((0 : Int) < (im : Int)) = true := decide_eq_true t8
   have hno := Lib.hid (hfalse.out (fun h => by have h1 : r.images = [] := h.2.2.1.2.2 (by rw [← r1.out]; decide) (by rw [← r1.out]; decide); have h2 := l1.out; rw [h1] at h2; simp only [List.length_nil] at h2; omega))
   clear hfalse htrue
   go_wp2
   go_ret
   exact ⟨by rw [hno.out]; rfl, hbx.out.1⟩
 have e8 : decide ((0 : Int) < (im : Int)) = false := decide_eq_false t8
 have hT : TxnP r := by unfold TxnP; rw [← r1.out, ← r3.out, ← r4.out]; omega
 have hR : RestP r := ⟨fun _ => ⟨by have h2 := r6.out; omega, List.length_eq_zero_iff.1 (by have h2 := l3.out; omega), List.length_eq_zero_iff.1 (by have h2 := l4.out; omega)⟩, fun _ => List.length_eq_zero_iff.1 (by have h2 := l2.out; omega), fun _ _ => List.length_eq_zero_iff.1 (by have h2 := l1.out; omega)⟩
 have hm : Hid (mayB r = true ↔ (r.next = 0)) := by show _ ↔ _; rw [hiff.out]; exact ⟨fun h => (kindP6 r1.out.symm).1 h.2.2.2, fun h => ⟨hh.out, hT, hR, (kindP6 r1.out.symm).2 h⟩⟩
 clear hT hR hiff hh
 by_cases t9 : next = 0
 rotate_left
 · have e9 : (next == 0) = false := by simpa using t9
   have hno := Lib.hid (hfalse.out (fun h => by have h1 := (kindP6 r1.out.symm).1 h.2.2.2; have h2 := r5.out; omega))
   clear hfalse htrue
   go_wp2
   go_ret
   exact ⟨by rw [hno.out]; rfl, hbx.out.1⟩
 have e9 : (next == 0) = true := by simpa using t9
 replace t9 : next ≤ 0 ∧ 0 ≤ next := by omega
 have hyes := Lib.hid (hm.out.2 (by have h2 := r5.out; omega))
 clear hm hfalse htrue
 go_wp2
 go_ret
 exact ⟨by rw [hyes.out]; rfl, hbx.out.1⟩
end Go.Proofs.YtocekhckmpkbmaaGreat
