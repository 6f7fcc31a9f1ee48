/- Parts of the proof: The document's record: which records may be; The document's record: which records may be (part g) -/
import Derived.Test.YtocekhckmpkbmaaGreatU38
import Derived.Test.YtocekhckmpkbmaaGreatU39
import Derived.Test.YtocekhckmpkbmaaGreatU26
import Derived.Test.YtocekhckmpkbmaaGreatU01
namespace Go.Proofs.YtocekhckmpkbmaaGreat
open Go.RowKit
def HeadP (r : RecD) : Prop := 1 ≤ r.lsn ∧ r.lsn ≤ 1099511627776 ∧ r.prev < r.lsn ∧ 1 ≤ r.kind ∧ r.kind ≤ 9
def TxnP (r : RecD) : Prop := (r.kind = 9 ↔ r.txn = 0) ∧ 0 ≤ r.txn ∧ r.txn ≤ 1073741824 ∧ ((r.kind = 9 ∨ r.kind = 1) ↔ r.prev = 0)
def RestP (r : RecD) : Prop := (r.kind ≠ 9 → r.nextTxn = 0 ∧ r.txns = [] ∧ r.dirty = []) ∧ (r.kind ≠ 4 → r.steps = []) ∧ (r.kind ≠ 2 → r.kind ≠ 5 → r.images = [])
def KindP (r : RecD) : Prop :=
 (r.kind = 2 → r.next = 0 ∧ 1 ≤ (r.images.length : Int) ∧ imgsD true r.images) ∧ (r.kind = 3 → r.next < r.prev) ∧ (r.kind = 4 → r.next < r.prev ∧ stpsB r.steps = true) ∧
 (r.kind = 5 → r.next < r.lsn ∧ imgsD false r.images) ∧ (r.kind = 9 → r.next = 0 ∧ 1 ≤ r.nextTxn ∧ r.nextTxn ≤ 1073741824 ∧ txnsB r = true ∧ dirtyB r = true) ∧
 (r.kind = 1 ∨ r.kind = 6 ∨ r.kind = 7 ∨ r.kind = 8 → r.next = 0)
def MayP (r : RecD) : Prop := HeadP r ∧ TxnP r ∧ RestP r ∧ KindP r
theorem imgsD_true (L : List ImgD) : imgsD true L ↔ ImagesOk L := ⟨fun h => h.1, fun h => ⟨h, fun e => by cases e⟩⟩
theorem kind_zero {c : ContD} (h : GoodC c) (hk : c.kind = 0) : c = zeroC := by
 obtain ⟨k, rows, kids⟩ := c; obtain ⟨e1, e2⟩ := (good0 hk).1 h; simp only at hk; subst hk e1 e2; rfl
theorem imgsD_false (L : List ImgD) : imgsD false L ↔ ImagesOk L ∧ ∀ d ∈ L, d.bef = zeroC := ⟨fun h => ⟨h.1, fun d hd => kind_zero (h.1.2 d hd).1 (h.2 rfl d hd)⟩, fun h => ⟨h.1, fun _ d hd => by rw [h.2 d hd]; rfl⟩⟩
theorem may_iff (r : RecD) (h0 : 0 ≤ r.prev) : mayB r = true ↔ MayP r := by
 obtain ⟨kind, lsn, txn, prev, next, images, steps, nextTxn, txns, dirty⟩ := r; unfold mayB headB MayP HeadP TxnP RestP KindP; simp only at h0; simp only [Bool.and_eq_true, decide_eq_true_eq, sameRec_iff]
 by_cases hk : 1 ≤ kind ∧ kind ≤ 9
 rotate_left
 · refine ⟨fun h => ?_, fun h => absurd ⟨h.1.2.2.2.1, h.1.2.2.2.2⟩ hk⟩; have h1 := h.2; rw [kindBN (by simp only; omega) (by simp only; omega) (by simp only; omega) (by simp only; omega) (by simp only; omega) (by simp only; omega) (by simp only; omega) (by simp only; omega) (by simp only; omega)] at h1; cases h1
 have hc : kind = 1 ∨ kind = 2 ∨ kind = 3 ∨ kind = 4 ∨ kind = 5 ∨ kind = 6 ∨ kind = 7 ∨ kind = 8 ∨ kind = 9 := by omega
 clear hk; rcases hc with rfl | rfl | rfl | rfl | rfl | rfl | rfl | rfl | rfl
 · rw [kindB1 rfl]; simp [othersD, zRec, numB]; constructor <;> intro h <;> (try obtain ⟨a1, a2⟩ := h) <;> grind
 · rw [kindB2 rfl]; simp [othersD, zRec, chainB, numB, imgsB, pB_iff, imgsD_true]; constructor <;> intro h <;> (try obtain ⟨a1, a2⟩ := h) <;> grind
 · rw [kindB3 rfl]; simp [othersD, zRec, chainB, numB]; constructor <;> intro h <;> (try obtain ⟨a1, a2⟩ := h) <;> grind
 · rw [kindB4 rfl]; simp [othersD, zRec, chainB, numB]; constructor <;> intro h <;> (try obtain ⟨a1, a2⟩ := h) <;> grind
 · rw [kindB5 rfl]; simp [othersD, zRec, chainB, numB, imgsB, sidesB, pB_iff, imgsD_false]; constructor <;> intro h <;> (try obtain ⟨a1, a2⟩ := h) <;> grind
 · rw [kindB6 rfl]; simp [othersD, zRec, chainB, numB]; constructor <;> intro h <;> (try obtain ⟨a1, a2⟩ := h) <;> grind
 · rw [kindB7 rfl]; simp [othersD, zRec, chainB, numB]; constructor <;> intro h <;> (try obtain ⟨a1, a2⟩ := h) <;> grind
 · rw [kindB8 rfl]; simp [othersD, zRec, chainB, numB]; constructor <;> intro h <;> (try obtain ⟨a1, a2⟩ := h) <;> grind
 · rw [kindB9 rfl]; simp [othersD, zRec, numB]; constructor <;> intro h <;> (try obtain ⟨a1, a2⟩ := h) <;> grind
theorem kindP1 {r : RecD} (h : r.kind = 1) : KindP r ↔ (r.next = 0) := by unfold KindP; simp [h]
theorem kindP2 {r : RecD} (h : r.kind = 2) : KindP r ↔ (r.next = 0 ∧ 1 ≤ (r.images.length : Int) ∧ imgsD true r.images) := by unfold KindP; simp [h]
theorem kindP3 {r : RecD} (h : r.kind = 3) : KindP r ↔ (r.next < r.prev) := by unfold KindP; simp [h]
theorem kindP4 {r : RecD} (h : r.kind = 4) : KindP r ↔ (r.next < r.prev ∧ stpsB r.steps = true) := by unfold KindP; simp [h]
theorem kindP5 {r : RecD} (h : r.kind = 5) : KindP r ↔ (r.next < r.lsn ∧ imgsD false r.images) := by unfold KindP; simp [h]
theorem kindP6 {r : RecD} (h : r.kind = 6) : KindP r ↔ (r.next = 0) := by unfold KindP; simp [h]
theorem kindP7 {r : RecD} (h : r.kind = 7) : KindP r ↔ (r.next = 0) := by unfold KindP; simp [h]
theorem kindP8 {r : RecD} (h : r.kind = 8) : KindP r ↔ (r.next = 0) := by unfold KindP; simp [h]
theorem kindP9 {r : RecD} (h : r.kind = 9) : KindP r ↔ (r.next = 0 ∧ 1 ≤ r.nextTxn ∧ r.nextTxn ≤ 1073741824 ∧ txnsB r = true ∧ dirtyB r = true) := by unfold KindP; simp [h]
set_option maxRecDepth 100000 in
set_option maxHeartbeats 8000000 in
theorem right_bad (kind lsn txn prev next nextTxn : Int) (iq sq tq dq : Option Addr) (im ic sn sc tn tc dn dc : Nat) (V : List ImgV) (r : RecD) (w : World) (h : RecV.On ⟨kind, lsn, txn, prev, next, iq, im, ic, sq, sn, sc, nextTxn, tq, tn, tc, dq, dn, dc⟩ w V r) (hb : ¬ HeadP r) :
 Calls Tryz.prog 12 #[.agg #[.int .i64 kind, .int .u64 lsn, .int .i64 txn, .int .u64 prev, .int .u64 next, .slice iq im ic, .slice sq sn sc, .int .i64 nextTxn, .slice tq tn tc, .slice dq dn dc]] w (fun e w' => e = .returned (.bool (mayB r)) ∧ Below w.heap.size w w') := by
 obtain ⟨W, hW⟩ : ∃ W, w.alloc (.cells #[.int .i64 kind, .int .u64 lsn, .int .i64 txn, .int .u64 prev, .int .u64 next, .slice iq im ic, .slice sq sn sc, .int .i64 nextTxn, .slice tq tn tc, .slice dq dn dc] 30) = W := ⟨_, rfl⟩; have hbx := lh (one_box hW); have o1 := lh (h.below hbx.out.1 (Nat.le_refl _)); have r1 : Hid (kind = r.kind) := h.kind; have r2 : Hid (lsn = r.lsn) := h.lsn; have r3 : Hid (txn = r.txn) := h.txn; have r4 : Hid (prev = r.prev) := h.prev; have r5 : Hid (next = r.next) := h.next; have r6 : Hid (nextTxn = r.nextTxn) := h.nextTxn; have p4 : Hid (0 ≤ r.prev) := h.ints.2.2.2.1.1; have p5 : Hid (0 ≤ r.next) := h.ints.2.2.2.2.1.1; have l1 : Hid (r.images.length = im) := by show _ = _; have h1 := h.images.len; have h2 := h.images.on.len; simp only at h1 h2; omega
 have l2 : Hid (r.steps.length = sn) := h.steps.len; have l3 : Hid (r.txns.length = tn) := h.txns.len; have l4 : Hid (r.dirty.length = dn) := h.dirty.len
 have hfalse : Hid (¬ MayP r → mayB r = false) := fun hn => by
  cases e : mayB r with
  | false => rfl
  | true => exact absurd ((may_iff r p4.out).1 e) hn
 have htrue : Hid (MayP r → mayB r = true) := (may_iff r p4.out).2; have hiff : Hid (mayB r = true ↔ MayP r) := may_iff r p4.out; have c0 := hbx.out.2.1.cell 0 rfl; have c1 := hbx.out.2.1.cell 1 rfl; have c2 := hbx.out.2.1.cell 2 rfl; have c3 := hbx.out.2.1.cell 3 rfl; have c4 := hbx.out.2.1.cell 4 rfl; have c5 := hbx.out.2.1.cell 5 rfl; have c6 := hbx.out.2.1.cell 6 rfl; have c7 := hbx.out.2.1.cell 7 rfl; have c8 := hbx.out.2.1.cell 8 rfl; have c9 := hbx.out.2.1.cell 9 rfl; clear h; have hnm := lh (hfalse.out (fun h => hb h.1)); rw [hnm.out]; unfold HeadP at hb; rw [← r1.out, ← r2.out, ← r4.out] at hb; clear hnm hfalse htrue hiff; show Calls _ _ #[.agg #[.int .i64 kind, .int .u64 lsn, .int .i64 txn, .int .u64 prev, .int .u64 next, .slice iq im ic, .slice sq sn sc, .int .i64 nextTxn, .slice tq tn tc, .slice dq dn dc]] _ _
 go_enter Tryz.func12, Tryz.ntmps12
 by_cases n1 : lsn < 1
 · have d1 : decide (lsn < 1) = true := decide_eq_true n1; clear hb; go_wp2; go_ret; exact ⟨rfl, hbx.out.1⟩
 have d1 : decide (lsn < 1) = false := decide_eq_false n1
 by_cases n2 : 1099511627776 < lsn
 · have d2 : decide (1099511627776 < lsn) = true := decide_eq_true n2; clear hb; go_wp2; go_ret; exact ⟨rfl, hbx.out.1⟩
 have d2 : decide (1099511627776 < lsn) = false := decide_eq_false n2
 by_cases n3 : lsn ≤ prev
 · have d3 : decide (lsn ≤ prev) = true := decide_eq_true n3; clear hb; go_wp2; go_ret; exact ⟨rfl, hbx.out.1⟩
 have d3 : decide (lsn ≤ prev) = false := decide_eq_false n3
 by_cases n4 : kind < 1
 · have d4 : decide (kind < 1) = true := decide_eq_true n4; clear hb; go_wp2; go_ret; exact ⟨rfl, hbx.out.1⟩
 have d4 : decide (kind < 1) = false := decide_eq_false n4
 by_cases n5 : 9 < kind
 · have d5 : decide (9 < kind) = true := decide_eq_true n5; clear hb; go_wp2; go_ret; exact ⟨rfl, hbx.out.1⟩
 have d5 : decide (9 < kind) = false := decide_eq_false n5; omega
end Go.Proofs.YtocekhckmpkbmaaGreat
namespace Go.Proofs.YtocekhckmpkbmaaGreat
open Go.RowKit
set_option maxRecDepth 100000 in
set_option maxHeartbeats 8000000 in
theorem right_1 (lsn txn prev next nextTxn : Int) (iq sq tq dq : Option Addr) (im ic sn sc tn tc dn dc : Nat) (V : List ImgV) (r : RecD) (w : World) (h : RecV.On ⟨1, lsn, txn, prev, next, iq, im, ic, sq, sn, sc, nextTxn, tq, tn, tc, dq, dn, dc⟩ w V r) (hh : HeadP r) :
 Calls Tryz.prog 12 #[.agg #[.int .i64 1, .int .u64 lsn, .int .i64 txn, .int .u64 prev, .int .u64 next, .slice iq im ic, .slice sq sn sc, .int .i64 nextTxn, .slice tq tn tc, .slice dq dn dc]] w (fun e w' => e = .returned (.bool (mayB r)) ∧ Below w.heap.size w w') := by
 obtain ⟨W, hW⟩ : ∃ W, w.alloc (.cells #[.int .i64 1, .int .u64 lsn, .int .i64 txn, .int .u64 prev, .int .u64 next, .slice iq im ic, .slice sq sn sc, .int .i64 nextTxn, .slice tq tn tc, .slice dq dn dc] 30) = W := ⟨_, rfl⟩; have hbx := lh (one_box hW); have o1 := lh (h.below hbx.out.1 (Nat.le_refl _)); have r1 : Hid (1 = r.kind) := h.kind; have r2 : Hid (lsn = r.lsn) := h.lsn; have r3 : Hid (txn = r.txn) := h.txn; have r4 : Hid (prev = r.prev) := h.prev; have r5 : Hid (next = r.next) := h.next; have r6 : Hid (nextTxn = r.nextTxn) := h.nextTxn; have p4 : Hid (0 ≤ r.prev) := h.ints.2.2.2.1.1; have p5 : Hid (0 ≤ r.next) := h.ints.2.2.2.2.1.1; have l1 : Hid (r.images.length = im) := by show _ = _; have h1 := h.images.len; have h2 := h.images.on.len; simp only at h1 h2; omega
 have l2 : Hid (r.steps.length = sn) := h.steps.len; have l3 : Hid (r.txns.length = tn) := h.txns.len; have l4 : Hid (r.dirty.length = dn) := h.dirty.len
 have hfalse : Hid (¬ MayP r → mayB r = false) := fun hn => by
  cases e : mayB r with
  | false => rfl
  | true => exact absurd ((may_iff r p4.out).1 e) hn
 have htrue : Hid (MayP r → mayB r = true) := (may_iff r p4.out).2; have hiff : Hid (mayB r = true ↔ MayP r) := may_iff r p4.out; have c0 := hbx.out.2.1.cell 0 rfl; have c1 := hbx.out.2.1.cell 1 rfl; have c2 := hbx.out.2.1.cell 2 rfl; have c3 := hbx.out.2.1.cell 3 rfl; have c4 := hbx.out.2.1.cell 4 rfl; have c5 := hbx.out.2.1.cell 5 rfl; have c6 := hbx.out.2.1.cell 6 rfl; have c7 := hbx.out.2.1.cell 7 rfl; have c8 := hbx.out.2.1.cell 8 rfl; have c9 := hbx.out.2.1.cell 9 rfl; clear h; have hh' := hh; unfold HeadP at hh'; rw [← r2.out, ← r4.out] at hh'; have d1 : decide (lsn < 1) = false := decide_eq_false (by omega); have d2 : decide (1099511627776 < lsn) = false := decide_eq_false (by omega); have d3 : decide (lsn ≤ prev) = false := decide_eq_false (by omega); clear hh'; replace hh := lh hh; clear o1; show Calls _ _ #[.agg #[.int .i64 1, .int .u64 lsn, .int .i64 txn, .int .u64 prev, .int .u64 next, .slice iq im ic, .slice sq sn sc, .int .i64 nextTxn, .slice tq tn tc, .slice dq dn dc]] _ _
 go_enter Tryz.func12, Tryz.ntmps12
 by_cases t0 : txn = 0
 · have e0 : (txn == 0) = true := by simpa using t0
   replace t0 : txn ≤ 0 ∧ 0 ≤ txn := by omega
   have hno := lh (hfalse.out (fun h => by have h1 := h.2.1; unfold TxnP at h1; rw [← r1.out, ← r3.out, ← r4.out] at h1; omega)); clear hfalse htrue; go_wp2; go_ret; exact ⟨by rw [hno.out]; rfl, hbx.out.1⟩
 have e0 : (txn == 0) = false := by simpa using t0
 by_cases t1 : txn < 0
 · have e1 : decide (txn < 0) = true := decide_eq_true t1; have hno := lh (hfalse.out (fun h => by have h1 := h.2.1; unfold TxnP at h1; rw [← r1.out, ← r3.out, ← r4.out] at h1; omega)); clear hfalse htrue; go_wp2; go_ret; exact ⟨by rw [hno.out]; rfl, hbx.out.1⟩
 have e1 : decide (txn < 0) = false := decide_eq_false t1
 by_cases t2 : 1073741824 < txn
 · have e2 : decide (1073741824 < txn) = true := decide_eq_true t2; have hno := lh (hfalse.out (fun h => by have h1 := h.2.1; unfold TxnP at h1; rw [← r1.out, ← r3.out, ← r4.out] at h1; omega)); clear hfalse htrue; go_wp2; go_ret; exact ⟨by rw [hno.out]; rfl, hbx.out.1⟩
 have e2 : decide (1073741824 < txn) = false := decide_eq_false t2
 by_cases t3 : prev = 0
 rotate_left
 · have e3 : (prev == 0) = false := by simpa using t3
   have hno := lh (hfalse.out (fun h => by have h1 := h.2.1; unfold TxnP at h1; rw [← r1.out, ← r3.out, ← r4.out] at h1; omega)); clear hfalse htrue; go_wp2; go_ret; exact ⟨by rw [hno.out]; rfl, hbx.out.1⟩
 have e3 : (prev == 0) = true := by simpa using t3
 replace t3 : prev ≤ 0 ∧ 0 ≤ prev := by omega
 by_cases t4 : nextTxn = 0
 rotate_left
 · have e4 : (nextTxn != 0) = true := by simpa using t4
   have hno := lh (hfalse.out (fun h => by have h1 := (h.2.2.1.1 (by rw [← r1.out]; decide)).1; have h2 := r6.out; omega)); clear hfalse htrue; go_wp2; go_ret; exact ⟨by rw [hno.out]; rfl, hbx.out.1⟩
 have e4 : (nextTxn != 0) = false := by simpa using t4
 replace t4 : nextTxn ≤ 0 ∧ 0 ≤ nextTxn := by omega
 by_cases t5 : (0 : Int) < (tn : Int)
 · have e5 : decide ((0 : Int) < (tn : Int)) = true := decide_eq_true t5; have hno := lh (hfalse.out (fun h => by have h1 : r.txns = [] := (h.2.2.1.1 (by rw [← r1.out]; decide)).2.1; have h2 := l3.out; rw [h1] at h2; simp only [List.length_nil] at h2; omega)); clear hfalse htrue; go_wp2; go_ret; exact ⟨by rw [hno.out]; rfl, hbx.out.1⟩
 have e5 : decide ((0 : Int) < (tn : Int)) = false := decide_eq_false t5
 by_cases t6 : (0 : Int) < (dn : Int)
 · have e6 : decide ((0 : Int) < (dn : Int)) = true := decide_eq_true t6; have hno := lh (hfalse.out (fun h => by have h1 : r.dirty = [] := (h.2.2.1.1 (by rw [← r1.out]; decide)).2.2; have h2 := l4.out; rw [h1] at h2; simp only [List.length_nil] at h2; omega)); clear hfalse htrue; go_wp2; go_ret; exact ⟨by rw [hno.out]; rfl, hbx.out.1⟩
 have e6 : decide ((0 : Int) < (dn : Int)) = false := decide_eq_false t6
 by_cases t7 : (0 : Int) < (sn : Int)
 · have e7 : decide ((0 : Int) < (sn : Int)) = true := decide_eq_true t7; have hno := lh (hfalse.out (fun h => by have h1 : r.steps = [] := h.2.2.1.2.1 (by rw [← r1.out]; decide); have h2 := l2.out; rw [h1] at h2; simp only [List.length_nil] at h2; omega)); clear hfalse htrue; go_wp2; go_ret; exact ⟨by rw [hno.out]; rfl, hbx.out.1⟩
 have e7 : decide ((0 : Int) < (sn : Int)) = false := decide_eq_false t7
 by_cases t8 : (0 : Int) < (im : Int)
 · have e8 : decide ((0 : Int) < (im : Int)) = true := decide_eq_true t8; have hno := lh (hfalse.out (fun h => by have h1 : r.images = [] := h.2.2.1.2.2 (by rw [← r1.out]; decide) (by rw [← r1.out]; decide); have h2 := l1.out; rw [h1] at h2; simp only [List.length_nil] at h2; omega)); clear hfalse htrue; go_wp2; go_ret; exact ⟨by rw [hno.out]; rfl, hbx.out.1⟩
 have e8 : decide ((0 : Int) < (im : Int)) = false := decide_eq_false t8; have hT : TxnP r := by unfold TxnP; rw [← r1.out, ← r3.out, ← r4.out]; omega
 have hR : RestP r := ⟨fun _ => ⟨by have h2 := r6.out; omega, List.length_eq_zero_iff.1 (by have h2 := l3.out; omega), List.length_eq_zero_iff.1 (by have h2 := l4.out; omega)⟩, fun _ => List.length_eq_zero_iff.1 (by have h2 := l2.out; omega), fun _ _ => List.length_eq_zero_iff.1 (by have h2 := l1.out; omega)⟩; have hm : Hid (mayB r = true ↔ (r.next = 0)) := by show _ ↔ _; rw [hiff.out]; exact ⟨fun h => (kindP1 r1.out.symm).1 h.2.2.2, fun h => ⟨hh.out, hT, hR, (kindP1 r1.out.symm).2 h⟩⟩
 clear hT hR hiff hh
 by_cases t9 : next = 0
 rotate_left
 · have e9 : (next == 0) = false := by simpa using t9
   have hno := lh (hfalse.out (fun h => by have h1 := (kindP1 r1.out.symm).1 h.2.2.2; have h2 := r5.out; omega)); clear hfalse htrue; go_wp2; go_ret; exact ⟨by rw [hno.out]; rfl, hbx.out.1⟩
 have e9 : (next == 0) = true := by simpa using t9
 replace t9 : next ≤ 0 ∧ 0 ≤ next := by omega
 have hyes := lh (hm.out.2 (by have h2 := r5.out; omega)); clear hm hfalse htrue; go_wp2; go_ret; exact ⟨by rw [hyes.out]; rfl, hbx.out.1⟩
set_option maxRecDepth 100000 in
set_option maxHeartbeats 8000000 in
theorem right_2 (lsn txn prev next nextTxn : Int) (iq sq tq dq : Option Addr) (im ic sn sc tn tc dn dc : Nat) (V : List ImgV) (r : RecD) (w : World) (h : RecV.On ⟨2, lsn, txn, prev, next, iq, im, ic, sq, sn, sc, nextTxn, tq, tn, tc, dq, dn, dc⟩ w V r) (hh : HeadP r) :
 Calls Tryz.prog 12 #[.agg #[.int .i64 2, .int .u64 lsn, .int .i64 txn, .int .u64 prev, .int .u64 next, .slice iq im ic, .slice sq sn sc, .int .i64 nextTxn, .slice tq tn tc, .slice dq dn dc]] w (fun e w' => e = .returned (.bool (mayB r)) ∧ Below w.heap.size w w') := by
 obtain ⟨W, hW⟩ : ∃ W, w.alloc (.cells #[.int .i64 2, .int .u64 lsn, .int .i64 txn, .int .u64 prev, .int .u64 next, .slice iq im ic, .slice sq sn sc, .int .i64 nextTxn, .slice tq tn tc, .slice dq dn dc] 30) = W := ⟨_, rfl⟩; have hbx := lh (one_box hW); have o1 := lh (h.below hbx.out.1 (Nat.le_refl _)); have r1 : Hid (2 = r.kind) := h.kind; have r2 : Hid (lsn = r.lsn) := h.lsn; have r3 : Hid (txn = r.txn) := h.txn; have r4 : Hid (prev = r.prev) := h.prev; have r5 : Hid (next = r.next) := h.next; have r6 : Hid (nextTxn = r.nextTxn) := h.nextTxn; have p4 : Hid (0 ≤ r.prev) := h.ints.2.2.2.1.1; have p5 : Hid (0 ≤ r.next) := h.ints.2.2.2.2.1.1; have l1 : Hid (r.images.length = im) := by show _ = _; have h1 := h.images.len; have h2 := h.images.on.len; simp only at h1 h2; omega
 have l2 : Hid (r.steps.length = sn) := h.steps.len; have l3 : Hid (r.txns.length = tn) := h.txns.len; have l4 : Hid (r.dirty.length = dn) := h.dirty.len
 have hfalse : Hid (¬ MayP r → mayB r = false) := fun hn => by
  cases e : mayB r with
  | false => rfl
  | true => exact absurd ((may_iff r p4.out).1 e) hn
 have htrue : Hid (MayP r → mayB r = true) := (may_iff r p4.out).2; have hiff : Hid (mayB r = true ↔ MayP r) := may_iff r p4.out; have c0 := hbx.out.2.1.cell 0 rfl; have c1 := hbx.out.2.1.cell 1 rfl; have c2 := hbx.out.2.1.cell 2 rfl; have c3 := hbx.out.2.1.cell 3 rfl; have c4 := hbx.out.2.1.cell 4 rfl; have c5 := hbx.out.2.1.cell 5 rfl; have c6 := hbx.out.2.1.cell 6 rfl; have c7 := hbx.out.2.1.cell 7 rfl; have c8 := hbx.out.2.1.cell 8 rfl; have c9 := hbx.out.2.1.cell 9 rfl; clear h; have hh' := hh; unfold HeadP at hh'; rw [← r2.out, ← r4.out] at hh'; have d1 : decide (lsn < 1) = false := decide_eq_false (by omega); have d2 : decide (1099511627776 < lsn) = false := decide_eq_false (by omega); have d3 : decide (lsn ≤ prev) = false := decide_eq_false (by omega); clear hh'; replace hh := lh hh; have H1 := images_doc iq im ic V r.images true W o1.out.images; replace H1 := lh H1; clear o1; show Calls _ _ #[.agg #[.int .i64 2, .int .u64 lsn, .int .i64 txn, .int .u64 prev, .int .u64 next, .slice iq im ic, .slice sq sn sc, .int .i64 nextTxn, .slice tq tn tc, .slice dq dn dc]] _ _
 go_enter Tryz.func12, Tryz.ntmps12
 by_cases t0 : txn = 0
 · have e0 : (txn == 0) = true := by simpa using t0
   replace t0 : txn ≤ 0 ∧ 0 ≤ txn := by omega
   have hno := lh (hfalse.out (fun h => by have h1 := h.2.1; unfold TxnP at h1; rw [← r1.out, ← r3.out, ← r4.out] at h1; omega)); clear hfalse htrue; go_wp2; go_ret; exact ⟨by rw [hno.out]; rfl, hbx.out.1⟩
 have e0 : (txn == 0) = false := by simpa using t0
 by_cases t1 : txn < 0
 · have e1 : decide (txn < 0) = true := decide_eq_true t1; have hno := lh (hfalse.out (fun h => by have h1 := h.2.1; unfold TxnP at h1; rw [← r1.out, ← r3.out, ← r4.out] at h1; omega)); clear hfalse htrue; go_wp2; go_ret; exact ⟨by rw [hno.out]; rfl, hbx.out.1⟩
 have e1 : decide (txn < 0) = false := decide_eq_false t1
 by_cases t2 : 1073741824 < txn
 · have e2 : decide (1073741824 < txn) = true := decide_eq_true t2; have hno := lh (hfalse.out (fun h => by have h1 := h.2.1; unfold TxnP at h1; rw [← r1.out, ← r3.out, ← r4.out] at h1; omega)); clear hfalse htrue; go_wp2; go_ret; exact ⟨by rw [hno.out]; rfl, hbx.out.1⟩
 have e2 : decide (1073741824 < txn) = false := decide_eq_false t2
 by_cases t3 : prev = 0
 · have e3 : (prev == 0) = true := by simpa using t3
   replace t3 : prev ≤ 0 ∧ 0 ≤ prev := by omega
   have hno := lh (hfalse.out (fun h => by have h1 := h.2.1; unfold TxnP at h1; rw [← r1.out, ← r3.out, ← r4.out] at h1; omega)); clear hfalse htrue; go_wp2; go_ret; exact ⟨by rw [hno.out]; rfl, hbx.out.1⟩
 have e3 : (prev == 0) = false := by simpa using t3
 by_cases t4 : nextTxn = 0
 rotate_left
 · have e4 : (nextTxn != 0) = true := by simpa using t4
   have hno := lh (hfalse.out (fun h => by have h1 := (h.2.2.1.1 (by rw [← r1.out]; decide)).1; have h2 := r6.out; omega)); clear hfalse htrue; go_wp2; go_ret; exact ⟨by rw [hno.out]; rfl, hbx.out.1⟩
 have e4 : (nextTxn != 0) = false := by simpa using t4
 replace t4 : nextTxn ≤ 0 ∧ 0 ≤ nextTxn := by omega
 by_cases t5 : (0 : Int) < (tn : Int)
 · have e5 : decide ((0 : Int) < (tn : Int)) = true := decide_eq_true t5; have hno := lh (hfalse.out (fun h => by have h1 : r.txns = [] := (h.2.2.1.1 (by rw [← r1.out]; decide)).2.1; have h2 := l3.out; rw [h1] at h2; simp only [List.length_nil] at h2; omega)); clear hfalse htrue; go_wp2; go_ret; exact ⟨by rw [hno.out]; rfl, hbx.out.1⟩
 have e5 : decide ((0 : Int) < (tn : Int)) = false := decide_eq_false t5
 by_cases t6 : (0 : Int) < (dn : Int)
 · have e6 : decide ((0 : Int) < (dn : Int)) = true := decide_eq_true t6; have hno := lh (hfalse.out (fun h => by have h1 : r.dirty = [] := (h.2.2.1.1 (by rw [← r1.out]; decide)).2.2; have h2 := l4.out; rw [h1] at h2; simp only [List.length_nil] at h2; omega)); clear hfalse htrue; go_wp2; go_ret; exact ⟨by rw [hno.out]; rfl, hbx.out.1⟩
 have e6 : decide ((0 : Int) < (dn : Int)) = false := decide_eq_false t6
 by_cases t7 : (0 : Int) < (sn : Int)
 · have e7 : decide ((0 : Int) < (sn : Int)) = true := decide_eq_true t7; have hno := lh (hfalse.out (fun h => by have h1 : r.steps = [] := h.2.2.1.2.1 (by rw [← r1.out]; decide); have h2 := l2.out; rw [h1] at h2; simp only [List.length_nil] at h2; omega)); clear hfalse htrue; go_wp2; go_ret; exact ⟨by rw [hno.out]; rfl, hbx.out.1⟩
 have e7 : decide ((0 : Int) < (sn : Int)) = false := decide_eq_false t7; have hT : TxnP r := by unfold TxnP; rw [← r1.out, ← r3.out, ← r4.out]; omega
 have hR : RestP r := ⟨fun _ => ⟨by have h2 := r6.out; omega, List.length_eq_zero_iff.1 (by have h2 := l3.out; omega), List.length_eq_zero_iff.1 (by have h2 := l4.out; omega)⟩, fun _ => List.length_eq_zero_iff.1 (by have h2 := l2.out; omega), fun h => absurd r1.out.symm h⟩; have hm : Hid (mayB r = true ↔ (r.next = 0 ∧ 1 ≤ (r.images.length : Int) ∧ imgsD true r.images)) := by show _ ↔ _; rw [hiff.out]; exact ⟨fun h => (kindP2 r1.out.symm).1 h.2.2.2, fun h => ⟨hh.out, hT, hR, (kindP2 r1.out.symm).2 h⟩⟩
 clear hT hR hiff hh
 by_cases t9 : next = 0
 rotate_left
 · have e9 : (next == 0) = false := by simpa using t9
   have hno := lh (hfalse.out (fun h => by have h1 := (kindP2 r1.out.symm).1 h.2.2.2; have h2 := h1.1; have h3 := r5.out; omega)); clear hfalse htrue; go_wp2; go_ret; exact ⟨by rw [hno.out]; rfl, hbx.out.1⟩
 have e9 : (next == 0) = true := by simpa using t9
 replace t9 : next ≤ 0 ∧ 0 ≤ next := by omega
 by_cases t8 : (0 : Int) < (im : Int)
 rotate_left
 · have e8 : decide ((0 : Int) < (im : Int)) = false := decide_eq_false t8; have hno := lh (hfalse.out (fun h => by have h1 := (kindP2 r1.out.symm).1 h.2.2.2; have h2 := l1.out; omega)); clear hfalse htrue; go_wp2; go_ret; exact ⟨by rw [hno.out]; rfl, hbx.out.1⟩
 have e8 : decide ((0 : Int) < (im : Int)) = true := decide_eq_true t8
 go_wp2_with fail
 clear hW; refine H1.out.mono ?_; clear H1; rintro e w1 ⟨x, rfl, hx, hb⟩; have hE := lh (hbx.out.1.trans (hb.mono hbx.out.1.size)); clear hb; have hx := lh hx; cases x with
 | false => have hno := lh (hfalse.out (fun h => by have h1 := (kindP2 r1.out.symm).1 h.2.2.2; have h3 := hx.out.2 (h1.2.2); cases h3)); clear hm hfalse htrue; go_wp2; go_ret; exact ⟨by rw [hno.out]; rfl, hE.out⟩
 | true => have hyes := lh (hm.out.2 ⟨by have h2 := r5.out; omega, by have h2 := l1.out; omega, hx.out.1 rfl⟩); clear hm hfalse htrue; go_wp2; go_ret; exact ⟨by rw [hyes.out]; rfl, hE.out⟩
set_option maxRecDepth 100000 in
set_option maxHeartbeats 8000000 in
theorem right_3 (lsn txn prev next nextTxn : Int) (iq sq tq dq : Option Addr) (im ic sn sc tn tc dn dc : Nat) (V : List ImgV) (r : RecD) (w : World) (h : RecV.On ⟨3, lsn, txn, prev, next, iq, im, ic, sq, sn, sc, nextTxn, tq, tn, tc, dq, dn, dc⟩ w V r) (hh : HeadP r) :
 Calls Tryz.prog 12 #[.agg #[.int .i64 3, .int .u64 lsn, .int .i64 txn, .int .u64 prev, .int .u64 next, .slice iq im ic, .slice sq sn sc, .int .i64 nextTxn, .slice tq tn tc, .slice dq dn dc]] w (fun e w' => e = .returned (.bool (mayB r)) ∧ Below w.heap.size w w') := by
 obtain ⟨W, hW⟩ : ∃ W, w.alloc (.cells #[.int .i64 3, .int .u64 lsn, .int .i64 txn, .int .u64 prev, .int .u64 next, .slice iq im ic, .slice sq sn sc, .int .i64 nextTxn, .slice tq tn tc, .slice dq dn dc] 30) = W := ⟨_, rfl⟩; have hbx := lh (one_box hW); have o1 := lh (h.below hbx.out.1 (Nat.le_refl _)); have r1 : Hid (3 = r.kind) := h.kind; have r2 : Hid (lsn = r.lsn) := h.lsn; have r3 : Hid (txn = r.txn) := h.txn; have r4 : Hid (prev = r.prev) := h.prev; have r5 : Hid (next = r.next) := h.next; have r6 : Hid (nextTxn = r.nextTxn) := h.nextTxn; have p4 : Hid (0 ≤ r.prev) := h.ints.2.2.2.1.1; have p5 : Hid (0 ≤ r.next) := h.ints.2.2.2.2.1.1; have l1 : Hid (r.images.length = im) := by show _ = _; have h1 := h.images.len; have h2 := h.images.on.len; simp only at h1 h2; omega
 have l2 : Hid (r.steps.length = sn) := h.steps.len; have l3 : Hid (r.txns.length = tn) := h.txns.len; have l4 : Hid (r.dirty.length = dn) := h.dirty.len
 have hfalse : Hid (¬ MayP r → mayB r = false) := fun hn => by
  cases e : mayB r with
  | false => rfl
  | true => exact absurd ((may_iff r p4.out).1 e) hn
 have htrue : Hid (MayP r → mayB r = true) := (may_iff r p4.out).2; have hiff : Hid (mayB r = true ↔ MayP r) := may_iff r p4.out; have c0 := hbx.out.2.1.cell 0 rfl; have c1 := hbx.out.2.1.cell 1 rfl; have c2 := hbx.out.2.1.cell 2 rfl; have c3 := hbx.out.2.1.cell 3 rfl; have c4 := hbx.out.2.1.cell 4 rfl; have c5 := hbx.out.2.1.cell 5 rfl; have c6 := hbx.out.2.1.cell 6 rfl; have c7 := hbx.out.2.1.cell 7 rfl; have c8 := hbx.out.2.1.cell 8 rfl; have c9 := hbx.out.2.1.cell 9 rfl; clear h; have hh' := hh; unfold HeadP at hh'; rw [← r2.out, ← r4.out] at hh'; have d1 : decide (lsn < 1) = false := decide_eq_false (by omega); have d2 : decide (1099511627776 < lsn) = false := decide_eq_false (by omega); have d3 : decide (lsn ≤ prev) = false := decide_eq_false (by omega); clear hh'; replace hh := lh hh; clear o1; show Calls _ _ #[.agg #[.int .i64 3, .int .u64 lsn, .int .i64 txn, .int .u64 prev, .int .u64 next, .slice iq im ic, .slice sq sn sc, .int .i64 nextTxn, .slice tq tn tc, .slice dq dn dc]] _ _
 go_enter Tryz.func12, Tryz.ntmps12
 by_cases t0 : txn = 0
 · have e0 : (txn == 0) = true := by simpa using t0
   replace t0 : txn ≤ 0 ∧ 0 ≤ txn := by omega
   have hno := lh (hfalse.out (fun h => by have h1 := h.2.1; unfold TxnP at h1; rw [← r1.out, ← r3.out, ← r4.out] at h1; omega)); clear hfalse htrue; go_wp2; go_ret; exact ⟨by rw [hno.out]; rfl, hbx.out.1⟩
 have e0 : (txn == 0) = false := by simpa using t0
 by_cases t1 : txn < 0
 · have e1 : decide (txn < 0) = true := decide_eq_true t1; have hno := lh (hfalse.out (fun h => by have h1 := h.2.1; unfold TxnP at h1; rw [← r1.out, ← r3.out, ← r4.out] at h1; omega)); clear hfalse htrue; go_wp2; go_ret; exact ⟨by rw [hno.out]; rfl, hbx.out.1⟩
 have e1 : decide (txn < 0) = false := decide_eq_false t1
 by_cases t2 : 1073741824 < txn
 · have e2 : decide (1073741824 < txn) = true := decide_eq_true t2; have hno := lh (hfalse.out (fun h => by have h1 := h.2.1; unfold TxnP at h1; rw [← r1.out, ← r3.out, ← r4.out] at h1; omega)); clear hfalse htrue; go_wp2; go_ret; exact ⟨by rw [hno.out]; rfl, hbx.out.1⟩
 have e2 : decide (1073741824 < txn) = false := decide_eq_false t2
 by_cases t3 : prev = 0
 · have e3 : (prev == 0) = true := by simpa using t3
   replace t3 : prev ≤ 0 ∧ 0 ≤ prev := by omega
   have hno := lh (hfalse.out (fun h => by have h1 := h.2.1; unfold TxnP at h1; rw [← r1.out, ← r3.out, ← r4.out] at h1; omega)); clear hfalse htrue; go_wp2; go_ret; exact ⟨by rw [hno.out]; rfl, hbx.out.1⟩
 have e3 : (prev == 0) = false := by simpa using t3
 by_cases t4 : nextTxn = 0
 rotate_left
 · have e4 : (nextTxn != 0) = true := by simpa using t4
   have hno := lh (hfalse.out (fun h => by have h1 := (h.2.2.1.1 (by rw [← r1.out]; decide)).1; have h2 := r6.out; omega)); clear hfalse htrue; go_wp2; go_ret; exact ⟨by rw [hno.out]; rfl, hbx.out.1⟩
 have e4 : (nextTxn != 0) = false := by simpa using t4
 replace t4 : nextTxn ≤ 0 ∧ 0 ≤ nextTxn := by omega
 by_cases t5 : (0 : Int) < (tn : Int)
 · have e5 : decide ((0 : Int) < (tn : Int)) = true := decide_eq_true t5; have hno := lh (hfalse.out (fun h => by have h1 : r.txns = [] := (h.2.2.1.1 (by rw [← r1.out]; decide)).2.1; have h2 := l3.out; rw [h1] at h2; simp only [List.length_nil] at h2; omega)); clear hfalse htrue; go_wp2; go_ret; exact ⟨by rw [hno.out]; rfl, hbx.out.1⟩
 have e5 : decide ((0 : Int) < (tn : Int)) = false := decide_eq_false t5
 by_cases t6 : (0 : Int) < (dn : Int)
 · have e6 : decide ((0 : Int) < (dn : Int)) = true := decide_eq_true t6; have hno := lh (hfalse.out (fun h => by have h1 : r.dirty = [] := (h.2.2.1.1 (by rw [← r1.out]; decide)).2.2; have h2 := l4.out; rw [h1] at h2; simp only [List.length_nil] at h2; omega)); clear hfalse htrue; go_wp2; go_ret; exact ⟨by rw [hno.out]; rfl, hbx.out.1⟩
 have e6 : decide ((0 : Int) < (dn : Int)) = false := decide_eq_false t6
 by_cases t7 : (0 : Int) < (sn : Int)
 · have e7 : decide ((0 : Int) < (sn : Int)) = true := decide_eq_true t7; have hno := lh (hfalse.out (fun h => by have h1 : r.steps = [] := h.2.2.1.2.1 (by rw [← r1.out]; decide); have h2 := l2.out; rw [h1] at h2; simp only [List.length_nil] at h2; omega)); clear hfalse htrue; go_wp2; go_ret; exact ⟨by rw [hno.out]; rfl, hbx.out.1⟩
 have e7 : decide ((0 : Int) < (sn : Int)) = false := decide_eq_false t7
 by_cases t8 : (0 : Int) < (im : Int)
 · have e8 : decide ((0 : Int) < (im : Int)) = true := decide_eq_true t8; have hno := lh (hfalse.out (fun h => by have h1 : r.images = [] := h.2.2.1.2.2 (by rw [← r1.out]; decide) (by rw [← r1.out]; decide); have h2 := l1.out; rw [h1] at h2; simp only [List.length_nil] at h2; omega)); clear hfalse htrue; go_wp2; go_ret; exact ⟨by rw [hno.out]; rfl, hbx.out.1⟩
 have e8 : decide ((0 : Int) < (im : Int)) = false := decide_eq_false t8; have hT : TxnP r := by unfold TxnP; rw [← r1.out, ← r3.out, ← r4.out]; omega
 have hR : RestP r := ⟨fun _ => ⟨by have h2 := r6.out; omega, List.length_eq_zero_iff.1 (by have h2 := l3.out; omega), List.length_eq_zero_iff.1 (by have h2 := l4.out; omega)⟩, fun _ => List.length_eq_zero_iff.1 (by have h2 := l2.out; omega), fun _ _ => List.length_eq_zero_iff.1 (by have h2 := l1.out; omega)⟩; have hm : Hid (mayB r = true ↔ (r.next < r.prev)) := by show _ ↔ _; rw [hiff.out]; exact ⟨fun h => (kindP3 r1.out.symm).1 h.2.2.2, fun h => ⟨hh.out, hT, hR, (kindP3 r1.out.symm).2 h⟩⟩
 clear hT hR hiff hh
 by_cases t9 : next < prev
 rotate_left
 · have e9 : decide (next < prev) = false := decide_eq_false t9; have hno := lh (hfalse.out (fun h => by have h1 := (kindP3 r1.out.symm).1 h.2.2.2; rw [← r5.out, ← r4.out] at h1; exact t9 h1)); clear hfalse htrue; go_wp2; go_ret; exact ⟨by rw [hno.out]; rfl, hbx.out.1⟩
 have e9 : decide (next < prev) = true := decide_eq_true t9; have hyes := lh (hm.out.2 (by rw [← r5.out, ← r4.out]; exact t9)); clear hm hfalse htrue; go_wp2; go_ret; exact ⟨by rw [hyes.out]; rfl, hbx.out.1⟩
end Go.Proofs.YtocekhckmpkbmaaGreat
