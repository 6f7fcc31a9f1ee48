/- The document's record: which records are one. -/
import Derived.Test.YtocekhckmpkbmaaGreatU21
import Derived.Test.YtocekhckmpkbmaaGreatU11
import Derived.Test.YtocekhckmpkbmaaGreatU26
import Derived.Test.YtocekhckmpkbmaaGreatU32
import Derived.Test.YtocekhckmpkbmaaGreatU01
namespace Go.Proofs.YtocekhckmpkbmaaGreat
open Go.RowKit
section
variable {ops : Array Oper} {Q : Exit → Act → World → Prop} {md : Region.Mode} {S : World → Prop}
theorem two_new {T : TypeId} {z : List Value} {fuel : Nat} {l : Array Bool} {a : Act} {u : World} {oi oj : Oper} (i di j dj : Nat) (hi : ops[i]? = some oi) (hj : ops[j]? = some oj) (hdi : oi.dst = some di) (hdj : oj.dst = some dj)
 (hwi : ∀ y, Region.wanted oi y = true) (hwj : ∀ y, Region.wanted oj y = true) (ri : ∀ (b : Act) (w : World), (execOp b.eval oi).run Tryz.prog w = .ok (.value (.pointer (some ⟨w.heap.size, 0, none⟩))) (w.alloc (.cells z.toArray T)))
 (rj : ∀ (b : Act) (w : World), (execOp b.eval oj).run Tryz.prog w = .ok (.value (.pointer (some ⟨w.heap.size, 0, none⟩))) (w.alloc (.cells z.toArray T))) (hS : ∀ u', Below u.heap.size u u' → S u')
 (hd : (di != dj && i != j) = true) (hr : Region.ready md ops l = [i, j]) (hri : Region.ready md ops (l.setIfInBounds i true) = [j]) (hrj : Region.ready md ops (l.setIfInBounds j true) = [i])
 (h : ∀ G1 G2 u', Below u.heap.size u u' → G1 ≠ G2 → u.heap.size ≤ G1 → u.heap.size ≤ G2 → RowV T u' G1 z → RowV T u' G2 z → wpAnyH Tryz.prog md ops Q S fuel ((l.setIfInBounds i true).setIfInBounds j true) ((a.put (some di) (.pointer (some ⟨G1, 0, none⟩))).put (some dj) (.pointer (some ⟨G2, 0, none⟩))) u') :
 wpAnyH Tryz.prog md ops Q S (fuel + 2) l a u := by
 simp only [Bool.and_eq_true, bne_iff_ne] at hd; have b1 := (Below.refl u.heap.size u).alloc (Nat.le_refl _) (.cells z.toArray T); have s1 : (u.alloc (.cells z.toArray T)).heap.size = u.heap.size + 1 := (one_box (w := u) (T1 := T) (xs := z) rfl).2.2; have b2 := (Below.refl (u.alloc (.cells z.toArray T)).heap.size (u.alloc (.cells z.toArray T))).alloc (Nat.le_refl _) (.cells z.toArray T); have b3 : Below u.heap.size u ((u.alloc (.cells z.toArray T)).alloc (.cells z.toArray T)) := below_step b2 b1; have r1 := (RowV.made (T := T) u z).below b2; have r2 := RowV.made (T := T) (u.alloc (.cells z.toArray T)) z; refine wpAnyH_all hr (by simp) (fun k hk => ?_); rcases List.mem_cons.1 hk with rfl | hk
 · unfold wpOp; simp only [hi, hwi, if_true]; refine .inl ?_; unfold Oper.wp; rw [ri, Oper.upon_value, hdi]; refine ⟨hS _ b1, ?_⟩; refine held_value hdj hj hri (hwj _) (rj _ _) (hS _ b3) ?_; exact h _ _ _ b3 (by omega) (Nat.le_refl _) (by omega) r1 r2
 · rw [List.mem_singleton.1 hk]; unfold wpOp; simp only [hj, hwj, if_true]; refine .inl ?_; unfold Oper.wp; rw [rj, Oper.upon_value, hdj]; refine ⟨hS _ b1, ?_⟩; refine held_value hdi hi hrj (hwi _) (ri _ _) (hS _ b3) ?_; rw [Array.setIfInBounds_comm _ _ (Ne.symm hd.2), Act.put_comm a _ _ (fun t e1 e2 => hd.1 ((Option.some.inj e2).trans (Option.some.inj e1).symm))]; exact h _ _ _ b3 (by omega) (by omega) (Nat.le_refl _) r2 r1
end
abbrev zI : List Value := [.int .i64 0, .int .i64 0, .slice none 0 0, .slice none 0 0, .int .i64 0, .slice none 0 0, .slice none 0 0]
theorem run_allocI (b : Act) (o : Oper) (ho : o.op = .alloc 62) (w : World) : (execOp b.eval o).run Tryz.prog w = .ok (.value (.pointer (some ⟨w.heap.size, 0, none⟩))) (w.alloc (.cells zI.toArray 62)) := by
 unfold execOp; rw [ho]
 go_simp
theorem sameRec_ne {a b : RecD} (h : a ≠ b) : sameRec a b = false := by
 cases e : sameRec a b with
 | false => rfl
 | true => exact absurd ((sameRec_iff a b).1 e) h
set_option maxRecDepth 100000 in
set_option maxHeartbeats 16000000 in
theorem same12_doc (v1 v2 : RecV) (V U : List ImgV) (a b : RecD) (w : World) (h1 : v1.On w V a) (h2 : v2.On w U b) :
 Calls Tryz.prog 15 #[v1.val, v2.val] w (fun e w' => e = .returned (.bool (sameRec a b)) ∧ Below w.heap.size w w') := by
 obtain ⟨k1, l1, x1, v1, n1, iq1, in1, ic1, sq1, sn1, sc1, y1, tq1, tn1, tc1, dq1, dn1, dc1⟩ := v1; obtain ⟨k2, l2, x2, v2, n2, iq2, in2, ic2, sq2, sn2, sc2, y2, tq2, tn2, tc2, dq2, dn2, dc2⟩ := v2; obtain ⟨W, hW⟩ : ∃ W, (w.alloc (.cells #[.int .i64 k1, .int .u64 l1, .int .i64 x1, .int .u64 v1, .int .u64 n1, .slice iq1 in1 ic1, .slice sq1 sn1 sc1, .int .i64 y1, .slice tq1 tn1 tc1, .slice dq1 dn1 dc1] 30)).alloc (.cells #[.int .i64 k2, .int .u64 l2, .int .i64 x2, .int .u64 v2, .int .u64 n2, .slice iq2 in2 ic2, .slice sq2 sn2 sc2, .int .i64 y2, .slice tq2 tn2 tc2, .slice dq2 dn2 dc2] 30) = W := ⟨_, rfl⟩; have hbx := lh (two_boxes hW); have o1 := lh (h1.below hbx.out.1 (Nat.le_refl _)); have o2 := lh (h2.below hbx.out.1 (Nat.le_refl _)); have hF : Hid (a ≠ b → sameRec a b = false) := sameRec_ne; have hT : Hid (a = b → sameRec a b = true) := (sameRec_iff a b).2; obtain ⟨E, hE⟩ : ∃ E, sameRec a b = E := ⟨_, rfl⟩
 rw [hE] at hF hT; rw [hE]; clear hE; have fk : Hid (a = b → k1 = k2) := fun e => (show k1 = a.kind from h1.kind).trans ((by rw [e] : a.kind = b.kind).trans (show k2 = b.kind from h2.kind).symm)
 have fl : Hid (a = b → l1 = l2) := fun e => (show l1 = a.lsn from h1.lsn).trans ((by rw [e] : a.lsn = b.lsn).trans (show l2 = b.lsn from h2.lsn).symm)
 have fx : Hid (a = b → x1 = x2) := fun e => (show x1 = a.txn from h1.txn).trans ((by rw [e] : a.txn = b.txn).trans (show x2 = b.txn from h2.txn).symm)
 have fv : Hid (a = b → v1 = v2) := fun e => (show v1 = a.prev from h1.prev).trans ((by rw [e] : a.prev = b.prev).trans (show v2 = b.prev from h2.prev).symm)
 have fn : Hid (a = b → n1 = n2) := fun e => (show n1 = a.next from h1.next).trans ((by rw [e] : a.next = b.next).trans (show n2 = b.next from h2.next).symm)
 have fy : Hid (a = b → y1 = y2) := fun e => (show y1 = a.nextTxn from h1.nextTxn).trans ((by rw [e] : a.nextTxn = b.nextTxn).trans (show y2 = b.nextTxn from h2.nextTxn).symm)
 have ein1 : Hid (a.images.length = in1) := by have g1 : V.length = a.images.length := h1.images.len; have g2 : V.length = in1 := h1.images.on.len; show a.images.length = in1; omega
 have ein2 : Hid (b.images.length = in2) := by have g1 : U.length = b.images.length := h2.images.len; have g2 : U.length = in2 := h2.images.on.len; show b.images.length = in2; omega
 have fin : Hid (a = b → in1 = in2) := fun e => by rw [← ein1.out, ← ein2.out, e]
 have esn1 : Hid (a.steps.length = sn1) := h1.steps.len; have esn2 : Hid (b.steps.length = sn2) := h2.steps.len; have fsn : Hid (a = b → sn1 = sn2) := fun e => by rw [← esn1.out, ← esn2.out, e]
 have etn1 : Hid (a.txns.length = tn1) := h1.txns.len; have etn2 : Hid (b.txns.length = tn2) := h2.txns.len; have ftn : Hid (a = b → tn1 = tn2) := fun e => by rw [← etn1.out, ← etn2.out, e]
 have edn1 : Hid (a.dirty.length = dn1) := h1.dirty.len; have edn2 : Hid (b.dirty.length = dn2) := h2.dirty.len; have fdn : Hid (a = b → dn1 = dn2) := fun e => by rw [← edn1.out, ← edn2.out, e]
 clear h1 h2; have z10 := hbx.out.2.1.cell 0 rfl; have z20 := hbx.out.2.2.1.cell 0 rfl; have z11 := hbx.out.2.1.cell 1 rfl; have z21 := hbx.out.2.2.1.cell 1 rfl; have z12 := hbx.out.2.1.cell 2 rfl; have z22 := hbx.out.2.2.1.cell 2 rfl; have z13 := hbx.out.2.1.cell 3 rfl; have z23 := hbx.out.2.2.1.cell 3 rfl; have z14 := hbx.out.2.1.cell 4 rfl; have z24 := hbx.out.2.2.1.cell 4 rfl; have z15 := hbx.out.2.1.cell 5 rfl; have z25 := hbx.out.2.2.1.cell 5 rfl; have z16 := hbx.out.2.1.cell 6 rfl; have z26 := hbx.out.2.2.1.cell 6 rfl; have z17 := hbx.out.2.1.cell 7 rfl; have z27 := hbx.out.2.2.1.cell 7 rfl; have z18 := hbx.out.2.1.cell 8 rfl; have z28 := hbx.out.2.2.1.cell 8 rfl; have z19 := hbx.out.2.1.cell 9 rfl; have z29 := hbx.out.2.2.1.cell 9 rfl; show Calls _ _ #[.agg #[.int .i64 k1, .int .u64 l1, .int .i64 x1, .int .u64 v1, .int .u64 n1, .slice iq1 in1 ic1, .slice sq1 sn1 sc1, .int .i64 y1, .slice tq1 tn1 tc1, .slice dq1 dn1 dc1], .agg #[.int .i64 k2, .int .u64 l2, .int .i64 x2, .int .u64 v2, .int .u64 n2, .slice iq2 in2 ic2, .slice sq2 sn2 sc2, .int .i64 y2, .slice tq2 tn2 tc2, .slice dq2 dn2 dc2]] _ _
 by_cases ek : k1 = k2
 rotate_left
 · have m1 : ((k1 : Int) != (k2 : Int)) = true := by simpa using (by omega : ¬ (k1 : Int) = (k2 : Int))
   have hno := lh (hF.out (fun e => ek (fk.out e))); clear hF hT
   go_enter Tryz.func15, Tryz.ntmps15
   go_wp2; go_ret; exact ⟨by rw [hno.out]; rfl, hbx.out.1⟩
 subst ek
 by_cases el : l1 = l2
 rotate_left
 · have m1 : ((l1 : Int) != (l2 : Int)) = true := by simpa using (by omega : ¬ (l1 : Int) = (l2 : Int))
   have hno := lh (hF.out (fun e => el (fl.out e))); clear hF hT
   go_enter Tryz.func15, Tryz.ntmps15
   go_wp2; go_ret; exact ⟨by rw [hno.out]; rfl, hbx.out.1⟩
 subst el
 by_cases ex : x1 = x2
 rotate_left
 · have m1 : ((x1 : Int) != (x2 : Int)) = true := by simpa using (by omega : ¬ (x1 : Int) = (x2 : Int))
   have hno := lh (hF.out (fun e => ex (fx.out e))); clear hF hT
   go_enter Tryz.func15, Tryz.ntmps15
   go_wp2; go_ret; exact ⟨by rw [hno.out]; rfl, hbx.out.1⟩
 subst ex
 by_cases ev : v1 = v2
 rotate_left
 · have m1 : ((v1 : Int) != (v2 : Int)) = true := by simpa using (by omega : ¬ (v1 : Int) = (v2 : Int))
   have hno := lh (hF.out (fun e => ev (fv.out e))); clear hF hT
   go_enter Tryz.func15, Tryz.ntmps15
   go_wp2; go_ret; exact ⟨by rw [hno.out]; rfl, hbx.out.1⟩
 subst ev
 by_cases en : n1 = n2
 rotate_left
 · have m1 : ((n1 : Int) != (n2 : Int)) = true := by simpa using (by omega : ¬ (n1 : Int) = (n2 : Int))
   have hno := lh (hF.out (fun e => en (fn.out e))); clear hF hT
   go_enter Tryz.func15, Tryz.ntmps15
   go_wp2; go_ret; exact ⟨by rw [hno.out]; rfl, hbx.out.1⟩
 subst en
 by_cases ey : y1 = y2
 rotate_left
 · have m1 : ((y1 : Int) != (y2 : Int)) = true := by simpa using (by omega : ¬ (y1 : Int) = (y2 : Int))
   have hno := lh (hF.out (fun e => ey (fy.out e))); clear hF hT
   go_enter Tryz.func15, Tryz.ntmps15
   go_wp2; go_ret; exact ⟨by rw [hno.out]; rfl, hbx.out.1⟩
 subst ey
 by_cases ein : in1 = in2
 rotate_left
 · have m1 : ((in1 : Int) != (in2 : Int)) = true := by simpa using (by omega : ¬ (in1 : Int) = (in2 : Int))
   have hno := lh (hF.out (fun e => ein (fin.out e))); clear hF hT
   go_enter Tryz.func15, Tryz.ntmps15
   go_wp2; go_ret; exact ⟨by rw [hno.out]; rfl, hbx.out.1⟩
 subst ein
 by_cases esn : sn1 = sn2
 rotate_left
 · have m1 : ((sn1 : Int) != (sn2 : Int)) = true := by simpa using (by omega : ¬ (sn1 : Int) = (sn2 : Int))
   have hno := lh (hF.out (fun e => esn (fsn.out e))); clear hF hT
   go_enter Tryz.func15, Tryz.ntmps15
   go_wp2; go_ret; exact ⟨by rw [hno.out]; rfl, hbx.out.1⟩
 subst esn
 by_cases etn : tn1 = tn2
 rotate_left
 · have m1 : ((tn1 : Int) != (tn2 : Int)) = true := by simpa using (by omega : ¬ (tn1 : Int) = (tn2 : Int))
   have hno := lh (hF.out (fun e => etn (ftn.out e))); clear hF hT
   go_enter Tryz.func15, Tryz.ntmps15
   go_wp2; go_ret; exact ⟨by rw [hno.out]; rfl, hbx.out.1⟩
 subst etn
 by_cases edn : dn1 = dn2
 rotate_left
 · have m1 : ((dn1 : Int) != (dn2 : Int)) = true := by simpa using (by omega : ¬ (dn1 : Int) = (dn2 : Int))
   have hno := lh (hF.out (fun e => edn (fdn.out e))); clear hF hT
   go_enter Tryz.func15, Tryz.ntmps15
   go_wp2; go_ret; exact ⟨by rw [hno.out]; rfl, hbx.out.1⟩
 subst edn; clear fk fl fx fv fn fy fin fsn ftn fdn; have hmI : in1 ≤ maxLen := Nat.le_trans o1.out.images.on.le o1.out.images.on.cap; have hmS : sn1 ≤ maxLen := Nat.le_trans o1.out.steps.le o1.out.steps.cap; have hmT : tn1 ≤ maxLen := Nat.le_trans o1.out.txns.le o1.out.txns.cap; have hmD : dn1 ≤ maxLen := Nat.le_trans o1.out.dirty.le o1.out.dirty.cap; unfold maxLen at hmI hmS hmT hmD
 go_enter Tryz.func15, Tryz.ntmps15
 go_wp2; clear hW z10 z11 z12 z13 z14 z17 z20 z21 z22 z23 z24 z27; have h0 : Hid (Below W.heap.size W W) := Below.refl _ _
 go_loopw [88] (fun v wr => ∃ k : Nat, k ≤ in1 ∧ v = .int .i64 k ∧ Hid (Below W.heap.size W wr) ∧ Hid (∀ (i : Nat) x y, i < k → a.images[i]? = some x → b.images[i]? = some y → x = y)) (fun v _ => in1 - (RowKit.intOf v).toNat)
 case atStart => exact ⟨0, Nat.zero_le _, rfl, h0, fun i x y hi => absurd hi (Nat.not_lt_zero _)⟩
 case round =>
  obtain ⟨k, hk, rfl, hb, hp⟩ := hrel; clear h0
  by_cases hlt : k < in1
  · obtain ⟨A, ⟨pa, ⟨ka1, qa1, ma1, ca1, qa2, ma2, ca2⟩, ⟨ka3, qa3, ma3, ca3, qa4, ma4, ca4⟩⟩, d1, hqA, _, hx0, hA0, hcA⟩ := (o1.out.images.below hb.out (Nat.le_refl _)).at hlt; obtain ⟨B, ⟨pb, ⟨kb1, qb1, mb1, cb1, qb2, mb2, cb2⟩, ⟨kb3, qb3, mb3, cb3, qb4, mb4, cb4⟩⟩, d2, hqB, _, hy0, hB0, hcB⟩ := (o2.out.images.below hb.out (Nat.le_refl _)).at hlt; subst hqA; subst hqB; have hcA : Hid (∀ j x, ([.int .i64 pa, .int .i64 ka1, .slice qa1 ma1 ca1, .slice qa2 ma2 ca2, .int .i64 ka3, .slice qa3 ma3 ca3, .slice qa4 ma4 ca4] : List Value)[j]? = some x → wr.cell? ((A.add (k * 7)).add j) = some x) := hcA; have hcB : Hid (∀ j x, ([.int .i64 pb, .int .i64 kb1, .slice qb1 mb1 cb1, .slice qb2 mb2 cb2, .int .i64 kb3, .slice qb3 mb3 cb3, .slice qb4 mb4 cb4] : List Value)[j]? = some x → wr.cell? ((B.add (k * 7)).add j) = some x) := hcB; have hsA : (Tryz.prog.info? 62).map (·.size) = some ([.int .i64 pa, .int .i64 ka1, .slice qa1 ma1 ca1, .slice qa2 ma2 ca2, .int .i64 ka3, .slice qa3 ma3 ca3, .slice qa4 ma4 ca4] : List Value).length := sizeImg ⟨pa, ⟨ka1, qa1, ma1, ca1, qa2, ma2, ca2⟩, ⟨ka3, qa3, ma3, ca3, qa4, ma4, ca4⟩⟩
    have hsB : (Tryz.prog.info? 62).map (·.size) = some ([.int .i64 pb, .int .i64 kb1, .slice qb1 mb1 cb1, .slice qb2 mb2 cb2, .int .i64 kb3, .slice qb3 mb3 cb3, .slice qb4 mb4 cb4] : List Value).length := sizeImg ⟨pb, ⟨kb1, qb1, mb1, cb1, qb2, mb2, cb2⟩, ⟨kb3, qb3, mb3, cb3, qb4, mb4, cb4⟩⟩; have hx := lh hx0; have hy := lh hy0; have hA := lh hA0; have hB := lh hB0; have i0 : (0 : Int) ≤ k := by omega
    have i1 : (k : Int) < in1 := by omega
    have y1 := lh (fun u (hu : Below wr.heap.size wr u) => (hbx.out.2.1.below (below_step hu hb.out) (Nat.le_refl _)).cell 5 rfl); have y2 := lh (fun u (hu : Below wr.heap.size wr u) => (hbx.out.2.2.1.below (below_step hu hb.out) (Nat.le_refl _)).cell 5 rfl); clear hx0 hy0 hA0 hB0 z15 z25 z16 z26 z18 z28 z19 z29; go_wp2; refine wp_region_held (S := fun u => Below wr.heap.size wr u) (by kernel_rfl) ?_; change wpAnyH _ _ _ _ _ _ _ _ (World.drew wr); have hS0 : Below wr.heap.size wr wr.drew := below_drew wr; refine tg 0 91 (.pointer (some ⟨w.heap.size, 5, none⟩)) hS0 ?_; go_frame; refine held_tk (i := 1) (dst := some 92) (v := .slice (some A) in1 ic1) rfl rfl (.inl ⟨rfl, fun u hu => by have c9 := y1.out u hu; go_simp⟩) hS0 ?_; go_frame; refine tg 2 93 (.int .i64 k) hS0 ?_; go_frame; refine tg 3 94 (.pointer (some (A.add (k * 7)))) hS0 ?_; go_frame; refine held_tk (i := 4) (dst := some 95) (v := .agg #[.int .i64 pa, .int .i64 ka1, .slice qa1 ma1 ca1, .slice qa2 ma2 ca2, .int .i64 ka3, .slice qa3 ma3 ca3, .slice qa4 ma4 ca4]) rfl rfl (y_load_agg 62 (.tmp 94) rfl rfl rfl (fun u hu => run_loadVar_at Tryz.underlying62 rfl hsA _ (fun j x hj => cell_keeps hu (Nat.le_refl _) (hcA.out j x hj)))) hS0 ?_; go_frame
    refine tg 5 96 (.pointer (some ⟨w.heap.size + 1, 5, none⟩)) hS0 ?_; go_frame; refine held_tk (i := 6) (dst := some 97) (v := .slice (some B) in1 ic2) rfl rfl (.inl ⟨rfl, fun u hu => by have c9 := y2.out u hu; go_simp⟩) hS0 ?_; go_frame; refine tg 7 98 (.int .i64 k) hS0 ?_; go_frame; refine tg 8 99 (.pointer (some (B.add (k * 7)))) hS0 ?_; go_frame; refine held_tk (i := 9) (dst := some 100) (v := .agg #[.int .i64 pb, .int .i64 kb1, .slice qb1 mb1 cb1, .slice qb2 mb2 cb2, .int .i64 kb3, .slice qb3 mb3 cb3, .slice qb4 mb4 cb4]) rfl rfl (y_load_agg 62 (.tmp 99) rfl rfl rfl (fun u hu => run_loadVar_at Tryz.underlying62 rfl hsB _ (fun j x hj => cell_keeps hu (Nat.le_refl _) (hcB.out j x hj)))) hS0 ?_; go_frame; refine two_new (fuel := 2) 10 6 11 7 rfl rfl rfl rfl (fun _ => rfl) (fun _ => rfl) (fun b w => run_allocI b _ rfl w) (fun b w => run_allocI b _ rfl w) (fun u' hu => below_step hu hS0) (by kernel_rfl) (by kernel_rfl) (by kernel_rfl) (by kernel_rfl) ?_
    intro G1 G2 u hu hne hG1 hG2 r1 r2; go_frame; have hz : wr.heap.size ≤ wr.drew.heap.size := hS0.size; have hu0 : Below wr.heap.size wr u := below_step hu hS0; obtain ⟨w6, st6, rr6, gr6⟩ := run_storeVar_at (o := 0) (vs := [.int .i64 pa, .int .i64 ka1, .slice qa1 ma1 ca1, .slice qa2 ma2 ca2, .int .i64 ka3, .slice qa3 ma3 ca3, .slice qa4 ma4 ca4]) r1 hsA (Nat.le_refl _) (Cel.one (α := ImgV) ⟨pa, ⟨ka1, qa1, ma1, ca1, qa2, ma2, ca2⟩, ⟨ka3, qa3, ma3, ca3, qa4, ma4, ca4⟩⟩); have r6 : RowV 62 w6 G1 [.int .i64 pa, .int .i64 ka1, .slice qa1 ma1 ca1, .slice qa2 ma2 ca2, .int .i64 ka3, .slice qa3 ma3 ca3, .slice qa4 ma4 ca4] := rr6; have hb6 : Below wr.heap.size wr w6 := Gr.below gr6 hu0 (by omega); refine held_skip (i := 12) (dst := none) rfl rfl (by kernel_rfl) rfl (run_store_op (x := .tmp 6) (y := .tmp 95) rfl rfl rfl st6) hb6 ?_; go_frame; obtain ⟨w7, st7, rr7, gr7⟩ := run_storeVar_at (o := 0) (vs := [.int .i64 pb, .int .i64 kb1, .slice qb1 mb1 cb1, .slice qb2 mb2 cb2, .int .i64 kb3, .slice qb3 mb3 cb3, .slice qb4 mb4 cb4]) (r2.kept gr6 hne.symm) hsB (Nat.le_refl _) (Cel.one (α := ImgV) ⟨pb, ⟨kb1, qb1, mb1, cb1, qb2, mb2, cb2⟩, ⟨kb3, qb3, mb3, cb3, qb4, mb4, cb4⟩⟩)
    have r7 : Hid (RowV 62 w7 G2 [.int .i64 pb, .int .i64 kb1, .slice qb1 mb1 cb1, .slice qb2 mb2 cb2, .int .i64 kb3, .slice qb3 mb3 cb3, .slice qb4 mb4 cb4]) := rr7; have hd7 : Hid (Below wr.heap.size wr w7) := Gr.below gr7 hb6 (by omega); refine held_skip (i := 13) (dst := none) rfl rfl (by kernel_rfl) rfl (run_store_op (x := .tmp 7) (y := .tmp 100) rfl rfl rfl st7) hd7.out ?_; go_frame; have r6' : Hid (RowV 62 w7 G1 [.int .i64 pa, .int .i64 ka1, .slice qa1 ma1 ca1, .slice qa2 ma2 ca2, .int .i64 ka3, .slice qa3 ma3 ca3, .slice qa4 ma4 ca4]) := r6.kept gr7 hne; refine wpAnyH_done (by kernel_rfl) ?_ _; have hbE := lh (below_step hd7.out hb.out); have ga := r6'.out.cell 0; have gb := r7.out.cell 0; have la1 : Hid (∀ j x, ([.int .i64 ka1, .slice qa1 ma1 ca1, .slice qa2 ma2 ca2] : List Value)[j]? = some x → _) := r6'.out.part (pre := [.int .i64 pa]) (rest := [.int .i64 ka3, .slice qa3 ma3 ca3, .slice qa4 ma4 ca4]) rfl rfl
    have lb1 : Hid (∀ j x, ([.int .i64 kb1, .slice qb1 mb1 cb1, .slice qb2 mb2 cb2] : List Value)[j]? = some x → _) := r7.out.part (pre := [.int .i64 pb]) (rest := [.int .i64 kb3, .slice qb3 mb3 cb3, .slice qb4 mb4 cb4]) rfl rfl; clear hS0 hu hu0 st6 st7 r1 r2 r6 hb6 gr6 gr7 rr6 rr7 hcA hcB
    by_cases hpg : pa = pb
    rotate_left
    · have m1 : (pa != pb) = true := by simpa using hpg
      have hno := lh (hF.out (fun e => hpg (by have e1 : d1 = d2 := Option.some.inj (hx.out.symm.trans ((by rw [e] : a.images[k]? = b.images[k]?).trans hy.out)); have g1 : pa = d1.page := hA.out.page; have g2 : pb = d2.page := hB.out.page; rw [g1, g2, e1]))); clear hF hT; go_wp2; go_ret; exact ⟨by rw [hno.out]; rfl, hbx.out.1.trans (hbE.out.mono hbx.out.1.size)⟩
    subst hpg; have zA1 := sizeCont (.int .i64 ka1) (.slice qa1 ma1 ca1) (.slice qa2 ma2 ca2); have zB1 := sizeCont (.int .i64 kb1) (.slice qb1 mb1 cb1) (.slice qb2 mb2 cb2); have zA3 := sizeCont (.int .i64 ka3) (.slice qa3 ma3 ca3) (.slice qa4 ma4 ca4); have zB3 := sizeCont (.int .i64 kb3) (.slice qb3 mb3 cb3) (.slice qb4 mb4 cb4); have hsm := same_doc ka1 qa1 ma1 ca1 qa2 ma2 ca2 d1.bef kb1 qb1 mb1 cb1 qb2 mb2 cb2 d2.bef w7 (ContOn.below hA.out.bef hd7.out (Nat.le_refl _)) (ContOn.below hB.out.bef hd7.out (Nat.le_refl _)); obtain ⟨B1, hB1⟩ : ∃ x, sameC d1.bef d2.bef = x := ⟨_, rfl⟩; rw [hB1] at hsm; have hB1 := lh hB1; have hsm := lh hsm
    go_wp2_with (first
     | ((with_reducible refine wpList_load_g ?_ 55 (.tmp 107) rfl Tryz.underlying55 rfl zA1 rfl la1.out ?_); exact rfl)
     | ((with_reducible refine wpList_load_g ?_ 55 (.tmp 109) rfl Tryz.underlying55 rfl zB1 rfl lb1.out ?_); exact rfl))
    refine hsm.out.mono ?_; rintro e w8 ⟨rfl, hb8⟩; have hd8 := lh (below_step hb8 hd7.out); have hb8E := lh (below_step hb8 hbE.out); have la3 : Hid (∀ j x, ([.int .i64 ka3, .slice qa3 ma3 ca3, .slice qa4 ma4 ca4] : List Value)[j]? = some x → _) := (r6'.out.below hb8).part (pre := [.int .i64 pa, .int .i64 ka1, .slice qa1 ma1 ca1, .slice qa2 ma2 ca2]) (rest := []) rfl rfl; have lb3 : Hid (∀ j x, ([.int .i64 kb3, .slice qb3 mb3 cb3, .slice qb4 mb4 cb4] : List Value)[j]? = some x → _) := (r7.out.below hb8).part (pre := [.int .i64 pa, .int .i64 kb1, .slice qb1 mb1 cb1, .slice qb2 mb2 cb2]) (rest := []) rfl rfl; have hdd : Hid (a = b → d1 = d2) := fun e => Option.some.inj (hx.out.symm.trans ((by rw [e] : a.images[k]? = b.images[k]?).trans hy.out))
    clear hsm hb8 ga gb la1 lb1; cases B1 with
    | false =>
      have hno := lh (hF.out (fun e => by have h1 := sameC_iff.2 (congrArg ImgD.bef (hdd.out e)); rw [hB1.out] at h1; cases h1)); clear hF hT
      go_wp2_with fail
      go_ret; exact ⟨by rw [hno.out]; rfl, hbx.out.1.trans (hb8E.out.mono hbx.out.1.size)⟩
    | true =>
      have hsm := same_doc ka3 qa3 ma3 ca3 qa4 ma4 ca4 d1.aft kb3 qb3 mb3 cb3 qb4 mb4 cb4 d2.aft w8 (ContOn.below hA.out.aft hd8.out (Nat.le_refl _)) (ContOn.below hB.out.aft hd8.out (Nat.le_refl _)); obtain ⟨B3, hB3⟩ : ∃ x, sameC d1.aft d2.aft = x := ⟨_, rfl⟩; rw [hB3] at hsm; have hB3 := lh hB3; have hsm := lh hsm
      go_wp2_with (first
       | ((with_reducible refine wpList_load_g ?_ 55 (.tmp 115) rfl Tryz.underlying55 rfl zA3 rfl la3.out ?_); exact rfl)
       | ((with_reducible refine wpList_load_g ?_ 55 (.tmp 117) rfl Tryz.underlying55 rfl zB3 rfl lb3.out ?_); exact rfl))
      refine hsm.out.mono ?_; rintro e w9 ⟨rfl, hb9⟩; have hb9E := lh (below_step hb9 hb8E.out); clear hsm hb9 la3 lb3; cases B3 with
      | false =>
        have hno := lh (hF.out (fun e => by have h1 := sameC_iff.2 (congrArg ImgD.aft (hdd.out e)); rw [hB3.out] at h1; cases h1)); clear hF hT
        go_wp2_with fail
        go_ret; exact ⟨by rw [hno.out]; rfl, hbx.out.1.trans (hb9E.out.mono hbx.out.1.size)⟩
      | true =>
        go_wp2_with fail
        go_roundw
        case rel =>
         refine ⟨k + 1, by omega, by go_num, hb9E, fun i x y hi hxi hyi => ?_⟩; rcases Nat.lt_or_ge i k with h | h
         · exact hp.out i x y h hxi hyi
         · obtain rfl : i = k := by omega
           have e1 := Option.some.inj (hx.out.symm.trans hxi); have e2 := Option.some.inj (hy.out.symm.trans hyi); subst e1 e2; have g1 : pa = d1.page := hA.out.page; have g2 : pa = d2.page := hB.out.page; have g3 := sameC_iff.1 hB1.out; have g4 := sameC_iff.1 hB3.out; obtain ⟨_, _, _⟩ := d1; obtain ⟨_, _, _⟩ := d2; simp only at g1 g2 g3 g4; rw [← g1, ← g2, g3, g4]
        case measure => simp [RowKit.intOf]; omega
  · obtain rfl : in1 = k := by omega
    have hImg : Hid (a.images = b.images) := List.ext_getElem? fun i => by
     rcases Nat.lt_or_ge i in1 with h | h
     · have e1 : a.images[i]? = some (a.images[i]'(by have := ein1.out; omega)) := List.getElem?_eq_getElem _; have e2 : b.images[i]? = some (b.images[i]'(by have := ein2.out; omega)) := List.getElem?_eq_getElem _; rw [e1, e2, hp.out i _ _ h e1 e2]
     · rw [List.getElem?_eq_none (by have := ein1.out; omega), List.getElem?_eq_none (by have := ein2.out; omega)]
    clear hp hlt hk; clear z15 z25 z16 z26 z18 z28 z19 z29; have zz1 := (hbx.out.2.1.below hb.out (Nat.le_refl _)).cell 6 rfl; have zz2 := (hbx.out.2.2.1.below hb.out (Nat.le_refl _)).cell 6 rfl; go_wp2; clear zz1 zz2; have h0 := hb; clear hb
    go_loopw [126] (fun v wr => ∃ k : Nat, k ≤ sn1 ∧ v = .int .i64 k ∧ Hid (Below W.heap.size W wr) ∧ Hid (∀ (i : Nat) x y, i < k → a.steps[i]? = some x → b.steps[i]? = some y → x = y)) (fun v _ => sn1 - (RowKit.intOf v).toNat)
    case atStart => exact ⟨0, Nat.zero_le _, rfl, h0, fun i x y hi => absurd hi (Nat.not_lt_zero _)⟩
    case round =>
     obtain ⟨k, hk, rfl, hb, hp⟩ := hrel; clear h0
     by_cases hlt : k < sn1
     · obtain ⟨A, ⟨kda, ⟨⟨ta, ida⟩, vva, ssa⟩, bya⟩, hqA, hx0, hcA⟩ := (o1.out.steps.below hb.out (Nat.le_refl _)).at hlt; obtain ⟨B, ⟨kdb, ⟨⟨tb, idb⟩, vvb, ssb⟩, byb⟩, hqB, hy0, hcB⟩ := (o2.out.steps.below hb.out (Nat.le_refl _)).at hlt; subst hqA; subst hqB; have hcA : ∀ j' x, ([.int .i64 kda, .int .i64 ta, .int .u16 ida, .int .i64 vva, .string ssa, .int .i64 bya] : List Value)[j']? = some x → wr.cell? ((A.add (k * 6)).add j') = some x := hcA; have hcB : ∀ j' x, ([.int .i64 kdb, .int .i64 tb, .int .u16 idb, .int .i64 vvb, .string ssb, .int .i64 byb] : List Value)[j']? = some x → wr.cell? ((B.add (k * 6)).add j') = some x := hcB; have p0 : wr.cell? (A.add (k * 6)) = some (.int .i64 kda) := by have h := hcA 0 _ rfl; rwa [add0] at h
       have q0 : wr.cell? (B.add (k * 6)) = some (.int .i64 kdb) := by have h := hcB 0 _ rfl; rwa [add0] at h
       have p1 : wr.cell? ⟨(A.add (k * 6)).block, (A.add (k * 6)).off + 1, none⟩ = some (.int .i64 ta) := hcA 1 _ rfl; have q1 : wr.cell? ⟨(B.add (k * 6)).block, (B.add (k * 6)).off + 1, none⟩ = some (.int .i64 tb) := hcB 1 _ rfl; have p2 : wr.cell? ⟨(A.add (k * 6)).block, (A.add (k * 6)).off + 2, none⟩ = some (.int .u16 ida) := hcA 2 _ rfl; have q2 : wr.cell? ⟨(B.add (k * 6)).block, (B.add (k * 6)).off + 2, none⟩ = some (.int .u16 idb) := hcB 2 _ rfl; have p3 : wr.cell? ⟨(A.add (k * 6)).block, (A.add (k * 6)).off + 3, none⟩ = some (.int .i64 vva) := hcA 3 _ rfl; have q3 : wr.cell? ⟨(B.add (k * 6)).block, (B.add (k * 6)).off + 3, none⟩ = some (.int .i64 vvb) := hcB 3 _ rfl; have p4 : wr.cell? ⟨(A.add (k * 6)).block, (A.add (k * 6)).off + 4, none⟩ = some (.string ssa) := hcA 4 _ rfl; have q4 : wr.cell? ⟨(B.add (k * 6)).block, (B.add (k * 6)).off + 4, none⟩ = some (.string ssb) := hcB 4 _ rfl
       have p5 : wr.cell? ⟨(A.add (k * 6)).block, (A.add (k * 6)).off + 5, none⟩ = some (.int .i64 bya) := hcA 5 _ rfl; have q5 : wr.cell? ⟨(B.add (k * 6)).block, (B.add (k * 6)).off + 5, none⟩ = some (.int .i64 byb) := hcB 5 _ rfl; have zz1 := (hbx.out.2.1.below hb.out (Nat.le_refl _)).cell 6 rfl; have zz2 := (hbx.out.2.2.1.below hb.out (Nat.le_refl _)).cell 6 rfl; have hx := lh hx0; have hy := lh hy0; have i0 : (0 : Int) ≤ k := by omega
       have i1 : (k : Int) < sn1 := by omega
       clear hx0 hy0 hcA hcB; have hne := fun u => neq_step u kda ta ida vva ssa bya kdb tb idb vvb ssb byb
       obtain ⟨bb, hbv⟩ : ∃ bb, eqS ⟨kda, ⟨⟨ta, ida⟩, vva, ssa⟩, bya⟩ ⟨kdb, ⟨⟨tb, idb⟩, vvb, ssb⟩, byb⟩ = bb := ⟨_, rfl⟩; rw [hbv] at hne; have hbv := lh hbv; have hbE : Hid (∀ n, Below w.heap.size w (wr.drewN n)) := fun n => hbx.out.1.trans ((below_step (below_drewN wr n) hb.out).mono hbx.out.1.size)
       cases bb with
       | true =>
         go_wp2
         go_quiet (fail)
         clear hne zz1 zz2 p0 q0 p1 q1 p2 q2 p3 q3 p4 q4 p5 q5; go_wp2
         go_roundw
         case rel =>
          refine ⟨k + 1, by omega, by go_num, (show Below _ _ _ from below_step (below_drewN _ _) hb.out), fun i x y hi hxi hyi => ?_⟩; rcases Nat.lt_or_ge i k with h | h
          · exact hp.out i x y h hxi hyi
          · obtain rfl : i = k := by omega
            rw [hx.out] at hxi; rw [hy.out] at hyi; cases hxi; cases hyi; exact (eqS_iff _ _).1 hbv.out
         case measure => simp [RowKit.intOf]; omega
       | false =>
         have hno := lh (hF.out (fun e => by have e1 := Option.some.inj (hx.out.symm.trans ((by rw [e] : a.steps[k]? = b.steps[k]?).trans hy.out)); have h1 := (eqS_iff _ _).2 e1; rw [hbv.out] at h1; cases h1)); clear hF hT; go_wp2
         go_quiet (fail)
         clear hne zz1 zz2 p0 q0 p1 q1 p2 q2 p3 q3 p4 q4 p5 q5; go_wp2; go_ret; exact ⟨by rw [hno.out]; rfl, hbE.out _⟩
     · obtain rfl : sn1 = k := by omega
       have hstep : Hid (a.steps = b.steps) := List.ext_getElem? fun i => by
        rcases Nat.lt_or_ge i sn1 with h | h
        · have e1 : a.steps[i]? = some (a.steps[i]'(by have := esn1.out; omega)) := List.getElem?_eq_getElem _; have e2 : b.steps[i]? = some (b.steps[i]'(by have := esn2.out; omega)) := List.getElem?_eq_getElem _; rw [e1, e2, hp.out i _ _ h e1 e2]
        · rw [List.getElem?_eq_none (by have := esn1.out; omega), List.getElem?_eq_none (by have := esn2.out; omega)]
       clear hp hlt hk; have zz1 := (hbx.out.2.1.below hb.out (Nat.le_refl _)).cell 8 rfl; have zz2 := (hbx.out.2.2.1.below hb.out (Nat.le_refl _)).cell 8 rfl; go_wp2; clear zz1 zz2; have h0 := hb; clear hb
       go_loopw [144] (fun v wr => ∃ k : Nat, k ≤ tn1 ∧ v = .int .i64 k ∧ Hid (Below W.heap.size W wr) ∧ Hid (∀ (i : Nat) x y, i < k → a.txns[i]? = some x → b.txns[i]? = some y → x = y)) (fun v _ => tn1 - (RowKit.intOf v).toNat)
       case atStart => exact ⟨0, Nat.zero_le _, rfl, h0, fun i x y hi => absurd hi (Nat.not_lt_zero _)⟩
       case round =>
        obtain ⟨k, hk, rfl, hb, hp⟩ := hrel; clear h0
        by_cases hlt : k < tn1
        · obtain ⟨A, ⟨ta0, ta1, ta2, ta3, ta4⟩, hqA, hx0, hcA⟩ := (o1.out.txns.below hb.out (Nat.le_refl _)).at hlt; obtain ⟨B, ⟨tb0, tb1, tb2, tb3, tb4⟩, hqB, hy0, hcB⟩ := (o2.out.txns.below hb.out (Nat.le_refl _)).at hlt; subst hqA; subst hqB; have hcA : ∀ j' x, ([.int .i64 ta0, .int .u64 ta1, .int .u64 ta2, .int .u64 ta3, .int .i64 ta4] : List Value)[j']? = some x → wr.cell? ((A.add (k * 5)).add j') = some x := hcA; have hcB : ∀ j' x, ([.int .i64 tb0, .int .u64 tb1, .int .u64 tb2, .int .u64 tb3, .int .i64 tb4] : List Value)[j']? = some x → wr.cell? ((B.add (k * 5)).add j') = some x := hcB; have p0 : wr.cell? (A.add (k * 5)) = some (.int .i64 ta0) := by have h := hcA 0 _ rfl; rwa [add0] at h
          have q0 : wr.cell? (B.add (k * 5)) = some (.int .i64 tb0) := by have h := hcB 0 _ rfl; rwa [add0] at h
          have p1 : wr.cell? ⟨(A.add (k * 5)).block, (A.add (k * 5)).off + 1, none⟩ = some (.int .u64 ta1) := hcA 1 _ rfl; have q1 : wr.cell? ⟨(B.add (k * 5)).block, (B.add (k * 5)).off + 1, none⟩ = some (.int .u64 tb1) := hcB 1 _ rfl; have p2 : wr.cell? ⟨(A.add (k * 5)).block, (A.add (k * 5)).off + 2, none⟩ = some (.int .u64 ta2) := hcA 2 _ rfl; have q2 : wr.cell? ⟨(B.add (k * 5)).block, (B.add (k * 5)).off + 2, none⟩ = some (.int .u64 tb2) := hcB 2 _ rfl; have p3 : wr.cell? ⟨(A.add (k * 5)).block, (A.add (k * 5)).off + 3, none⟩ = some (.int .u64 ta3) := hcA 3 _ rfl; have q3 : wr.cell? ⟨(B.add (k * 5)).block, (B.add (k * 5)).off + 3, none⟩ = some (.int .u64 tb3) := hcB 3 _ rfl; have p4 : wr.cell? ⟨(A.add (k * 5)).block, (A.add (k * 5)).off + 4, none⟩ = some (.int .i64 ta4) := hcA 4 _ rfl; have q4 : wr.cell? ⟨(B.add (k * 5)).block, (B.add (k * 5)).off + 4, none⟩ = some (.int .i64 tb4) := hcB 4 _ rfl
          have zz1 := (hbx.out.2.1.below hb.out (Nat.le_refl _)).cell 8 rfl; have zz2 := (hbx.out.2.2.1.below hb.out (Nat.le_refl _)).cell 8 rfl; have hx := lh hx0; have hy := lh hy0; have i0 : (0 : Int) ≤ k := by omega
          have i1 : (k : Int) < tn1 := by omega
          clear hx0 hy0 hcA hcB; have hne := fun u => neq_txn u ta0 tb0 ta1 tb1 ta2 tb2 ta3 tb3 ta4 tb4
          obtain ⟨bb, hbv⟩ : ∃ bb, eqT ⟨ta0, ta1, ta2, ta3, ta4⟩ ⟨tb0, tb1, tb2, tb3, tb4⟩ = bb := ⟨_, rfl⟩; rw [hbv] at hne; have hbv := lh hbv; have hbE : Hid (∀ n, Below w.heap.size w (wr.drewN n)) := fun n => hbx.out.1.trans ((below_step (below_drewN wr n) hb.out).mono hbx.out.1.size)
          cases bb with
          | true =>
            go_wp2
            go_quiet (fail)
            clear hne zz1 zz2 p0 q0 p1 q1 p2 q2 p3 q3 p4 q4; go_wp2
            go_roundw
            case rel =>
             refine ⟨k + 1, by omega, by go_num, (show Below _ _ _ from below_step (below_drewN _ _) hb.out), fun i x y hi hxi hyi => ?_⟩; rcases Nat.lt_or_ge i k with h | h
             · exact hp.out i x y h hxi hyi
             · obtain rfl : i = k := by omega
               rw [hx.out] at hxi; rw [hy.out] at hyi; cases hxi; cases hyi; exact (eqT_iff _ _).1 hbv.out
            case measure => simp [RowKit.intOf]; omega
          | false =>
            have hno := lh (hF.out (fun e => by have e1 := Option.some.inj (hx.out.symm.trans ((by rw [e] : a.txns[k]? = b.txns[k]?).trans hy.out)); have h1 := (eqT_iff _ _).2 e1; rw [hbv.out] at h1; cases h1)); clear hF hT; go_wp2
            go_quiet (fail)
            clear hne zz1 zz2 p0 q0 p1 q1 p2 q2 p3 q3 p4 q4; go_wp2; go_ret; exact ⟨by rw [hno.out]; rfl, hbE.out _⟩
        · obtain rfl : tn1 = k := by omega
          have htxn : Hid (a.txns = b.txns) := List.ext_getElem? fun i => by
           rcases Nat.lt_or_ge i tn1 with h | h
           · have e1 : a.txns[i]? = some (a.txns[i]'(by have := etn1.out; omega)) := List.getElem?_eq_getElem _; have e2 : b.txns[i]? = some (b.txns[i]'(by have := etn2.out; omega)) := List.getElem?_eq_getElem _; rw [e1, e2, hp.out i _ _ h e1 e2]
           · rw [List.getElem?_eq_none (by have := etn1.out; omega), List.getElem?_eq_none (by have := etn2.out; omega)]
          clear hp hlt hk; have zz1 := (hbx.out.2.1.below hb.out (Nat.le_refl _)).cell 9 rfl; have zz2 := (hbx.out.2.2.1.below hb.out (Nat.le_refl _)).cell 9 rfl; go_wp2; clear zz1 zz2; have h0 := hb; clear hb
          go_loopw [162] (fun v wr => ∃ k : Nat, k ≤ dn1 ∧ v = .int .i64 k ∧ Hid (Below W.heap.size W wr) ∧ Hid (∀ (i : Nat) x y, i < k → a.dirty[i]? = some x → b.dirty[i]? = some y → x = y)) (fun v _ => dn1 - (RowKit.intOf v).toNat)
          case atStart => exact ⟨0, Nat.zero_le _, rfl, h0, fun i x y hi => absurd hi (Nat.not_lt_zero _)⟩
          case round =>
           obtain ⟨k, hk, rfl, hb, hp⟩ := hrel; clear h0
           by_cases hlt : k < dn1
           · obtain ⟨A, ⟨ga0, ga1⟩, hqA, hx0, hcA⟩ := (o1.out.dirty.below hb.out (Nat.le_refl _)).at hlt; obtain ⟨B, ⟨gb0, gb1⟩, hqB, hy0, hcB⟩ := (o2.out.dirty.below hb.out (Nat.le_refl _)).at hlt; subst hqA; subst hqB; have hcA : ∀ j' x, ([.int .i64 ga0, .int .u64 ga1] : List Value)[j']? = some x → wr.cell? ((A.add (k * 2)).add j') = some x := hcA; have hcB : ∀ j' x, ([.int .i64 gb0, .int .u64 gb1] : List Value)[j']? = some x → wr.cell? ((B.add (k * 2)).add j') = some x := hcB; have p0 : wr.cell? (A.add (k * 2)) = some (.int .i64 ga0) := by have h := hcA 0 _ rfl; rwa [add0] at h
             have q0 : wr.cell? (B.add (k * 2)) = some (.int .i64 gb0) := by have h := hcB 0 _ rfl; rwa [add0] at h
             have p1 : wr.cell? ⟨(A.add (k * 2)).block, (A.add (k * 2)).off + 1, none⟩ = some (.int .u64 ga1) := hcA 1 _ rfl; have q1 : wr.cell? ⟨(B.add (k * 2)).block, (B.add (k * 2)).off + 1, none⟩ = some (.int .u64 gb1) := hcB 1 _ rfl; have zz1 := (hbx.out.2.1.below hb.out (Nat.le_refl _)).cell 9 rfl; have zz2 := (hbx.out.2.2.1.below hb.out (Nat.le_refl _)).cell 9 rfl; have hx := lh hx0; have hy := lh hy0; have i0 : (0 : Int) ≤ k := by omega
             have i1 : (k : Int) < dn1 := by omega
             clear hx0 hy0 hcA hcB; have hne := fun u => neq_pg u ga0 gb0 ga1 gb1
             obtain ⟨bb, hbv⟩ : ∃ bb, eqP ⟨ga0, ga1⟩ ⟨gb0, gb1⟩ = bb := ⟨_, rfl⟩; rw [hbv] at hne; have hbv := lh hbv; have hbE : Hid (∀ n, Below w.heap.size w (wr.drewN n)) := fun n => hbx.out.1.trans ((below_step (below_drewN wr n) hb.out).mono hbx.out.1.size)
             cases bb with
             | true =>
               go_wp2
               go_quiet (fail)
               clear hne zz1 zz2 p0 q0 p1 q1; go_wp2
               go_roundw
               case rel =>
                refine ⟨k + 1, by omega, by go_num, (show Below _ _ _ from below_step (below_drewN _ _) hb.out), fun i x y hi hxi hyi => ?_⟩; rcases Nat.lt_or_ge i k with h | h
                · exact hp.out i x y h hxi hyi
                · obtain rfl : i = k := by omega
                  rw [hx.out] at hxi; rw [hy.out] at hyi; cases hxi; cases hyi; exact (eqP_iff _ _).1 hbv.out
               case measure => simp [RowKit.intOf]; omega
             | false =>
               have hno := lh (hF.out (fun e => by have e1 := Option.some.inj (hx.out.symm.trans ((by rw [e] : a.dirty[k]? = b.dirty[k]?).trans hy.out)); have h1 := (eqP_iff _ _).2 e1; rw [hbv.out] at h1; cases h1)); clear hF hT; go_wp2
               go_quiet (fail)
               clear hne zz1 zz2 p0 q0 p1 q1; go_wp2; go_ret; exact ⟨by rw [hno.out]; rfl, hbE.out _⟩
           · obtain rfl : dn1 = k := by omega
             have hpg : Hid (a.dirty = b.dirty) := List.ext_getElem? fun i => by
              rcases Nat.lt_or_ge i dn1 with h | h
              · have e1 : a.dirty[i]? = some (a.dirty[i]'(by have := edn1.out; omega)) := List.getElem?_eq_getElem _; have e2 : b.dirty[i]? = some (b.dirty[i]'(by have := edn2.out; omega)) := List.getElem?_eq_getElem _; rw [e1, e2, hp.out i _ _ h e1 e2]
              · rw [List.getElem?_eq_none (by have := edn1.out; omega), List.getElem?_eq_none (by have := edn2.out; omega)]
             clear hp hlt hk
             have hyes := hT.out (by
              have g0 : k1 = a.kind := o1.out.kind; have g1 : l1 = a.lsn := o1.out.lsn; have g2 : x1 = a.txn := o1.out.txn; have g3 : v1 = a.prev := o1.out.prev; have g4 : n1 = a.next := o1.out.next; have g5 : y1 = a.nextTxn := o1.out.nextTxn; have r0 : k1 = b.kind := o2.out.kind; have r1 : l1 = b.lsn := o2.out.lsn; have r2 : x1 = b.txn := o2.out.txn; have r3 : v1 = b.prev := o2.out.prev; have r4 : n1 = b.next := o2.out.next; have r5 : y1 = b.nextTxn := o2.out.nextTxn; have s0 := hImg.out; have s1 := hstep.out; have s2 := htxn.out; have s3 := hpg.out; clear hF hT o1 o2; obtain ⟨_, _, _, _, _, _, _, _, _, _⟩ := a; obtain ⟨_, _, _, _, _, _, _, _, _, _⟩ := b; simp only at g0 g1 g2 g3 g4 g5 r0 r1 r2 r3 r4 r5 s0 s1 s2 s3
              rw [← g0, ← g1, ← g2, ← g3, ← g4, ← g5, ← r0, ← r1, ← r2, ← r3, ← r4, ← r5, s0, s1, s2, s3])
             go_wp2; go_ret; exact ⟨by rw [hyes]; rfl, hbx.out.1.trans (hb.out.mono hbx.out.1.size)⟩
end Go.Proofs.YtocekhckmpkbmaaGreat
