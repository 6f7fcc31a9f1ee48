/- Parts of the proof: Right and Same of the document (Right: the text XKDd, laid in here); Three operations of a region, two in their order and one at any time: all orders end alike. Nothing of a program is claimed here; Regions that lay pieces of bytes behind one another: each piece is made, by a call or a literal, at any time, and appended in its turn; all orders end alike; The document's record: the last bytes of a number -/
import Derived.Test.YtocekhckmpkbmaaGreatU15
import Derived.Test.YtocekhckmpkbmaaGreatU01
import Derived.Test.YtocekhckmpkbmaaGreatU13
namespace Go.Proofs.YtocekhckmpkbmaaGreat
open Go.RowKit
theorem YesNo.far {p q : Prop} {w u : World} {b : Bool} (h : b = true ↔ p) (hq : p ↔ q) (hb : Below w.heap.size w u) : YesNo q w (.returned (.bool b)) u := ⟨b, rfl, h.trans hq, hb⟩
set_option maxRecDepth 100000 in
set_option maxHeartbeats 4000000 in
theorem right_doc (k : Int) (rq : Option Addr) (rn rc : Nat) (kq : Option Addr) (kn kc : Nat) (c : ContD) (w : World) (h : ContOn w k rq rn rc kq kn kc c) :
 Calls Tryz.prog 58 #[.agg #[.int .i64 k, .slice rq rn rc, .slice kq kn kc]] w (YesNo (GoodC c) w) := by
 obtain ⟨W, hW⟩ : ∃ W, w.alloc (.cells #[.int .i64 k, .slice rq rn rc, .slice kq kn kc] 55) = W := ⟨_, rfl⟩; have hbx := lh (one_box hW); have c0 := hbx.out.2.1.cell 0 rfl; have c1 := hbx.out.2.1.cell 1 rfl; have c2 := hbx.out.2.1.cell 2 rfl; have hrr := lh (h.rows.below hbx.out.1 (Nat.le_refl _)); have hkk := lh (h.kids.below hbx.out.1 (Nat.le_refl _)); have hrl := lh h.rows.len; have hkl := lh h.kids.len; have hkind := lh h.kind; obtain ⟨ck, crows, ckids⟩ := c; have hk0 : Hid (k = ck) := h.kind; obtain rfl : ck = k := hk0.out.symm; clear h hkind hk0
 by_cases h0 : ck = 0
 · subst h0
   by_cases hr0 : rn = 0
   · subst hr0
     by_cases hk0 : kn = 0
     · subst hk0
       go_enter Tryz.func58, Tryz.ntmps58
       go_wp2; clear hW; go_ret; exact ⟨true, rfl, ⟨fun _ => (good0 rfl).2 ⟨List.eq_nil_of_length_eq_zero hrl.out, List.eq_nil_of_length_eq_zero hkl.out⟩, fun _ => rfl⟩, hbx.out.1⟩
     · have d : ((kn : Int) == 0) = false := by rw [beq_eq_false_iff_ne]; omega
       go_enter Tryz.func58, Tryz.ntmps58
       go_wp2; clear hW; go_ret; exact ⟨false, rfl, ⟨fun h => (by cases h), fun h => absurd ((good0 rfl).1 h).2 (not_nil hkl.out (by omega))⟩, hbx.out.1⟩
   · have d : ((rn : Int) == 0) = false := by rw [beq_eq_false_iff_ne]; omega
     go_enter Tryz.func58, Tryz.ntmps58
     go_wp2; clear hW; go_ret; exact ⟨false, rfl, ⟨fun h => (by cases h), fun h => absurd ((good0 rfl).1 h).1 (not_nil hrl.out (by omega))⟩, hbx.out.1⟩
 · by_cases h1 : ck = 1
   · subst h1
     by_cases hk0 : kn = 0
     · subst hk0; have hdoc := lh (rows_doc rq rn rc crows W hrr.out)
       go_enter Tryz.func58, Tryz.ntmps58
       go_wp2_with fail
       clear hW; refine hdoc.out.mono ?_; rintro e w1 ⟨b, rfl, hb, hb1⟩; have hb' := lh hb; have hd := lh (below_step hb1 hbx.out.1); clear hb hb1 hdoc; go_wp2; go_ret; exact ⟨b, rfl, ⟨fun h => (good1 rfl).2 ⟨hb'.out.1 h, List.eq_nil_of_length_eq_zero hkl.out⟩, fun h => hb'.out.2 ((good1 rfl).1 h).1⟩, hd.out⟩
     · have d : ((kn : Int) == 0) = false := by rw [beq_eq_false_iff_ne]; omega
       go_enter Tryz.func58, Tryz.ntmps58
       go_wp2; clear hW; go_ret; exact ⟨false, rfl, ⟨fun h => (by cases h), fun h => absurd ((good1 rfl).1 h).2 (not_nil hkl.out (by omega))⟩, hbx.out.1⟩
   · by_cases h2 : ck = 2
     · subst h2
       by_cases hr0 : rn = 0
       · subst hr0; have hdoc := lh (kids_doc kq kn kc ckids W hkk.out)
         go_enter Tryz.func58, Tryz.ntmps58
         go_wp2_with fail
         clear hW; refine hdoc.out.mono ?_; rintro e w1 ⟨b, rfl, hb, hb1⟩; have hb' := lh hb; have hd := lh (below_step hb1 hbx.out.1); clear hb hb1 hdoc; go_wp2; go_ret; exact ⟨b, rfl, ⟨fun h => (good2 rfl).2 ⟨hb'.out.1 h, List.eq_nil_of_length_eq_zero hrl.out⟩, fun h => hb'.out.2 ((good2 rfl).1 h).1⟩, hd.out⟩
       · have d : ((rn : Int) == 0) = false := by rw [beq_eq_false_iff_ne]; omega
         go_enter Tryz.func58, Tryz.ntmps58
         go_wp2; clear hW; go_ret; exact ⟨false, rfl, ⟨fun h => (by cases h), fun h => absurd ((good2 rfl).1 h).2 (not_nil hrl.out (by omega))⟩, hbx.out.1⟩
     · have d0 : (ck == 0) = false := by rw [beq_eq_false_iff_ne]; exact h0
       have d1 : (ck == 1) = false := by rw [beq_eq_false_iff_ne]; exact h1
       have d2 : (ck == 2) = false := by rw [beq_eq_false_iff_ne]; exact h2
       have hno := lh (goodN (rows := crows) (kids := ckids) h0 h1 h2); clear h0 h1 h2
       go_enter Tryz.func58, Tryz.ntmps58
       go_wp2; clear hW; go_ret; exact ⟨false, rfl, ⟨fun h => (by cases h), fun h => absurd h hno.out⟩, hbx.out.1⟩
theorem sameC_kind {a b : ContD} (h : a.kind ≠ b.kind) : sameC a b = false := by
 unfold sameC; rw [show (a.kind == b.kind) = false by rw [beq_eq_false_iff_ne]; exact h]; rfl
theorem sameC_rows {a b : ContD} (h : sameL a.rows b.rows = false) : sameC a b = false := by
 unfold sameC; rw [h, Bool.and_false]; rfl
theorem sameC_kids {a b : ContD} (h : sameK a.kids b.kids = false) : sameC a b = false := by
 unfold sameC; rw [h, Bool.and_false]
theorem sameC_all {a b : ContD} (h : a.kind = b.kind) (h1 : sameL a.rows b.rows = true) (h2 : sameK a.kids b.kids = true) : sameC a b = true := by
 unfold sameC; rw [h1, h2, h, beq_self_eq_true]; rfl
set_option maxRecDepth 100000 in
set_option maxHeartbeats 4000000 in
theorem same_doc (k1 : Int) (rq1 : Option Addr) (rn1 rc1 : Nat) (kq1 : Option Addr) (kn1 kc1 : Nat) (a : ContD) (k2 : Int) (rq2 : Option Addr) (rn2 rc2 : Nat) (kq2 : Option Addr) (kn2 kc2 : Nat) (b : ContD) (w : World) (h1 : ContOn w k1 rq1 rn1 rc1 kq1 kn1 kc1 a) (h2 : ContOn w k2 rq2 rn2 rc2 kq2 kn2 kc2 b) :
 Calls Tryz.prog 28 #[.agg #[.int .i64 k1, .slice rq1 rn1 rc1, .slice kq1 kn1 kc1], .agg #[.int .i64 k2, .slice rq2 rn2 rc2, .slice kq2 kn2 kc2]] w (fun e w' => e = .returned (.bool (sameC a b)) ∧ Below w.heap.size w w') := by
 obtain ⟨W, hW⟩ : ∃ W, (w.alloc (.cells #[.int .i64 k1, .slice rq1 rn1 rc1, .slice kq1 kn1 kc1] 55)).alloc (.cells #[.int .i64 k2, .slice rq2 rn2 rc2, .slice kq2 kn2 kc2] 55) = W := ⟨_, rfl⟩; have hbx := lh (two_boxes hW); have c0 := hbx.out.2.1.cell 0 rfl; have c1 := hbx.out.2.1.cell 1 rfl; have c2 := hbx.out.2.1.cell 2 rfl; have d0 := hbx.out.2.2.1.cell 0 rfl; have d1 := hbx.out.2.2.1.cell 1 rfl; have d2 := hbx.out.2.2.1.cell 2 rfl; have r1 := lh (h1.rows.below hbx.out.1 (Nat.le_refl _)); have r2 := lh (h2.rows.below hbx.out.1 (Nat.le_refl _)); have s1 := lh (h1.kids.below hbx.out.1 (Nat.le_refl _)); have s2 := lh (h2.kids.below hbx.out.1 (Nat.le_refl _)); have kk1 := lh h1.kind; have kk2 := lh h2.kind; have m1 := Nat.le_trans r1.out.le r1.out.cap; have m2 := Nat.le_trans s1.out.le s1.out.cap; unfold maxLen at m1 m2; have hT : Hid (sameL a.rows b.rows = true → sameK a.kids b.kids = true → k1 = k2 → sameC a b = true) := fun x y z => sameC_all (by rw [← kk1.out, ← kk2.out]; exact z) x y
 have hR : Hid (sameL a.rows b.rows = false → sameC a b = false) := fun x => sameC_rows x
 have hK : Hid (sameK a.kids b.kids = false → sameC a b = false) := fun x => sameC_kids x
 have hN : Hid (k1 ≠ k2 → sameC a b = false) := fun x => sameC_kind (by rw [← kk1.out, ← kk2.out]; exact x)
 obtain ⟨E, hE⟩ : ∃ E, sameC a b = E := ⟨_, rfl⟩; rw [hE] at hT hR hK hN ⊢; clear h1 h2 hE
 by_cases hk : k1 = k2
 · subst hk
   by_cases hn : rn1 = rn2
   · subst hn
     by_cases hm : kn1 = kn2
     · subst hm
       go_enter Tryz.func28, Tryz.ntmps28
       go_wp2; clear hW
       go_loopw [33] (fun v33 wr => ∃ k : Nat, k ≤ rn1 ∧ v33 = .int .i64 k ∧ Hid (Below W.heap.size W wr) ∧ Hid (∀ i x y, i < k → a.rows[i]? = some x → b.rows[i]? = some y → eqR x y = true)) (fun v33 _ => rn1 - (RowKit.intOf v33).toNat)
       case atStart => exact ⟨0, Nat.zero_le _, rfl, (show Below _ _ _ from Below.refl _ _), fun i a b hi => by omega⟩
       case round =>
        obtain ⟨k, hk, rfl, hb, hp⟩ := hrel; have e1 := (hbx.out.2.1.below hb.out (Nat.le_refl _)).cell 1 rfl; have f1 := (hbx.out.2.2.1.below hb.out (Nat.le_refl _)).cell 1 rfl; have e2 := (hbx.out.2.1.below hb.out (Nat.le_refl _)).cell 2 rfl; have f2 := (hbx.out.2.2.1.below hb.out (Nat.le_refl _)).cell 2 rfl
        by_cases hlt : k < rn1
        · obtain ⟨A, ⟨⟨at_, ai⟩, av, as_⟩, hqA, hx, hokA, hcA⟩ := (r1.out.below hb.out (Nat.le_refl _)).at hlt; obtain ⟨B, ⟨⟨bt, bi⟩, bv, bs⟩, hqB, hy, hokB, hcB⟩ := (r2.out.below hb.out (Nat.le_refl _)).at hlt; subst hqA; subst hqB; have p0 : wr.cell? (A.add (k * 4)) = some (.int .i64 at_) := by have h := hcA 0 _ rfl; rwa [add0] at h
          have p1 : wr.cell? ⟨(A.add (k * 4)).block, (A.add (k * 4)).off + 1, none⟩ = some (.int .u16 ai) := hcA 1 _ rfl; have p2 : wr.cell? ⟨(A.add (k * 4)).block, (A.add (k * 4)).off + 2, none⟩ = some (.int .i64 av) := hcA 2 _ rfl; have p3 : wr.cell? ⟨(A.add (k * 4)).block, (A.add (k * 4)).off + 3, none⟩ = some (.string as_) := hcA 3 _ rfl; have q0 : wr.cell? (B.add (k * 4)) = some (.int .i64 bt) := by have h := hcB 0 _ rfl; rwa [add0] at h
          have q1 : wr.cell? ⟨(B.add (k * 4)).block, (B.add (k * 4)).off + 1, none⟩ = some (.int .u16 bi) := hcB 1 _ rfl; have q2 : wr.cell? ⟨(B.add (k * 4)).block, (B.add (k * 4)).off + 2, none⟩ = some (.int .i64 bv) := hcB 2 _ rfl; have q3 : wr.cell? ⟨(B.add (k * 4)).block, (B.add (k * 4)).off + 3, none⟩ = some (.string bs) := hcB 3 _ rfl; have hx' := lh hx; have hy' := lh hy; have i0 : (0 : Int) ≤ k := by omega
          have i1 : (k : Int) < rn1 := by omega
          clear hx hy hokA hokB hcA hcB; have hne := fun u => neq_row u at_ ai av as_ bt bi bv bs
          obtain ⟨z, hbv⟩ : ∃ z, eqR ⟨⟨at_, ai⟩, av, as_⟩ ⟨⟨bt, bi⟩, bv, bs⟩ = z := ⟨_, rfl⟩; rw [hbv] at hne; have hbv' := lh hbv; clear hbv; cases z with
          | true =>
            go_wp2
            go_quiet (fail)
            clear hne p0 p1 p2 p3 q0 q1 q2 q3; go_wp2
            go_roundw
            case rel =>
             refine ⟨k + 1, by omega, by go_num, (show Below _ _ _ from hb.out.trans ((below_drewN _ _).mono hb.out.size)), fun i x y hi ha hb2 => ?_⟩; rcases Nat.lt_or_ge i k with h | h
             · exact hp.out i x y h ha hb2
             · obtain rfl : i = k := by omega
               rw [hx'.out] at ha; rw [hy'.out] at hb2; cases ha; cases hb2; exact hbv'.out
            case measure => simp [RowKit.intOf]; omega
          | false =>
            obtain rfl : E = false := hR.out (sameL_at hx'.out hy'.out hbv'.out); go_wp2
            go_quiet (fail)
            clear hne p0 p1 p2 p3 q0 q1 q2 q3; go_wp2; go_ret; exact ⟨rfl, hbx.out.1.trans ((hb.out.trans ((below_drewN _ _).mono hb.out.size)).mono hbx.out.1.size)⟩
        · obtain rfl : rn1 = k := by omega
          have hSR : Hid (sameL a.rows b.rows = true) := sameL_of r1.out.len r2.out.len hp.out; have hb0 := lh hb.out; clear e1 f1 hb hp; go_wp2; obtain ⟨w0, rfl⟩ : ∃ x, x = wr := ⟨_, rfl⟩; clear e2 f2
          go_loopw [51] (fun v51 wr => ∃ j : Nat, j ≤ kn1 ∧ v51 = .int .i64 j ∧ Hid (Below W.heap.size W wr) ∧ Hid (∀ i x y, i < j → a.kids[i]? = some x → b.kids[i]? = some y → eqKid x y = true)) (fun v51 _ => kn1 - (RowKit.intOf v51).toNat)
          case atStart => exact ⟨0, Nat.zero_le _, rfl, hb0, fun i a b hi => by omega⟩
          case round =>
           obtain ⟨j, hj, rfl, hb, hp⟩ := hrel; have e2 := (hbx.out.2.1.below hb.out (Nat.le_refl _)).cell 2 rfl; have f2 := (hbx.out.2.2.1.below hb.out (Nat.le_refl _)).cell 2 rfl
           by_cases hlj : j < kn1
           · obtain ⟨A, ⟨⟨at_, ai⟩, av⟩, hqA, hx, hokA, hcA⟩ := (s1.out.below hb.out (Nat.le_refl _)).at hlj; obtain ⟨B, ⟨⟨bt, bi⟩, bv⟩, hqB, hy, hokB, hcB⟩ := (s2.out.below hb.out (Nat.le_refl _)).at hlj; subst hqA; subst hqB; have p0 : wr.cell? (A.add (j * 3)) = some (.int .i64 at_) := by have h := hcA 0 _ rfl; rwa [add0] at h
             have p1 : wr.cell? ⟨(A.add (j * 3)).block, (A.add (j * 3)).off + 1, none⟩ = some (.int .u16 ai) := hcA 1 _ rfl; have p2 : wr.cell? ⟨(A.add (j * 3)).block, (A.add (j * 3)).off + 2, none⟩ = some (.int .i64 av) := hcA 2 _ rfl; have q0 : wr.cell? (B.add (j * 3)) = some (.int .i64 bt) := by have h := hcB 0 _ rfl; rwa [add0] at h
             have q1 : wr.cell? ⟨(B.add (j * 3)).block, (B.add (j * 3)).off + 1, none⟩ = some (.int .u16 bi) := hcB 1 _ rfl; have q2 : wr.cell? ⟨(B.add (j * 3)).block, (B.add (j * 3)).off + 2, none⟩ = some (.int .i64 bv) := hcB 2 _ rfl; have hx' := lh hx; have hy' := lh hy; have i0 : (0 : Int) ≤ j := by omega
             have i1 : (j : Int) < kn1 := by omega
             clear hx hy hokA hokB hcA hcB; have hne := fun u => neq_kid u at_ ai av bt bi bv
             obtain ⟨z, hbv⟩ : ∃ z, eqKid ⟨⟨at_, ai⟩, av⟩ ⟨⟨bt, bi⟩, bv⟩ = z := ⟨_, rfl⟩; rw [hbv] at hne; have hbv' := lh hbv; clear hbv; cases z with
             | true =>
               go_wp2
               go_quiet (fail)
               clear hne p0 p1 p2 q0 q1 q2; go_wp2
               go_roundw
               case rel =>
                refine ⟨j + 1, by omega, by go_num, (show Below _ _ _ from hb.out.trans ((below_drewN _ _).mono hb.out.size)), fun i x y hi ha hb2 => ?_⟩; rcases Nat.lt_or_ge i j with h | h
                · exact hp.out i x y h ha hb2
                · obtain rfl : i = j := by omega
                  rw [hx'.out] at ha; rw [hy'.out] at hb2; cases ha; cases hb2; exact hbv'.out
               case measure => simp [RowKit.intOf]; omega
             | false =>
               obtain rfl : E = false := hK.out (sameK_at hx'.out hy'.out hbv'.out); go_wp2
               go_quiet (fail)
               clear hne p0 p1 p2 q0 q1 q2; go_wp2; go_ret; exact ⟨rfl, hbx.out.1.trans ((hb.out.trans ((below_drewN _ _).mono hb.out.size)).mono hbx.out.1.size)⟩
           · obtain rfl : kn1 = j := by omega
             obtain rfl : E = true := hT.out hSR.out (sameK_of s1.out.len s2.out.len hp.out) (by first | rfl | trivial); clear e2 f2; go_wp2; go_ret; exact ⟨rfl, hbx.out.1.trans (hb.out.mono hbx.out.1.size)⟩
     · have hn2 : decide (kn1 = kn2) = false := decide_eq_false hm; obtain rfl : E = false := hK.out (sameK_ne (by rw [s1.out.len, s2.out.len]; exact hm)); have hn1 : ¬ (kn1 : Int) = kn2 := by omega
       go_enter Tryz.func28, Tryz.ntmps28
       go_wp2; clear hW; go_ret; exact ⟨rfl, hbx.out.1⟩
   · have hn2 : decide (rn1 = rn2) = false := decide_eq_false hn; obtain rfl : E = false := hR.out (sameL_ne (by rw [r1.out.len, r2.out.len]; exact hn)); have hn1 : ¬ (rn1 : Int) = rn2 := by omega
     go_enter Tryz.func28, Tryz.ntmps28
     go_wp2; clear hW; go_ret; exact ⟨rfl, hbx.out.1⟩
 · have hk2 : (k1 == k2) = false := by rw [beq_eq_false_iff_ne]; exact hk
   obtain rfl : E = false := hN.out hk
   go_enter Tryz.func28, Tryz.ntmps28
   go_wp2; clear hW; go_ret; exact ⟨rfl, hbx.out.1⟩
end Go.Proofs.YtocekhckmpkbmaaGreat
namespace Go.Proofs.YtocekhckmpkbmaaGreat
open Go.RowKit
/-! three operations, two in their order and one at any time -/
section
variable {P : Program} {ops : Array Oper} {Q : Exit → Act → World → Prop} {md : Region.Mode} {S : World → Prop}
/-- the operation o, a call or not, ends in a value that meets R -/
def Ends (P : Program) (o : Oper) (a : Act) (w : World) (R : Value → World → Prop) : Prop :=
 (∃ f args C, (execOp a.eval o).run P w = .ok (.enter f args) w ∧ Calls P f args w C ∧ ∀ e w', C e w' → ∃ v, e = .returned v ∧ R v w') ∨
 (∃ v w', (execOp a.eval o).run P w = .ok (.value v) w' ∧ R v w')
theorem Ends.op {i : Nat} {o : Oper} {a : Act} {w : World} {K : Act → World → Prop} {R : Value → World → Prop} (hi : ops[i]? = some o) (hw : Region.wanted o (yielded ops a.tmps) = true) (h : Ends P o a w R) (hR : ∀ v w', R v w' → K (a.put o.dst v) w') : wpOp P ops Q i K a w := by
 unfold wpOp; simp only [hi, hw, if_true]; refine .inl ?_; unfold Oper.wp; rcases h with ⟨f, args, C, hrun, hc, hz⟩ | ⟨v, w', hrun, hz⟩
 · rw [hrun, Oper.upon_enter]; refine hc.mono fun e w' he => ?_
   obtain ⟨v, rfl, h2⟩ := hz e w' he; exact hR v w' h2
 · rw [hrun, Oper.upon_value]; exact hR v w' hz
def lack (x : Option Value) : Nat := match x with | none => 1 | some _ => 0
theorem held_three {L : Bool → Bool → Bool → Array Bool} {A : Option Value → Option Value → Option Value → Act} {K : Option Value → Option Value → Option Value → World → Prop} {fuel : Nat}
 {i j p : Nat} {oi oj op : Oper} (hi : ops[i]? = some oi) (hj : ops[j]? = some oj) (hp : ops[p]? = some op)
 (li : ∀ b c, (L false b c).setIfInBounds i true = L true b c) (lj : ∀ b c, (L b false c).setIfInBounds j true = L b true c) (lp : ∀ b c, (L b c false).setIfInBounds p true = L b c true)
 (ai : ∀ x y v, (A none x y).put oi.dst v = A (some v) x y) (aj : ∀ x y v, (A x none y).put oj.dst v = A x (some v) y) (ap : ∀ x y v, (A x y none).put op.dst v = A x y (some v))
 (wi : ∀ x y z, Region.wanted oi (yielded ops (A x y z).tmps) = true) (wj : ∀ x y z, Region.wanted oj (yielded ops (A x y z).tmps) = true) (wp : ∀ x y z, Region.wanted op (yielded ops (A x y z).tmps) = true)
 (hr : ∀ bi bj bp : Bool, (bj = true → bi = true) → (bi && bj && bp) = false → Region.ready md ops (L bi bj bp) = (if bi then (if bj then [] else [j]) else [i]) ++ (if bp then [] else [p]))
 (si : ∀ z w, K none none z w → Ends P oi (A none none z) w (fun v w' => S w' ∧ K (some v) none z w'))
 (sj : ∀ x z w, K (some x) none z w → Ends P oj (A (some x) none z) w (fun v w' => S w' ∧ K (some x) (some v) z w'))
 (sp : ∀ x y w, K x y none w → Ends P op (A x y none) w (fun v w' => S w' ∧ K x y (some v) w'))
 (h : ∀ x y z w, K (some x) (some y) (some z) w → wpAnyH P md ops Q S fuel (L true true true) (A (some x) (some y) (some z)) w) :
 ∀ (n : Nat) (x y z : Option Value) (w : World), (y.isSome = true → x.isSome = true) → lack x + lack y + lack z = n → K x y z w → wpAnyH P md ops Q S (fuel + n) (L x.isSome y.isSome z.isSome) (A x y z) w := by
 intro n
 induction n with
 | zero =>
   intro x y z w _ hn hk
   match x, y, z with
   | some x, some y, some z => exact h x y z w hk
   | none, _, _ => simp only [lack] at hn; omega
   | some _, none, _ => simp only [lack] at hn; omega
   | some _, some _, none => simp only [lack] at hn; omega
 | succ n ih =>
   intro x y z w hxy hn hk
   have hnot : (x.isSome && y.isSome && z.isSome) = false := by cases x <;> cases y <;> cases z <;> first | rfl | (simp only [lack] at hn; omega)
   have goP : z = none → wpOp P ops Q p (fun a' w' => S w' ∧ wpAnyH P md ops Q S (fuel + n) ((L x.isSome y.isSome z.isSome).setIfInBounds p true) a' w') (A x y z) w := by rintro rfl; refine (sp x y w hk).op hp (wp _ _ _) (fun v w' hv => ⟨hv.1, ?_⟩); rw [ap]; have := ih x y (some v) w' hxy (by simp only [lack] at hn ⊢; omega) hv.2; rw [show (none : Option Value).isSome = false from rfl, lp]; exact this
   refine wpAnyH_all (hr _ _ _ hxy hnot) ?_ (fun k hk2 => ?_)
   · cases x <;> cases y <;> cases z <;> simp at hnot ⊢
   · rcases List.mem_append.1 hk2 with hk2 | hk2
     · cases x with
       | none =>
         have hy : y = none := by
          cases y with
          | none => rfl
          | some y => exact absurd (hxy rfl) (by simp)
         subst hy; rw [show k = i by simpa using hk2]; refine (si z w hk).op hi (wi _ _ _) (fun v w' hv => ⟨hv.1, ?_⟩); rw [ai]; have := ih (some v) none z w' (fun e => rfl) (by simp only [lack] at hn ⊢; omega) hv.2; rw [show (none : Option Value).isSome = false from rfl, li]; exact this
       | some x =>
         cases y with
         | none => rw [show k = j by simpa using hk2]; refine (sj x z w hk).op hj (wj _ _ _) (fun v w' hv => ⟨hv.1, ?_⟩); rw [aj]; have := ih (some x) (some v) z w' (fun e => rfl) (by simp only [lack] at hn ⊢; omega) hv.2; rw [show (none : Option Value).isSome = false from rfl, lj]; exact this
         | some y => simp at hk2
     · cases z with
       | none => rw [show k = p by simpa using hk2]; exact goP rfl
       | some z => simp at hk2
end
def putW (d : Option Tmp) (x : Option Value) (a : Act) : Act := match x with | none => a | some v => a.put d v
theorem putW_put {d d' : Nat} (h : d ≠ d') (x : Option Value) (a : Act) (v : Value) : (putW (some d) x a).put (some d') v = putW (some d) x (a.put (some d') v) := by
 cases x with
 | none => rfl
 | some u => show (a.put (some d) u).put (some d') v = (a.put (some d') v).put (some d) u; unfold Act.put; simp only; congr 1; exact Array.setIfInBounds_comm _ _ h
end Go.Proofs.YtocekhckmpkbmaaGreat
namespace Go.Proofs.YtocekhckmpkbmaaGreat
open Go.RowKit
/-- a piece: the operation that makes it and its slot, the operation that appends it and its slot, its bytes -/
structure Mk where
 i : Nat
 d : Nat
 ai : Nat
 ad : Nat
 k : List UInt8
def LLb (l : Array Bool) : List Mk → List Bool → Array Bool
 | m :: ms, b :: bs => LLb (if b then l.setIfInBounds m.i true else l) ms bs
 | _, _ => l
def AAx (a : Act) : List Mk → List (Option Value) → Act
 | m :: ms, x :: xs => AAx (putW (some m.d) x a) ms xs
 | _, _ => a
theorem LLb_put (i : Nat) : ∀ (ms : List Mk) (bs : List Bool) (l : Array Bool), (LLb l ms bs).setIfInBounds i true = LLb (l.setIfInBounds i true) ms bs
 | [], _, _ => by unfold LLb; rfl
 | _ :: _, [], _ => rfl
 | m :: ms, b :: bs, l => by
   show (LLb _ ms bs).setIfInBounds i true = LLb _ ms bs; rw [LLb_put i ms bs]; cases b with
   | false => rfl
   | true =>
     simp only [if_true]
     by_cases h : m.i = i
     · subst h; rfl
     · rw [Array.setIfInBounds_comm _ _ h]
theorem LLb_set : ∀ (ms : List Mk) (bs : List Bool) (l : Array Bool) (j : Nat) (m : Mk), ms[j]? = some m → bs[j]? = some false → (LLb l ms bs).setIfInBounds m.i true = LLb l ms (bs.set j true)
 | [], _, _, _, _, h, _ => by simp at h
 | _ :: _, [], _, _, _, _, h => by simp at h
 | m :: ms, b :: bs, l, 0, m', h, hb => by
   obtain rfl : m = m' := by simpa using h
   obtain rfl : b = false := by simpa using hb
   exact LLb_put m.i ms bs l
 | m :: ms, b :: bs, l, j + 1, m', h, hb => LLb_set ms bs _ j m' (by simpa using h) (by simpa using hb)
theorem put_ne {a : Act} {d t : Nat} {v : Value} (h : t ≠ d) : (a.put (some d) v).eval (.tmp t) = a.eval (.tmp t) := by
 show (a.tmps.setIfInBounds d v).getD t undef = a.tmps.getD t undef; simp [Ne.symm h]
theorem put_at {a : Act} {d : Nat} {v : Value} (h : d < a.tmps.size) : (a.put (some d) v).eval (.tmp d) = v := by
 show (a.tmps.setIfInBounds d v).getD d undef = v; simp [h]
theorem put_size (a : Act) (d : Nat) (v : Value) : (a.put (some d) v).tmps.size = a.tmps.size := by
 show (a.tmps.setIfInBounds d v).size = _; simp
theorem AAx_put {d : Nat} {v : Value} : ∀ (ms : List Mk) (xs : List (Option Value)) (a : Act), (∀ m ∈ ms, m.d ≠ d) → (AAx a ms xs).put (some d) v = AAx (a.put (some d) v) ms xs
 | [], _, _, _ => by unfold AAx; rfl
 | _ :: _, [], _, _ => rfl
 | m :: ms, x :: xs, a, h => by show (AAx _ ms xs).put (some d) v = AAx (putW (some m.d) x (a.put (some d) v)) ms xs; rw [AAx_put ms xs _ fun m hm => h m (List.mem_cons_of_mem _ hm), putW_put (h m List.mem_cons_self)]
theorem AAx_set {v : Value} : ∀ (ms : List Mk) (xs : List (Option Value)) (a : Act) (j : Nat) (m : Mk), (ms.map Mk.d).Nodup → ms[j]? = some m → xs[j]? = some none → (AAx a ms xs).put (some m.d) v = AAx a ms (xs.set j (some v))
 | [], _, _, _, _, _, h, _ => by simp at h
 | _ :: _, [], _, _, _, _, _, h => by simp at h
 | m :: ms, x :: xs, a, 0, m', hn, h, hx => by
   obtain rfl : m = m' := by simpa using h
   obtain rfl : x = none := by simpa using hx
   rw [List.map_cons, List.nodup_cons] at hn; exact AAx_put ms xs a fun m' hm e => hn.1 (List.mem_map.2 ⟨m', hm, e⟩)
 | m :: ms, x :: xs, a, j + 1, m', hn, h, hx => by rw [List.map_cons, List.nodup_cons] at hn; exact AAx_set ms xs _ j m' hn.2 (by simpa using h) (by simpa using hx)
theorem AAx_ne {t : Nat} : ∀ (ms : List Mk) (xs : List (Option Value)) (a : Act), (∀ m ∈ ms, m.d ≠ t) → (AAx a ms xs).eval (.tmp t) = a.eval (.tmp t)
 | [], _, _, _ => by unfold AAx; rfl
 | _ :: _, [], _, _ => rfl
 | m :: ms, x :: xs, a, h => by
   show (AAx _ ms xs).eval _ = _; rw [AAx_ne ms xs _ fun m hm => h m (List.mem_cons_of_mem _ hm)]; cases x with
   | none => rfl
   | some v => exact put_ne (Ne.symm (h m List.mem_cons_self))
def allB : Nat → List (List Bool)
 | 0 => [[]]
 | n + 1 => (allB n).flatMap fun b => [false :: b, true :: b]
theorem allB_mem : ∀ bs : List Bool, bs ∈ allB bs.length
 | [] => List.mem_singleton.2 rfl
 | b :: bs => List.mem_flatMap.2 ⟨bs, allB_mem bs, by cases b <;> simp⟩
def okR (ms : List Mk) (bs : List Bool) (r : List Nat) : Bool :=
 !r.isEmpty && r.all fun i => (ms.zip bs).any (fun x => x.1.i == i && !x.2) || (match ms, bs with
  | m :: _, true :: _ => m.ai == i
  | _, _ => false)
def chkR (md : Region.Mode) (ops : Array Oper) : Array Bool → List Mk → Bool
 | _, [] => true
 | l, m :: ms => ((allB (ms.length + 1)).all fun bs => okR (m :: ms) bs (Region.ready md ops (LLb l (m :: ms) bs))) && chkR md ops ((l.setIfInBounds m.i true).setIfInBounds m.ai true) ms
def dsts : List Mk → List Nat
 | [] => []
 | m :: ms => m.d :: m.ad :: dsts ms
theorem dsts_d : ∀ (ms : List Mk) (m : Mk), m ∈ ms → m.d ∈ dsts ms
 | m' :: ms, m, h => by
   rcases List.mem_cons.1 h with rfl | h
   · exact List.mem_cons_self
   · exact List.mem_cons_of_mem _ (List.mem_cons_of_mem _ (dsts_d ms m h))
theorem dsts_nd : ∀ (ms : List Mk), (dsts ms).Nodup → (ms.map Mk.d).Nodup
 | [], _ => List.nodup_nil
 | m :: ms, h => by have h1 := List.nodup_cons.1 h; have h2 := List.nodup_cons.1 h1.2; rw [List.map_cons, List.nodup_cons]; refine ⟨fun hm => h1.1 (List.mem_cons_of_mem _ ?_), dsts_nd ms h2.2⟩; obtain ⟨m', h3, h4⟩ := List.mem_map.1 hm; rw [← h4]; exact dsts_d ms m' h3
section
variable {ops : Array Oper} {Q : Exit → Act → World → Prop} {md : Region.Mode} {S : World → Prop} {B : Nat} {env : List (Nat × Value)}
def Env (a : Act) : List (Nat × Value) → Prop
 | [] => True
 | x :: xs => a.eval (.tmp x.1) = x.2 ∧ Env a xs
theorem Env.of {a a' : Act} : ∀ {env : List (Nat × Value)}, Env a env → (∀ x ∈ env, a'.eval (.tmp x.1) = a.eval (.tmp x.1)) → Env a' env
 | [], _, _ => trivial
 | x :: _, h, k => ⟨(k x List.mem_cons_self).trans h.1, Env.of h.2 fun y hy => k y (List.mem_cons_of_mem _ hy)⟩
def PcM (k : List UInt8) (u : World) (v : Value) (u' : World) : Prop := ∃ q c, v = .slice q k.length c ∧ Own u' u.heap.size (.slice q k.length c) k ∧ Below u.heap.size u u'
def Mkd (ops : Array Oper) (S : World → Prop) (env : List (Nat × Value)) : Nat → List Mk → Prop
 | _, [] => True
 | out, m :: ms => (∃ o, ops[m.i]? = some o ∧ o.dst = some m.d ∧ (∀ y, Region.wanted o y = true) ∧ ∀ a u, Env a env → S u → Ends Tryz.prog o a u (PcM m.k u)) ∧
   (∃ o, ops[m.ai]? = some o ∧ o.dst = some m.ad ∧ (∀ y, Region.wanted o y = true) ∧ o.op = .call { callee := .builtin .append, args := #[.tmp out, .tmp m.d], argTypes := #[36, 36] }) ∧ Mkd ops S env m.ad ms
theorem Mkd.make : ∀ {ms : List Mk} {out j : Nat} {m : Mk}, Mkd ops S env out ms → ms[j]? = some m → ∃ o, ops[m.i]? = some o ∧ o.dst = some m.d ∧ (∀ y, Region.wanted o y = true) ∧ ∀ a u, Env a env → S u → Ends Tryz.prog o a u (PcM m.k u)
 | [], _, _, _, _, h => by simp at h
 | m :: ms, _, 0, m', h, hj => by
   obtain rfl : m = m' := by simpa using hj
   exact h.1
 | m :: ms, _, j + 1, m', h, hj => Mkd.make h.2.2 (by simpa using hj)
def PcsOk (u : World) (q : Option Addr) : List Mk → List (Option Value) → Prop
 | m :: ms, x :: xs => (∀ X, x = some X → ∃ p c, X = .slice p m.k.length c ∧ Own u 0 (.slice p m.k.length c) m.k ∧ ∀ a, p = some a → q.map (·.block) ≠ some a.block) ∧ PcsOk u q ms xs
 | [], [] => True
 | _, _ => False
theorem PcsOk.keep {u u' : World} {q q' : Option Addr} (hk : ∀ b, b < u.heap.size → q.map (·.block) ≠ some b → u'.heap[b]? = u.heap[b]?) (hq : q'.map (·.block) = q.map (·.block) ∨ q'.map (·.block) = some u.heap.size) : ∀ {ms : List Mk} {xs : List (Option Value)}, PcsOk u q ms xs → PcsOk u' q' ms xs
 | [], [], _ => trivial
 | [], _ :: _, h => h
 | _ :: _, [], h => h
 | m :: ms, x :: xs, h => ⟨fun X hX => by
   obtain ⟨p, c, rfl, ho, ha⟩ := h.1 X hX; refine ⟨p, c, rfl, ho.kept fun a e => hk _ (ho.holds.2.2 a e).2 (ha a e), fun a e => ?_⟩; rcases hq with hq | hq
   · rw [hq]; exact ha a e
   · rw [hq]; have := (ho.holds.2.2 a e).2; intro e2; have := Option.some.inj e2
     omega, PcsOk.keep hk hq h.2⟩
theorem PcsOk.set {u : World} {q : Option Addr} {v : Value} : ∀ {ms : List Mk} {xs : List (Option Value)} {j : Nat} {m : Mk}, PcsOk u q ms xs → ms[j]? = some m →
 (∃ p c, v = .slice p m.k.length c ∧ Own u 0 (.slice p m.k.length c) m.k ∧ ∀ a, p = some a → q.map (·.block) ≠ some a.block) → PcsOk u q ms (xs.set j (some v))
 | [], _, _, _, _, hj, _ => by simp at hj
 | _ :: _, [], _, _, h, _, _ => h.elim
 | m :: ms, x :: xs, 0, m', h, hj, hv => by
   obtain rfl : m = m' := by simpa using hj
   exact ⟨fun X hX => by cases hX; exact hv, h.2⟩
 | m :: ms, x :: xs, j + 1, m', h, hj, hv => ⟨h.1, PcsOk.set h.2 (by simpa using hj) hv⟩
def EndOk (S : World → Prop) (B : Nat) (G : Array Bool → Act → World → Prop) : List Mk → Array Bool → Act → Value → List UInt8 → Prop
 | [], l, a, y, L => ∀ u q c, S u → y = .slice q L.length c → Own u B (.slice q L.length c) L → G l a u
 | m :: ms, l, a, _, L => ∀ x y, EndOk S B G ms ((l.setIfInBounds m.i true).setIfInBounds m.ai true) ((a.put (some m.d) x).put (some m.ad) y) y (L ++ m.k)
def lackM : List (Option Value) → Nat
 | [] => 0
 | none :: xs => lackM xs + 1
 | some _ :: xs => lackM xs
theorem lackM_set {v : Value} : ∀ {xs : List (Option Value)} {j : Nat}, xs[j]? = some none → lackM xs = lackM (xs.set j (some v)) + 1
 | [], _, h => by simp at h
 | x :: xs, 0, h => by
   obtain rfl : x = none := by simpa using h
   rfl
 | none :: xs, j + 1, h => by show lackM xs + 1 = lackM (xs.set j (some v)) + 1 + 1; rw [lackM_set (v := v) (xs := xs) (j := j) (by simpa using h)]
 | some _ :: xs, j + 1, h => lackM_set (xs := xs) (j := j) (by simpa using h)
def lenM : List Mk → Nat
 | [] => 0
 | m :: ms => m.k.length + lenM ms
/-- S holds on when other memory is made, and when bytes of the call's own grow -/
def KeepS (S : World → Prop) (B : Nat) : Prop := (∀ u, S u → B ≤ u.heap.size) ∧ (∀ u u', S u → Below u.heap.size u u' → S u') ∧ ∀ u u' q n c L, S u → Own u B (.slice q n c) L → u.grownBy u' (blockOf q) → S u'
theorem block_of (q : Option Addr) : blockOf q = q.map (·.block) := by cases q <;> rfl
theorem chain {fuel : Nat} (hKS : KeepS S B) : ∀ (n : Nat) (ms : List Mk) (xs : List (Option Value)) (l : Array Bool) (a : Act) (out : Nat) (q : Option Addr) (c : Nat) (L : List UInt8) (u : World),
 n = ms.length + lackM xs → xs.length = ms.length → chkR md ops l ms = true → (dsts ms).Nodup → (∀ d ∈ dsts ms, d ≠ out ∧ (∀ x ∈ env, x.1 ≠ d) ∧ d < a.tmps.size) →
 a.eval (.tmp out) = .slice q L.length c → Mkd ops S env out ms → EndOk S B (wpAnyH Tryz.prog md ops Q S fuel) ms l a (.slice q L.length c) L → Env a env → L.length + lenM ms ≤ 1099511627776 →
 S u → Own u B (.slice q L.length c) L → PcsOk u q ms xs → wpAnyH Tryz.prog md ops Q S (fuel + n) (LLb l ms (xs.map Option.isSome)) (AAx a ms xs) u := by
 intro n
 induction n with
 | zero =>
   intro ms xs l a out q c L u hn hx hc hd hds hout hM hE henv hbig hS hO hP; cases ms with
   | cons m ms => rw [List.length_cons] at hn; omega
   | nil =>
     cases xs with
     | cons x xs => simp at hx
     | nil => exact hE u q c hS rfl hO
 | succ n ih =>
   intro ms xs l a out q c L u hn hx hc hd hds hout hM hE henv hbig hS hO hP; cases ms with
   | nil =>
     cases xs with
     | nil => simp [lackM] at hn
     | cons x xs => simp at hx
   | cons m ms =>
    cases xs with
    | nil => simp at hx
    | cons x xs =>
     have hc0 := hc; rw [chkR, Bool.and_eq_true, List.all_eq_true] at hc; have hb := hc.1 ((x :: xs).map Option.isSome) (by have h := allB_mem ((x :: xs).map Option.isSome); rw [List.length_map, hx] at h; exact h); rw [okR, Bool.and_eq_true] at hb; have hall := List.all_eq_true.1 hb.2; have hnd := dsts_nd _ hd; have henv' : Env (AAx a (m :: ms) (x :: xs)) env := henv.of fun y hy => AAx_ne _ _ _ fun m' hm' e => (hds _ (dsts_d _ m' hm')).2.1 y hy e.symm
     refine ⟨fun h0 => (by rw [h0] at hb; simp at hb), fun i hi => ?_⟩; rcases Bool.or_eq_true _ _ |>.mp (hall i hi) with h1 | h1
     · -- a piece is made
       obtain ⟨⟨mj, bj⟩, hmem, hij⟩ := List.any_eq_true.1 h1; simp only [Bool.and_eq_true, beq_iff_eq, Bool.not_eq_true'] at hij; obtain ⟨rfl, rfl⟩ := hij; obtain ⟨j, hj⟩ := List.mem_iff_getElem?.1 hmem; obtain ⟨hj1, hj2⟩ := List.getElem?_zip_eq_some.1 hj
       have hxj : (x :: xs)[j]? = some none := by
        rw [List.getElem?_map] at hj2; cases hh : (x :: xs)[j]? with
        | none => rw [hh] at hj2; simp at hj2
        | some z =>
          rw [hh] at hj2; cases z with
          | none => rfl
          | some z => simp at hj2
       obtain ⟨o, ho, hdst, hw, hends⟩ := hM.make hj1; refine (hends _ u henv' hS).op ho (hw _) fun v u' hv => ?_
       obtain ⟨p, c', rfl, hO', hb'⟩ := hv; have hS' := hKS.2.1 u u' hS hb'; refine ⟨hS', ?_⟩; rw [hdst, AAx_set (m :: ms) (x :: xs) a j mj hnd hj1 hxj, LLb_set (m :: ms) _ l j mj hj1 hj2, show ((x :: xs).map Option.isSome).set j true = ((x :: xs).set j (some (.slice p mj.k.length c'))).map Option.isSome by rw [List.map_set]; rfl]; refine ih (m :: ms) ((x :: xs).set j (some (.slice p mj.k.length c'))) l a out q c L u' ?_ (by rw [List.length_set]; exact hx) hc0 hd hds hout hM hE henv hbig hS' (hO.below hb') ?_
       · have := lackM_set (v := .slice p mj.k.length c') hxj; omega
       · refine (hP.keep (fun b hb2 _ => hb'.block b hb2) (.inl rfl)).set hj1 ⟨p, c', rfl, hO'.mono (Nat.zero_le _), fun a' e e2 => ?_⟩; have h3 := (hO'.holds.2.2 a' e).1; cases q with
         | none => cases e2
         | some a0 => have h4 := (hO.holds.2.2 a0 rfl).2; have e3 : a0.block = a'.block := Option.some.inj e2; omega
     · -- the next one is appended
       cases x with
       | none => simp at h1
       | some X =>
         have hi2 : m.ai = i := by simpa using h1
         subst hi2; obtain ⟨p, c', rfl, hOp, hap⟩ := hP.1 X rfl; obtain ⟨o, ho, hdst, hw, hop⟩ := hM.2.1; have hd1 := List.nodup_cons.1 hd; have hd2 := List.nodup_cons.1 hd1.2; have hlen : m.k.length + lenM ms = lenM (m :: ms) := rfl; obtain ⟨q', c2, u', hrun, hO2, hg, hq'⟩ := run_append_bytes_at (m := m.k.length) o.type hO hOp.holds.1 (by omega) (hKS.1 u hS); have e1 : (AAx a (m :: ms) (some (.slice p m.k.length c') :: xs)).eval (.tmp out) = .slice q L.length c := (AAx_ne _ _ _ fun m' hm' => (hds _ (dsts_d _ m' hm')).1).trans hout; have hmd : ∀ m' ∈ ms, m'.d ≠ m.d := fun m' hm' e => hd1.1 (List.mem_cons_of_mem _ (e ▸ dsts_d ms m' hm'))
         have hmad : ∀ m' ∈ ms, m'.d ≠ m.ad := fun m' hm' e => hd2.1 (e ▸ dsts_d ms m' hm')
         have e2 : (AAx a (m :: ms) (some (.slice p m.k.length c') :: xs)).eval (.tmp m.d) = .slice p m.k.length c' := by show (AAx (a.put (some m.d) _) ms xs).eval _ = _; rw [AAx_ne ms xs _ hmd]; exact put_at (hds _ (List.mem_cons_self)).2.2
         have hrun2 := run_append_oper2 (P := Tryz.prog) hop e1 e2 hrun; have hS' := hKS.2.2 u u' q _ c L hS hO hg; have hl2 : (L ++ m.k).length = L.length + m.k.length := List.length_append; have hO3 : Own u' B (.slice q' (L ++ m.k).length c2) (L ++ m.k) := by rw [hl2]; exact hO2
         have hadz : m.ad < (a.put (some m.d) (.slice p m.k.length c')).tmps.size := by rw [put_size]; exact (hds m.ad (List.mem_cons_of_mem _ List.mem_cons_self)).2.2
         unfold wpOp; simp only [ho, hw, if_true]; refine .inl ?_; unfold Oper.wp; rw [hrun2, Oper.upon_value]; refine ⟨hS', ?_⟩; rw [hdst]; show wpAnyH Tryz.prog md ops Q S (fuel + n) ((LLb (l.setIfInBounds m.i true) ms (xs.map Option.isSome)).setIfInBounds m.ai true) ((AAx (a.put (some m.d) _) ms xs).put (some m.ad) _) u'; rw [LLb_put, AAx_put ms xs _ hmad, ← hl2]; refine ih ms xs _ _ m.ad q' c2 (L ++ m.k) u' ?_ ?_ hc.2 hd2.2 ?_ (put_at hadz) hM.2.2 (hE _ _) ?_ ?_ hS' hO3 ?_
         · simp only [List.length_cons, lackM] at hn; omega
         · simpa using hx
         · intro d hdm; have h := hds d (List.mem_cons_of_mem _ (List.mem_cons_of_mem _ hdm)); exact ⟨fun e => hd2.1 (e ▸ hdm), h.2.1, by rw [put_size, put_size]; exact h.2.2⟩
         · refine henv.of fun y hy => ?_
           have h1 := (hds m.d List.mem_cons_self).2.1 y hy; have h2 := (hds m.ad (List.mem_cons_of_mem _ List.mem_cons_self)).2.1 y hy; rw [put_ne h2, put_ne h1]
         · rw [hl2]; omega
         · refine hP.2.keep (fun b hb2 hne => hg.block b hb2 ?_) hq'; rw [block_of]; intro e; exact hne e.symm
def okD (es : List Nat) (out sz : Nat) (ms : List Mk) : Bool := decide (dsts ms).Nodup && (dsts ms).all fun d => d != out && (es.all (· != d) && decide (d < sz))
theorem LLb_none : ∀ (ms : List Mk) (l : Array Bool), LLb l ms ((ms.map fun _ => none).map (Option.isSome (α := Value))) = l
 | [], _ => rfl
 | _ :: ms, l => LLb_none ms l
theorem AAx_none : ∀ (ms : List Mk) (a : Act), AAx a ms (ms.map fun _ => none) = a
 | [], _ => rfl
 | _ :: ms, a => AAx_none ms a
theorem lackM_none : ∀ (ms : List Mk), lackM (ms.map fun _ => none) = ms.length
 | [] => rfl
 | _ :: ms => congrArg (· + 1) (lackM_none ms)
theorem PcsOk.start {u : World} {q : Option Addr} : ∀ (ms : List Mk), PcsOk u q ms (ms.map fun _ => none)
 | [] => trivial
 | _ :: ms => ⟨fun _ h => (by cases h), PcsOk.start ms⟩
/-- all pieces are made and appended, in whatever order -/
theorem chain0 {fuel : Nat} (hKS : KeepS S B) (env : List (Nat × Value)) (ms : List Mk) (out : Nat) {l : Array Bool} {a : Act} {q : Option Addr} {c : Nat} {L : List UInt8} {u : World}
 (hE : EndOk S B (wpAnyH Tryz.prog md ops Q S fuel) ms l a (.slice q L.length c) L) (hS : S u) (hO : Own u B (.slice q L.length c) L) (hlen : L.length + lenM ms ≤ 1099511627776) (hM : Mkd ops S env out ms)
 (hout : a.eval (.tmp out) = .slice q L.length c) (henv : Env a env) (hchk : (chkR md ops l ms && okD (env.map Prod.fst) out a.tmps.size ms) = true) : wpAnyH Tryz.prog md ops Q S (fuel + 2 * ms.length) l a u := by
 simp only [okD, Bool.and_eq_true, decide_eq_true_eq, List.all_eq_true, bne_iff_ne] at hchk; have h := chain (fuel := fuel) hKS (ms.length + ms.length) ms (ms.map fun _ => none) l a out q c L u (by rw [lackM_none]) (by rw [List.length_map]) hchk.1 hchk.2.1 (fun d hd => ⟨(hchk.2.2 d hd).1, fun x hx => (hchk.2.2 d hd).2.1 x.1 (List.mem_map_of_mem hx), (hchk.2.2 d hd).2.2⟩) hout hM hE henv hlen hS hO (PcsOk.start ms); rw [LLb_none, AAx_none] at h; rw [Nat.two_mul]; exact h
end
end Go.Proofs.YtocekhckmpkbmaaGreat
namespace Go.Proofs.YtocekhckmpkbmaaGreat
open Go.RowKit
theorem Own.none_ (w : World) (B : Nat) : Own w B (.slice none 0 0) [] := ⟨rfl, .inl ⟨rfl, rfl⟩⟩
def HRel (W wr : World) (n x m : Nat) (q : Option Addr) (c : Nat) : Prop := Below W.heap.size W wr ∧ Own wr W.heap.size (.slice q (n - m) c) (be (n - m) (x / 256 ^ m))
theorem HRel.next {W wr w1 w2 : World} {n x m : Nat} {q q' : Option Addr} {c c' : Nat} (h : HRel W wr n x (m + 1) q c) (hm : m + 1 ≤ n) (hb : Below wr.heap.size wr w1)
 (ho : Own w2 W.heap.size (.slice q' (n - (m + 1) + 1) c') (be (n - (m + 1)) (x / 256 ^ (m + 1)) ++ [UInt8.ofNat (x / 256 ^ m)])) (hg : w1.grownBy w2 (blockOf q)) : HRel W w2 n x m q' c' := by
 refine ⟨(h.2.below hb).up hg (below_step hb h.1) (Nat.le_refl _), ?_⟩; have e : x / 256 ^ (m + 1) = x / 256 ^ m / 256 := by rw [Nat.div_div_eq_div_mul, Nat.pow_succ]
 rw [e, show n - (m + 1) + 1 = n - m by omega] at ho; rw [show n - m = n - (m + 1) + 1 by omega] at ho ⊢; exact ho
set_option maxRecDepth 100000 in
set_option maxHeartbeats 4000000 in
theorem high_doc (x n : Nat) (w : World) (hn : n ≤ 8) :
 Calls Tryz.prog 42 #[.int .u64 x, .int .i64 n] w (BytesPost w n (be n x)) := by
 have hr0 : Hid (HRel w w n x n none 0) := ⟨Below.refl _ _, by rw [Nat.sub_self]; exact Own.none_ _ _⟩; have hn8 : (n : Int) ≤ 8 := by omega
 go_enter Tryz.func42, Tryz.ntmps42
 go_wp2
 go_loopw [5, 6] (fun v5 v6 wr => ∃ (m : Nat) (i : Int) (q : Option Addr) (c : Nat), m ≤ n ∧ i = m - 1 ∧ v6 = .int .i64 i ∧ v5 = .slice q (n - m) c ∧ Hid (HRel w wr n x m q c)) (fun _ v6 _ => (RowKit.intOf v6 + 1).toNat)
 case atStart => exact ⟨n, (n : Int) - 1, none, 0, Nat.le_refl _, rfl, rfl, by rw [Nat.sub_self], hr0⟩
 case round =>
  obtain ⟨m, i, q, c, hm, hi, rfl, rfl, hr⟩ := hrel; cases m with
  | succ m =>
    obtain rfl : i = (m : Int) := by omega
    clear hi; have hm8 : (m : Int) < 8 := by omega
    obtain ⟨W2, hW2⟩ : ∃ W2, wr.alloc (.cells #[.int .u8 ((x : Int) / 2 ^ (8 * m) % 256)] 5) = W2 := ⟨_, rfl⟩; have hby2 : Hid (Row 5 W2 wr.heap.size [UInt8.ofNat (x / 256 ^ m)]) := by rw [← hW2, digit]; exact made1 wr _
    have hb2 : Hid (Below wr.heap.size wr W2) := by rw [← hW2]; exact (Below.refl _ _).alloc (Nat.le_refl _) _
    have hown := lh (hr.out.2.below hb2.out); have hsz := lh (Nat.le_trans hr.out.1.size hb2.out.size); have hbig : Hid (n - (m + 1) + 1 ≤ 1099511627776) := by show _ ≤ _; omega
    have hmn : Hid (m + 1 ≤ n) := hm; have hms : Hid (n - (m + 1) + 1 = n - m) := by show _ = _; omega
    go_wp2_with (first
     | (at_builtin
        refine wpList_append_bytes rfl (.tmp 13) (.tmp 19) rfl rfl rfl hown.out (hby2.out.holds 1) hbig.out hsz.out ?_; intro q3 c3 w3 h3 hg3; have hnx := lh (hr.out.next hmn.out hb2.out h3 hg3); rw [hms.out]
        clear h3 hg3))
    go_roundw
    case rel => exact ⟨m, (m : Int) - 1, q3, c3, by omega, rfl, rfl, rfl, hnx⟩
    case measure => simp [RowKit.intOf]
  | zero =>
    obtain rfl : i = -1 := by omega
    clear hi hm; have hro := hr.out.2; rw [Nat.sub_zero, Nat.pow_zero, Nat.div_one] at hro; have hro' := lh hro; have hrb := lh hr.out.1; clear hr hro; go_wp2; go_ret; exact ⟨q, c, rfl, hro'.out, hrb.out⟩
end Go.Proofs.YtocekhckmpkbmaaGreat
