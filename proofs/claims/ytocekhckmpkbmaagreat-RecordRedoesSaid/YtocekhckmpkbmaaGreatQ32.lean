/- Right and Same of the document (Right: the text XKDd, laid in here). -/
import Derived.Test.YtocekhckmpkbmaaGreatQ31
namespace Go.Proofs.YtocekhckmpkbmaaGreat
open Go.RowKit
theorem YesNo.far {p q : Prop} {w u : World} {b : Bool} (h : b = true ↔ p) (hq : p ↔ q) (hb : Below w.heap.size w u) : YesNo q w (.returned (.bool b)) u := ⟨b, rfl, h.trans hq, hb⟩
set_option maxRecDepth 100000 in
set_option maxHeartbeats 4000000 in
theorem right_doc (k : Int) (rq : Option Addr) (rn rc : Nat) (kq : Option Addr) (kn kc : Nat) (c : ContD) (w : World) (h : ContOn w k rq rn rc kq kn kc c) :
 Calls Tryz.prog 58 #[.agg #[.int .i64 k, .slice rq rn rc, .slice kq kn kc]] w (YesNo (GoodC c) w) := by
 obtain ⟨W, hW⟩ : ∃ W, w.alloc (.cells #[.int .i64 k, .slice rq rn rc, .slice kq kn kc] 55) = W := ⟨_, rfl⟩
 have hbx := Lib.hid (one_box (xs := [.int .i64 k, .slice rq rn rc, .slice kq kn kc]) hW)
 have c0 := hbx.out.2.1.cell 0 rfl
 have c1 := hbx.out.2.1.cell 1 rfl
 have c2 := hbx.out.2.1.cell 2 rfl
 have hrr := Lib.hid (h.rows.below hbx.out.1 (Nat.le_refl _))
 have hkk := Lib.hid (h.kids.below hbx.out.1 (Nat.le_refl _))
 have hrl := Lib.hid h.rows.len
 have hkl := Lib.hid h.kids.len
 have hkind := Lib.hid h.kind
 obtain ⟨ck, crows, ckids⟩ := c
 have hk0 : Hid (k = ck) := h.kind
 obtain rfl : ck = k := hk0.out.symm
 clear h hkind hk0
 by_cases h0 : ck = 0
 · subst h0
   by_cases hr0 : rn = 0
   · subst hr0
     by_cases hk0 : kn = 0
     · subst hk0
       go_enter Tryz.func58, Tryz.ntmps58
       go_wp2
       clear hW
       go_ret
       exact ⟨true, rfl, ⟨fun _ => (good0 rfl).2 ⟨List.eq_nil_of_length_eq_zero hrl.out, List.eq_nil_of_length_eq_zero hkl.out⟩, fun _ => rfl⟩, hbx.out.1⟩
     · have d : ((kn : Int) == 0) = false := by rw [beq_eq_false_iff_ne]; omega
       go_enter Tryz.func58, Tryz.ntmps58
       go_wp2
       clear hW
       go_ret
       exact ⟨false, rfl, ⟨fun h => (by cases h), fun h => absurd ((good0 rfl).1 h).2 (not_nil hkl.out (by omega))⟩, hbx.out.1⟩
   · have d : ((rn : Int) == 0) = false := by rw [beq_eq_false_iff_ne]; omega
     go_enter Tryz.func58, Tryz.ntmps58
     go_wp2
     clear hW
     go_ret
     exact ⟨false, rfl, ⟨fun h => (by cases h), fun h => absurd ((good0 rfl).1 h).1 (not_nil hrl.out (by omega))⟩, hbx.out.1⟩
 · by_cases h1 : ck = 1
   · subst h1
     by_cases hk0 : kn = 0
     · subst hk0
       have hdoc := Lib.hid (rows_doc rq rn rc crows W hrr.out)
       go_enter Tryz.func58, Tryz.ntmps58
       go_wp2_with fail
       clear hW
       refine hdoc.out.mono ?_
       rintro e w1 ⟨b, rfl, hb, hb1⟩
       have hb' := Lib.hid hb
       have hd := Lib.hid (below_step hb1 hbx.out.1)
       clear hb hb1 hdoc
       go_wp2
       go_ret
       exact ⟨b, rfl, ⟨fun h => (good1 rfl).2 ⟨hb'.out.1 h, List.eq_nil_of_length_eq_zero hkl.out⟩, fun h => hb'.out.2 ((good1 rfl).1 h).1⟩, hd.out⟩
     · have d : ((kn : Int) == 0) = false := by rw [beq_eq_false_iff_ne]; omega
       go_enter Tryz.func58, Tryz.ntmps58
       go_wp2
       clear hW
       go_ret
       exact ⟨false, rfl, ⟨fun h => (by cases h), fun h => absurd ((good1 rfl).1 h).2 (not_nil hkl.out (by omega))⟩, hbx.out.1⟩
   · by_cases h2 : ck = 2
     · subst h2
       by_cases hr0 : rn = 0
       · subst hr0
         have hdoc := Lib.hid (kids_doc kq kn kc ckids W hkk.out)
         go_enter Tryz.func58, Tryz.ntmps58
         go_wp2_with fail
         clear hW
         refine hdoc.out.mono ?_
         rintro e w1 ⟨b, rfl, hb, hb1⟩
         have hb' := Lib.hid hb
         have hd := Lib.hid (below_step hb1 hbx.out.1)
         clear hb hb1 hdoc
         go_wp2
         go_ret
         exact ⟨b, rfl, ⟨fun h => (good2 rfl).2 ⟨hb'.out.1 h, List.eq_nil_of_length_eq_zero hrl.out⟩, fun h => hb'.out.2 ((good2 rfl).1 h).1⟩, hd.out⟩
       · have d : ((rn : Int) == 0) = false := by rw [beq_eq_false_iff_ne]; omega
         go_enter Tryz.func58, Tryz.ntmps58
         go_wp2
         clear hW
         go_ret
         exact ⟨false, rfl, ⟨fun h => (by cases h), fun h => absurd ((good2 rfl).1 h).2 (not_nil hrl.out (by omega))⟩, hbx.out.1⟩
     · have d0 : (ck == 0) = false := by rw [beq_eq_false_iff_ne]; exact h0
       have d1 : (ck == 1) = false := by rw [beq_eq_false_iff_ne]; exact h1
       have d2 : (ck == 2) = false := by rw [beq_eq_false_iff_ne]; exact h2
       have hno := Lib.hid (goodN (rows := crows) (kids := ckids) h0 h1 h2)
       clear h0 h1 h2
       go_enter Tryz.func58, Tryz.ntmps58
       go_wp2
       clear hW
       go_ret
       exact ⟨false, rfl, ⟨fun h => (by cases h), fun h => absurd h hno.out⟩, hbx.out.1⟩
theorem sameC_kind {a b : ContD} (h : a.kind ≠ b.kind) : sameC a b = false := by
 unfold sameC; rw [show (a.kind == b.kind) = false by rw [beq_eq_false_iff_ne]; exact h]; rfl
theorem sameC_rows {a b : ContD} (h : sameL a.rows b.rows = false) : sameC a b = false := by
 unfold sameC; rw [h, Bool.and_false]; rfl
theorem sameC_kids {a b : ContD} (h : sameK a.kids b.kids = false) : sameC a b = false := by
 unfold sameC; rw [h, Bool.and_false]
theorem sameC_all {a b : ContD} (h : a.kind = b.kind) (h1 : sameL a.rows b.rows = true) (h2 : sameK a.kids b.kids = true) : sameC a b = true := by
 unfold sameC; rw [h1, h2, h, beq_self_eq_true]; rfl
set_option maxRecDepth 100000 in
set_option maxHeartbeats 4000000 in
theorem same_doc (k1 : Int) (rq1 : Option Addr) (rn1 rc1 : Nat) (kq1 : Option Addr) (kn1 kc1 : Nat) (a : ContD) (k2 : Int) (rq2 : Option Addr) (rn2 rc2 : Nat) (kq2 : Option Addr) (kn2 kc2 : Nat) (b : ContD) (w : World) (h1 : ContOn w k1 rq1 rn1 rc1 kq1 kn1 kc1 a) (h2 : ContOn w k2 rq2 rn2 rc2 kq2 kn2 kc2 b) :
 Calls Tryz.prog 28 #[.agg #[.int .i64 k1, .slice rq1 rn1 rc1, .slice kq1 kn1 kc1], .agg #[.int .i64 k2, .slice rq2 rn2 rc2, .slice kq2 kn2 kc2]] w (fun e w' => e = .returned (.bool (sameC a b)) ∧ Below w.heap.size w w') := by
 obtain ⟨W, hW⟩ : ∃ W, (w.alloc (.cells #[.int .i64 k1, .slice rq1 rn1 rc1, .slice kq1 kn1 kc1] 55)).alloc (.cells #[.int .i64 k2, .slice rq2 rn2 rc2, .slice kq2 kn2 kc2] 55) = W := ⟨_, rfl⟩
 have hbx := Lib.hid (two_boxes (xs := [.int .i64 k1, .slice rq1 rn1 rc1, .slice kq1 kn1 kc1]) (ys := [.int .i64 k2, .slice rq2 rn2 rc2, .slice kq2 kn2 kc2]) hW)
 have c0 := hbx.out.2.1.cell 0 rfl
 have c1 := hbx.out.2.1.cell 1 rfl
 have c2 := hbx.out.2.1.cell 2 rfl
 have d0 := hbx.out.2.2.1.cell 0 rfl
 have d1 := hbx.out.2.2.1.cell 1 rfl
 have d2 := hbx.out.2.2.1.cell 2 rfl
 have r1 := Lib.hid (h1.rows.below hbx.out.1 (Nat.le_refl _))
 have r2 := Lib.hid (h2.rows.below hbx.out.1 (Nat.le_refl _))
 have s1 := Lib.hid (h1.kids.below hbx.out.1 (Nat.le_refl _))
 have s2 := Lib.hid (h2.kids.below hbx.out.1 (Nat.le_refl _))
 have kk1 := Lib.hid h1.kind
 have kk2 := Lib.hid h2.kind
 have m1 := Nat.le_trans r1.out.le r1.out.cap
 have m2 := Nat.le_trans s1.out.le s1.out.cap
 unfold maxLen at m1 m2
 have hT : Hid (sameL a.rows b.rows = true → sameK a.kids b.kids = true → k1 = k2 → sameC a b = true) := fun x y z => sameC_all (by rw [← kk1.out, ← kk2.out]; exact z) x y
 have hR : Hid (sameL a.rows b.rows = false → sameC a b = false) := fun x => sameC_rows x
 have hK : Hid (sameK a.kids b.kids = false → sameC a b = false) := fun x => sameC_kids x
 have hN : Hid (k1 ≠ k2 → sameC a b = false) := fun x => sameC_kind (by rw [← kk1.out, ← kk2.out]; exact x)
 obtain ⟨E, hE⟩ : ∃ E, sameC a b = E := ⟨_, rfl⟩
 rw [hE] at hT hR hK hN ⊢
 clear h1 h2 hE
 by_cases hk : k1 = k2
 · subst hk
   by_cases hn : rn1 = rn2
   · subst hn
     by_cases hm : kn1 = kn2
     · subst hm
       go_enter Tryz.func28, Tryz.ntmps28
       go_wp2
       clear hW
       go_loopw [33] (fun v33 wr => ∃ k : Nat, k ≤ rn1 ∧ v33 = .int .i64 k ∧ Hid (Below W.heap.size W wr) ∧ Hid (∀ i x y, i < k → a.rows[i]? = some x → b.rows[i]? = some y → eqR x y = true)) (fun v33 _ => rn1 - (RowKit.intOf v33).toNat)
       case atStart => exact ⟨0, Nat.zero_le _, rfl, (show Below _ _ _ from Below.refl _ _), fun i a b hi => by omega⟩
       case round =>
        obtain ⟨k, hk, rfl, hb, hp⟩ := hrel
        have e1 := (hbx.out.2.1.below hb.out (Nat.le_refl _)).cell 1 rfl
        have f1 := (hbx.out.2.2.1.below hb.out (Nat.le_refl _)).cell 1 rfl
        have e2 := (hbx.out.2.1.below hb.out (Nat.le_refl _)).cell 2 rfl
        have f2 := (hbx.out.2.2.1.below hb.out (Nat.le_refl _)).cell 2 rfl
        by_cases hlt : k < rn1
        · obtain ⟨A, ⟨⟨at_, ai⟩, av, as_⟩, hqA, hx, hokA, hcA⟩ := (r1.out.below hb.out (Nat.le_refl _)).at hlt
          obtain ⟨B, ⟨⟨bt, bi⟩, bv, bs⟩, hqB, hy, hokB, hcB⟩ := (r2.out.below hb.out (Nat.le_refl _)).at hlt
          subst hqA
          subst hqB
          have p0 : wr.cell? (A.add (k * 4)) = some (.int .i64 at_) := by have h := hcA 0 _ rfl; rwa [add0] at h
          have p1 : wr.cell? ⟨(A.add (k * 4)).block, (A.add (k * 4)).off + 1, none⟩ = some (.int .u16 ai) := hcA 1 _ rfl
          have p2 : wr.cell? ⟨(A.add (k * 4)).block, (A.add (k * 4)).off + 2, none⟩ = some (.int .i64 av) := hcA 2 _ rfl
          have p3 : wr.cell? ⟨(A.add (k * 4)).block, (A.add (k * 4)).off + 3, none⟩ = some (.string as_) := hcA 3 _ rfl
          have q0 : wr.cell? (B.add (k * 4)) = some (.int .i64 bt) := by have h := hcB 0 _ rfl; rwa [add0] at h
          have q1 : wr.cell? ⟨(B.add (k * 4)).block, (B.add (k * 4)).off + 1, none⟩ = some (.int .u16 bi) := hcB 1 _ rfl
          have q2 : wr.cell? ⟨(B.add (k * 4)).block, (B.add (k * 4)).off + 2, none⟩ = some (.int .i64 bv) := hcB 2 _ rfl
          have q3 : wr.cell? ⟨(B.add (k * 4)).block, (B.add (k * 4)).off + 3, none⟩ = some (.string bs) := hcB 3 _ rfl
          have hx' := Lib.hid hx
          have hy' := Lib.hid hy
          have i0 : (0 : Int) ≤ k := by omega
          have i1 : (k : Int) < rn1 := by omega
          clear hx hy hokA hokB hcA hcB
          have hne := fun u => neq_row u at_ ai av as_ bt bi bv bs
          obtain ⟨z, hbv⟩ : ∃ z, eqR ⟨⟨at_, ai⟩, av, as_⟩ ⟨⟨bt, bi⟩, bv, bs⟩ = z := ⟨_, rfl⟩
          rw [hbv] at hne
          have hbv' := Lib.hid hbv
          clear hbv
          cases z with
          | true =>
            go_wp2
            go_quiet (fail)
            clear hne p0 p1 p2 p3 q0 q1 q2 q3
            go_wp2
            go_roundw
            case rel =>
             refine ⟨k + 1, by omega, by go_num, (show Below _ _ _ from hb.out.trans ((below_drewN _ _).mono hb.out.size)), fun i x y hi ha hb2 => ?_⟩
             rcases Nat.lt_or_ge i k with h | h
             · exact hp.out i x y h ha hb2
             · obtain rfl : i = k := by omega
               rw [hx'.out] at ha; rw [hy'.out] at hb2
               cases ha; cases hb2
               exact hbv'.out
            case measure => simp [RowKit.intOf]; omega
          | false =>
            obtain rfl : E = false := hR.out (sameL_at hx'.out hy'.out hbv'.out)
            go_wp2
            go_quiet (fail)
            clear hne p0 p1 p2 p3 q0 q1 q2 q3
            go_wp2
            go_ret
            exact ⟨rfl, hbx.out.1.trans ((hb.out.trans ((below_drewN _ _).mono hb.out.size)).mono hbx.out.1.size)⟩
        · obtain rfl : rn1 = k := by omega
          have hSR : Hid (sameL a.rows b.rows = true) := sameL_of r1.out.len r2.out.len hp.out
          have hb0 := Lib.hid hb.out
          clear e1 f1 hb hp
          go_wp2
          obtain ⟨w0, rfl⟩ : ∃ x, x = wr := ⟨_, rfl⟩
          clear e2 f2
          go_loopw [51] (fun v51 wr => ∃ j : Nat, j ≤ kn1 ∧ v51 = .int .i64 j ∧ Hid (Below W.heap.size W wr) ∧ Hid (∀ i x y, i < j → a.kids[i]? = some x → b.kids[i]? = some y → eqKid x y = true)) (fun v51 _ => kn1 - (RowKit.intOf v51).toNat)
          case atStart => exact ⟨0, Nat.zero_le _, rfl, hb0, fun i a b hi => by omega⟩
          case round =>
           obtain ⟨j, hj, rfl, hb, hp⟩ := hrel
           have e2 := (hbx.out.2.1.below hb.out (Nat.le_refl _)).cell 2 rfl
           have f2 := (hbx.out.2.2.1.below hb.out (Nat.le_refl _)).cell 2 rfl
           by_cases hlj : j < kn1
           · obtain ⟨A, ⟨⟨at_, ai⟩, av⟩, hqA, hx, hokA, hcA⟩ := (s1.out.below hb.out (Nat.le_refl _)).at hlj
             obtain ⟨B, ⟨⟨bt, bi⟩, bv⟩, hqB, hy, hokB, hcB⟩ := (s2.out.below hb.out (Nat.le_refl _)).at hlj
             subst hqA
             subst hqB
             have p0 : wr.cell? (A.add (j * 3)) = some (.int .i64 at_) := by have h := hcA 0 _ rfl; rwa [add0] at h
             have p1 : wr.cell? ⟨(A.add (j * 3)).block, (A.add (j * 3)).off + 1, none⟩ = some (.int .u16 ai) := hcA 1 _ rfl
             have p2 : wr.cell? ⟨(A.add (j * 3)).block, (A.add (j * 3)).off + 2, none⟩ = some (.int .i64 av) := hcA 2 _ rfl
             have q0 : wr.cell? (B.add (j * 3)) = some (.int .i64 bt) := by have h := hcB 0 _ rfl; rwa [add0] at h
             have q1 : wr.cell? ⟨(B.add (j * 3)).block, (B.add (j * 3)).off + 1, none⟩ = some (.int .u16 bi) := hcB 1 _ rfl
             have q2 : wr.cell? ⟨(B.add (j * 3)).block, (B.add (j * 3)).off + 2, none⟩ = some (.int .i64 bv) := hcB 2 _ rfl
             have hx' := Lib.hid hx
             have hy' := Lib.hid hy
             have i0 : (0 : Int) ≤ j := by omega
             have i1 : (j : Int) < kn1 := by omega
             clear hx hy hokA hokB hcA hcB
             have hne := fun u => neq_kid u at_ ai av bt bi bv
             obtain ⟨z, hbv⟩ : ∃ z, eqKid ⟨⟨at_, ai⟩, av⟩ ⟨⟨bt, bi⟩, bv⟩ = z := ⟨_, rfl⟩
             rw [hbv] at hne
             have hbv' := Lib.hid hbv
             clear hbv
             cases z with
             | true =>
               go_wp2
               go_quiet (fail)
               clear hne p0 p1 p2 q0 q1 q2
               go_wp2
               go_roundw
               case rel =>
                refine ⟨j + 1, by omega, by go_num, (show Below _ _ _ from hb.out.trans ((below_drewN _ _).mono hb.out.size)), fun i x y hi ha hb2 => ?_⟩
                rcases Nat.lt_or_ge i j with h | h
                · exact hp.out i x y h ha hb2
                · obtain rfl : i = j := by omega
                  rw [hx'.out] at ha; rw [hy'.out] at hb2
                  cases ha; cases hb2
                  exact hbv'.out
               case measure => simp [RowKit.intOf]; omega
             | false =>
               obtain rfl : E = false := hK.out (sameK_at hx'.out hy'.out hbv'.out)
               go_wp2
               go_quiet (fail)
               clear hne p0 p1 p2 q0 q1 q2
               go_wp2
               go_ret
               exact ⟨rfl, hbx.out.1.trans ((hb.out.trans ((below_drewN _ _).mono hb.out.size)).mono hbx.out.1.size)⟩
           · obtain rfl : kn1 = j := by omega
             obtain rfl : E = true := hT.out hSR.out (sameK_of s1.out.len s2.out.len hp.out) (by first | rfl | trivial)
             clear e2 f2
             go_wp2
             go_ret
             exact ⟨rfl, hbx.out.1.trans (hb.out.mono hbx.out.1.size)⟩
     · have hn2 : decide (kn1 = kn2) = false := decide_eq_false hm
       obtain rfl : E = false := hK.out (sameK_ne (by rw [s1.out.len, s2.out.len]; exact hm))
       have hn1 : ¬ (kn1 : Int) = kn2 := by omega
       go_enter Tryz.func28, Tryz.ntmps28
       go_wp2
       clear hW
       go_ret
       exact ⟨rfl, hbx.out.1⟩
   · have hn2 : decide (rn1 = rn2) = false := decide_eq_false hn
     obtain rfl : E = false := hR.out (sameL_ne (by rw [r1.out.len, r2.out.len]; exact hn))
     have hn1 : ¬ (rn1 : Int) = rn2 := by omega
     go_enter Tryz.func28, Tryz.ntmps28
     go_wp2
     clear hW
     go_ret
     exact ⟨rfl, hbx.out.1⟩
 · have hk2 : (k1 == k2) = false := by rw [beq_eq_false_iff_ne]; exact hk
   obtain rfl : E = false := hN.out hk
   go_enter Tryz.func28, Tryz.ntmps28
   go_wp2
   clear hW
   go_ret
   exact ⟨rfl, hbx.out.1⟩
end Go.Proofs.YtocekhckmpkbmaaGreat
