/- Parts of the proof: Equal images; Same of record -/
import Derived.Test.YtocekhckmpkbmaaGreatU10
import Derived.Test.YtocekhckmpkbmaaGreatU09
import Derived.Test.YtocekhckmpkbmaaGreatU01
namespace Go.Proofs.YtocekhckmpkbmaaGreat
open Go.RowKit
section
variable {P : Program} {w : World}
theorem wpList_load_g {ops : Array Oper} {rest : List Oper} {o : Oper} {a : Act} {Q : Exit → Act → World → Prop} (hgd : Region.wanted o (yielded ops a.tmps) = true) (ty : TypeId) (x : Operand) (ho : o.op = .load ty x) {d : TypeDesc} (hu : P.underlying ty = some d)
 (hd : (match d with | .struct _ | .array _ _ => true | _ => false) = true) {vs : List Value} (hi : (P.info? ty).map (·.size) = some vs.length) {ad : Addr} (hx : a.eval x = .pointer (some ad))
 (hc : ∀ j v, vs[j]? = some v → w.cell? (ad.add j) = some v) (h : wpList P ops Q rest (a.put o.dst (.agg vs.toArray)) w) : wpList P ops Q (o :: rest) a w := by
 refine wpList_step fun K hK => ?_
 simp only [hgd, if_true]; unfold Oper.wp execOp; simp only [ho, hx, Instr.loadAt, Instr.sureAddr, Sem.run_bind, Sem.run_pure, Result.andThen_ok, run_loadVar_at hu hd hi ad hc]; exact hK _ _ h
end
def sameI (a b : ImgD) : Bool := (a.page == b.page && sameC a.bef b.bef) && sameC a.aft b.aft
set_option maxRecDepth 100000 in
set_option maxHeartbeats 4000000 in
theorem sameImage_any (p1 k1 : Int) (q1 : Option Addr) (n1 c1 : Nat) (s1 : Option Addr) (m1 d1 : Nat) (g1 : Int) (t1 : Option Addr) (i1 e1 : Nat) (u1 : Option Addr) (j1 f1 : Nat) (p2 k2 : Int) (q2 : Option Addr) (n2 c2 : Nat) (s2 : Option Addr) (m2 d2 : Nat) (g2 : Int) (t2 : Option Addr) (i2 e2 : Nat) (u2 : Option Addr) (j2 f2 : Nat) (a b : ImgD) (w : World) (h1 : ImgOn w ⟨p1, ⟨k1, q1, n1, c1, s1, m1, d1⟩, ⟨g1, t1, i1, e1, u1, j1, f1⟩⟩ a) (h2 : ImgOn w ⟨p2, ⟨k2, q2, n2, c2, s2, m2, d2⟩, ⟨g2, t2, i2, e2, u2, j2, f2⟩⟩ b) :
 Calls Tryz.prog 37 #[.agg #[.int .i64 p1, .int .i64 k1, .slice q1 n1 c1, .slice s1 m1 d1, .int .i64 g1, .slice t1 i1 e1, .slice u1 j1 f1], .agg #[.int .i64 p2, .int .i64 k2, .slice q2 n2 c2, .slice s2 m2 d2, .int .i64 g2, .slice t2 i2 e2, .slice u2 j2 f2]] w (fun e w' => e = .returned (.bool (sameI a b)) ∧ Below w.heap.size w w') := by
 obtain ⟨W, hW⟩ : ∃ W, (w.alloc (.cells #[.int .i64 p1, .int .i64 k1, .slice q1 n1 c1, .slice s1 m1 d1, .int .i64 g1, .slice t1 i1 e1, .slice u1 j1 f1] 62)).alloc (.cells #[.int .i64 p2, .int .i64 k2, .slice q2 n2 c2, .slice s2 m2 d2, .int .i64 g2, .slice t2 i2 e2, .slice u2 j2 f2] 62) = W := ⟨_, rfl⟩; have hbx := lh (two_boxes hW); have c0 := hbx.out.2.1.cell 0 rfl; have d0 := hbx.out.2.2.1.cell 0 rfl
 have x1 : Hid (∀ u, Below W.heap.size W u → ∀ j' x, ([.int .i64 k1, .slice q1 n1 c1, .slice s1 m1 d1] : List Value)[j']? = some x → u.cell? ((⟨w.heap.size, 1, none⟩ : Addr).add j') = some x) := fun u hu => Boxed.part (hbx.out.2.1.below hu (Nat.le_refl _)) (o := 1) (fun j' x hj => by
  match j', hj with
  | 0, hj => exact hj
  | 1, hj => exact hj
  | 2, hj => exact hj
  | j' + 3, hj => simp at hj)
 have x4 : Hid (∀ u, Below W.heap.size W u → ∀ j' x, ([.int .i64 g1, .slice t1 i1 e1, .slice u1 j1 f1] : List Value)[j']? = some x → u.cell? ((⟨w.heap.size, 4, none⟩ : Addr).add j') = some x) := fun u hu => Boxed.part (hbx.out.2.1.below hu (Nat.le_refl _)) (o := 4) (fun j' x hj => by
  match j', hj with
  | 0, hj => exact hj
  | 1, hj => exact hj
  | 2, hj => exact hj
  | j' + 3, hj => simp at hj)
 have y1 : Hid (∀ u, Below W.heap.size W u → ∀ j' x, ([.int .i64 k2, .slice q2 n2 c2, .slice s2 m2 d2] : List Value)[j']? = some x → u.cell? ((⟨w.heap.size + 1, 1, none⟩ : Addr).add j') = some x) := fun u hu => Boxed.part (hbx.out.2.2.1.below hu (Nat.le_refl _)) (o := 1) (fun j' x hj => by
  match j', hj with
  | 0, hj => exact hj
  | 1, hj => exact hj
  | 2, hj => exact hj
  | j' + 3, hj => simp at hj)
 have y4 : Hid (∀ u, Below W.heap.size W u → ∀ j' x, ([.int .i64 g2, .slice t2 i2 e2, .slice u2 j2 f2] : List Value)[j']? = some x → u.cell? ((⟨w.heap.size + 1, 4, none⟩ : Addr).add j') = some x) := fun u hu => Boxed.part (hbx.out.2.2.1.below hu (Nat.le_refl _)) (o := 4) (fun j' x hj => by
  match j', hj with
  | 0, hj => exact hj
  | 1, hj => exact hj
  | 2, hj => exact hj
  | j' + 3, hj => simp at hj)
 have hb := lh (same_c k1 q1 n1 c1 s1 m1 d1 a.bef k2 q2 n2 c2 s2 m2 d2 b.bef W (h1.bef.below hbx.out.1 (Nat.le_refl _)) (h2.bef.below hbx.out.1 (Nat.le_refl _))); have ha := lh (fun u (hu : Below W.heap.size W u) => same_c g1 t1 i1 e1 u1 j1 f1 a.aft g2 t2 i2 e2 u2 j2 f2 b.aft u ((h1.aft.below hbx.out.1 (Nat.le_refl _)).below hu (Nat.le_refl _)) ((h2.aft.below hbx.out.1 (Nat.le_refl _)).below hu (Nat.le_refl _))); obtain ⟨E, hE⟩ : ∃ E, sameC a.bef b.bef = E := ⟨_, rfl⟩; obtain ⟨F, hF⟩ : ∃ F, sameC a.aft b.aft = F := ⟨_, rfl⟩; rw [hE] at hb; rw [hF] at ha; have hpa : p1 = a.page := h1.page; have hpb : p2 = b.page := h2.page; have hs : Hid (sameI a b = ((p1 == p2 && E) && F)) := by show sameI a b = _; unfold sameI; rw [hE, hF, hpa, hpb]
 rw [hs.out]; have z1 := sizeCont (.int .i64 k1) (.slice q1 n1 c1) (.slice s1 m1 d1); have z2 := sizeCont (.int .i64 k2) (.slice q2 n2 c2) (.slice s2 m2 d2); have z3 := sizeCont (.int .i64 g1) (.slice t1 i1 e1) (.slice u1 j1 f1); have z4 := sizeCont (.int .i64 g2) (.slice t2 i2 e2) (.slice u2 j2 f2); have r1 := lh (x1.out W (Below.refl _ _)); have r2 := lh (y1.out W (Below.refl _ _)); clear h1 h2 hE hF hs hpa hpb
 by_cases hkk : p1 = p2
 · subst hkk; rw [beq_self_eq_true]
   go_enter Tryz.func37, Tryz.ntmps37
   go_wp2_with (first
    | ((with_reducible refine wpList_load_g ?_ 55 (.tmp 11) rfl Tryz.underlying55 rfl z1 rfl r1.out ?_)
       · exact rfl)
    | ((with_reducible refine wpList_load_g ?_ 55 (.tmp 13) rfl Tryz.underlying55 rfl z2 rfl r2.out ?_)
       · exact rfl))
   clear hW; refine hb.out.mono ?_; clear hb; rintro e w1 ⟨rfl, hb1⟩; have hd := lh hb1; have r3 := lh (x4.out w1 hd.out); have r4 := lh (y4.out w1 hd.out); clear hb1 c0 d0 x1 y1 x4 y4 r1 r2; cases E with
   | true =>
     go_wp2_with (first
      | ((with_reducible refine wpList_load_g ?_ 55 (.tmp 18) rfl Tryz.underlying55 rfl z3 rfl r3.out ?_)
         · exact rfl)
      | ((with_reducible refine wpList_load_g ?_ 55 (.tmp 20) rfl Tryz.underlying55 rfl z4 rfl r4.out ?_)
         · exact rfl))
     refine (ha.out w1 hd.out).mono ?_; clear ha r3 r4; rintro e w2 ⟨rfl, hb2⟩; have hd2 := lh (hd.out.trans (hb2.mono hd.out.size)); clear hb2; go_wp2; go_ret; exact ⟨by cases F <;> rfl, hbx.out.1.trans (hd2.out.mono hbx.out.1.size)⟩
   | false => clear ha r3 r4; go_wp2; go_ret; exact ⟨rfl, hbx.out.1.trans (hd.out.mono hbx.out.1.size)⟩
 · have hk2 : (p1 == p2) = false := by simpa using hkk
   rw [hk2]; clear ha hb r1 r2 x1 y1 x4 y4
   go_enter Tryz.func37, Tryz.ntmps37
   go_wp2; go_ret; exact ⟨rfl, hbx.out.1⟩
set_option maxRecDepth 100000 in
set_option maxHeartbeats 4000000 in
theorem equalImg_any (qa : Option Addr) (na ca : Nat) (V : List ImgV) (l : List ImgD) (qb : Option Addr) (nb cb : Nat) (U : List ImgV) (m : List ImgD) (w : World) (h1 : ImgsOn w qa na ca V l) (h2 : ImgsOn w qb nb cb U m) (M1 : na ≤ maxLen) (M2 : nb ≤ maxLen) :
 Calls Tryz.prog 36 #[.slice qa na ca, .slice qb nb cb, .func (.func 37) #[] #[]] w (fun e w' => e = .returned (.bool (sameB sameI l m)) ∧ Below w.heap.size w w') := by
 unfold maxLen at M1 M2; have l1 : Hid (l.length = na) := by have := h1.len; have := h1.on.len; show l.length = na; omega
 have l2 : Hid (m.length = nb) := by have := h2.len; have := h2.on.len; show m.length = nb; omega
 have G1 := lh h1; have G2 := lh h2; clear h1 h2
 by_cases hn : na = nb
 · subst hn; have hT : Hid ((∀ (i : Nat) a b, i < na → l[i]? = some a → m[i]? = some b → sameI a b = true) → sameB sameI l m = true) := fun h => sameB_of (by rw [l1.out, l2.out]) (fun i a b ha hb => h i a b (by have := (List.getElem?_eq_some_iff.1 ha).1; have := l1.out; omega) ha hb)
   have hF : Hid (∀ (i : Nat) a b, l[i]? = some a → m[i]? = some b → sameI a b = false → sameB sameI l m = false) := fun i a b ha hb h => sameB_at ha hb h
   obtain ⟨E, hE⟩ : ∃ E, sameB sameI l m = E := ⟨_, rfl⟩; rw [hE] at hT hF ⊢; clear hE
   go_enter Tryz.func36, Tryz.ntmps36
   go_wp2
   go_loopw [17] (fun v17 wr => ∃ k : Nat, k ≤ na ∧ v17 = .int .i64 k ∧ Hid (Below w.heap.size w wr) ∧ Hid (∀ (i : Nat) a b, i < k → l[i]? = some a → m[i]? = some b → sameI a b = true)) (fun v17 _ => na - (RowKit.intOf v17).toNat)
   case atStart => exact ⟨0, Nat.zero_le _, rfl, (show Below _ _ _ from Below.refl _ _), fun i a b hi => by omega⟩
   case round =>
    obtain ⟨k, hk, rfl, hb, hp⟩ := hrel
    by_cases hlt : k < na
    · obtain ⟨A, ⟨p1, ⟨k1, q1, n1, c1, s1, m1, d1⟩, ⟨g1, t1, i1, e1, u1, j1, f1⟩⟩, a, hqA, hx, hdx, ona, hcA⟩ := (G1.out.below hb.out (Nat.le_refl _)).at hlt; obtain ⟨B, ⟨p2, ⟨k2, q2, n2, c2, s2, m2, d2⟩, ⟨g2, t2, i2, e2, u2, j2, f2⟩⟩, b, hqB, hy, hdy, onb, hcB⟩ := (G2.out.below hb.out (Nat.le_refl _)).at hlt; subst hqA; subst hqB; have hcA : Hid (∀ j' x, ([.int .i64 p1, .int .i64 k1, .slice q1 n1 c1, .slice s1 m1 d1, .int .i64 g1, .slice t1 i1 e1, .slice u1 j1 f1] : List Value)[j']? = some x → wr.cell? ((A.add (k * 7)).add j') = some x) := hcA; have hx' := lh hdx; have hy' := lh hdy; have I0 : (0 : Int) ≤ k := by omega
      have I1 : (k : Int) < na := by omega
      have z1 : (Tryz.prog.info? 62).map (·.size) = some [Value.int .i64 p1, Value.int .i64 k1, Value.slice q1 n1 c1, Value.slice s1 m1 d1, Value.int .i64 g1, Value.slice t1 i1 e1, Value.slice u1 j1 f1].length := sizeImg ⟨p1, ⟨k1, q1, n1, c1, s1, m1, d1⟩, ⟨g1, t1, i1, e1, u1, j1, f1⟩⟩; have z2 : (Tryz.prog.info? 62).map (·.size) = some [Value.int .i64 p2, Value.int .i64 k2, Value.slice q2 n2 c2, Value.slice s2 m2 d2, Value.int .i64 g2, Value.slice t2 i2 e2, Value.slice u2 j2 f2].length := sizeImg ⟨p2, ⟨k2, q2, n2, c2, s2, m2, d2⟩, ⟨g2, t2, i2, e2, u2, j2, f2⟩⟩; obtain ⟨w2, hw2⟩ : ∃ x, wr.alloc (.cells #[.int .i64 p1, .int .i64 k1, .slice q1 n1 c1, .slice s1 m1 d1, .int .i64 g1, .slice t1 i1 e1, .slice u1 j1 f1] 62) = x := ⟨_, rfl⟩; have hba := lh (one_box hw2); have hd2 := lh (below_step hba.out.1 hb.out); obtain ⟨w3, hw3⟩ : ∃ x, w2.alloc (.cells #[.int .i64 p2, .int .i64 k2, .slice q2 n2 c2, .slice s2 m2 d2, .int .i64 g2, .slice t2 i2 e2, .slice u2 j2 f2] 62) = x := ⟨_, rfl⟩
      have hbb := lh (one_box hw3); have hd3 := lh (below_step hbb.out.1 hd2.out)
      have hcB2 : Hid (∀ j' x, ([.int .i64 p2, .int .i64 k2, .slice q2 n2 c2, .slice s2 m2 d2, .int .i64 g2, .slice t2 i2 e2, .slice u2 j2 f2] : List Value)[j']? = some x → w2.cell? ((B.add (k * 7)).add j') = some x) := by
       obtain ⟨hq, hy3⟩ : True ∧ True := ⟨trivial, trivial⟩
       exact fun j' x hj => by obtain ⟨B', v', d', hqB', hv', -, -, hc'⟩ := (G2.out.below hd2.out (Nat.le_refl _)).at hlt; cases hqB'; rw [hy] at hv'; cases hv'; exact hc' j' x hj
      have ba := lh (hba.out.2.1.below hbb.out.1 (Nat.le_refl _)); have bb := lh hbb.out.2.1; have hcl := lh (sameImage_any p1 k1 q1 n1 c1 s1 m1 d1 g1 t1 i1 e1 u1 j1 f1 p2 k2 q2 n2 c2 s2 m2 d2 g2 t2 i2 e2 u2 j2 f2 a b w3 ((ona.below hba.out.1 (Nat.le_refl _)).below hbb.out.1 (Nat.le_refl _)) ((onb.below hba.out.1 (Nat.le_refl _)).below hbb.out.1 (Nat.le_refl _))); obtain ⟨e, he⟩ : ∃ e, sameI a b = e := ⟨_, rfl⟩; rw [he] at hcl; have he' := lh he; clear hx hy hdx hdy hcB he ona onb
      go_wp2_with (first
       | (with_reducible refine wpList_load_at rfl 62 (.tmp 20) rfl Tryz.underlying62 rfl z1 rfl hcA.out ?_)
       | (with_reducible refine wpList_load_at rfl 62 (.tmp 24) rfl Tryz.underlying62 rfl z2 rfl hcB2.out ?_)
       | (with_reducible refine wpList_load_at rfl 62 (.tmp 8) rfl Tryz.underlying62 rfl z1 rfl ba.out.all ?_)
       | (with_reducible refine wpList_load_at rfl 62 (.tmp 9) rfl Tryz.underlying62 rfl z2 rfl bb.out.all ?_))
      refine hcl.out.mono ?_; clear hcl hw2 hw3; rintro r w4 ⟨rfl, hb4⟩; have hd4 := lh (below_step hb4 hd3.out); clear hb4; cases e with
      | true =>
        go_wp2
        go_roundw
        case rel =>
         refine ⟨k + 1, by omega, by go_num, hd4, fun i a b hi ha hb2 => ?_⟩; rcases Nat.lt_or_ge i k with h | h
         · exact hp.out i a b h ha hb2
         · obtain rfl : i = k := by omega
           rw [hx'.out] at ha; rw [hy'.out] at hb2; cases ha; cases hb2; exact he'.out
        case measure => simp [RowKit.intOf]; omega
      | false => go_wp2; go_ret; exact ⟨by rw [hF.out k _ _ hx'.out hy'.out he'.out]; rfl, hd4.out⟩
    · obtain rfl : na = k := by omega
      go_wp2; go_ret; exact ⟨by rw [hT.out hp.out]; rfl, hb.out⟩
 · have hs : sameB sameI l m = false := sameB_ne (by rw [l1.out, l2.out]; exact hn); rw [hs]; clear hs; have hn1 : ¬ (na : Int) = nb := by omega
   have hn2 : decide (na = nb) = false := decide_eq_false hn
   go_enter Tryz.func36, Tryz.ntmps36
   go_wp2; go_ret; exact ⟨rfl, Below.refl _ _⟩
end Go.Proofs.YtocekhckmpkbmaaGreat
namespace Go.Proofs.YtocekhckmpkbmaaGreat
open Go.RowKit
def sameRec (a b : RecD) : Bool := a.kind == b.kind && (a.lsn == b.lsn && (a.txn == b.txn && (a.prev == b.prev && (a.next == b.next && (sameB sameI a.images b.images && (sameB eqS a.steps b.steps && (a.nextTxn == b.nextTxn && (sameB eqT a.txns b.txns && sameB eqP a.dirty b.dirty))))))))
set_option maxRecDepth 100000 in
set_option maxHeartbeats 4000000 in
theorem sameRec_any (v1 v2 : RecV) (V U : List ImgV) (a b : RecD) (w : World) (h1 : v1.On w V a) (h2 : v2.On w U b) :
 Calls Tryz.prog 14 #[v1.val, v2.val] w (fun e w' => e = .returned (.bool (sameRec a b)) ∧ Below w.heap.size w w') := by
 obtain ⟨k1, l1, x1, v1, n1, iq1, in1, ic1, sq1, sn1, sc1, y1, tq1, tn1, tc1, dq1, dn1, dc1⟩ := v1; obtain ⟨k2, l2, x2, v2, n2, iq2, in2, ic2, sq2, sn2, sc2, y2, tq2, tn2, tc2, dq2, dn2, dc2⟩ := v2; obtain ⟨W, hW⟩ : ∃ W, (w.alloc (.cells #[.int .i64 k1, .int .u64 l1, .int .i64 x1, .int .u64 v1, .int .u64 n1, .slice iq1 in1 ic1, .slice sq1 sn1 sc1, .int .i64 y1, .slice tq1 tn1 tc1, .slice dq1 dn1 dc1] 30)).alloc (.cells #[.int .i64 k2, .int .u64 l2, .int .i64 x2, .int .u64 v2, .int .u64 n2, .slice iq2 in2 ic2, .slice sq2 sn2 sc2, .int .i64 y2, .slice tq2 tn2 tc2, .slice dq2 dn2 dc2] 30) = W := ⟨_, rfl⟩; have hbx := lh (two_boxes hW); have o1 := lh (h1.below hbx.out.1 (Nat.le_refl _)); have o2 := lh (h2.below hbx.out.1 (Nat.le_refl _)); have H0 := lh (fun u (hu : Below W.heap.size W u) => equalImg_any iq1 in1 ic1 V a.images iq2 in2 ic2 U b.images u (o1.out.images.below hu (Nat.le_refl _)) (o2.out.images.below hu (Nat.le_refl _)) (Nat.le_trans o1.out.images.on.le o1.out.images.on.cap) (Nat.le_trans o2.out.images.on.le o2.out.images.on.cap))
 obtain ⟨E0, hE0⟩ : ∃ E, sameB sameI a.images b.images = E := ⟨_, rfl⟩; rw [hE0] at H0; have H1 := lh (fun u (hu : Below W.heap.size W u) => equalStep_any sq1 sn1 sc1 a.steps sq2 sn2 sc2 b.steps u (o1.out.steps.below hu (Nat.le_refl _)) (o2.out.steps.below hu (Nat.le_refl _)) (Nat.le_trans o1.out.steps.le o1.out.steps.cap) (Nat.le_trans o2.out.steps.le o2.out.steps.cap)); obtain ⟨E1, hE1⟩ : ∃ E, sameB eqS a.steps b.steps = E := ⟨_, rfl⟩; rw [hE1] at H1; have H2 := lh (fun u (hu : Below W.heap.size W u) => equalTxn_any tq1 tn1 tc1 a.txns tq2 tn2 tc2 b.txns u (o1.out.txns.below hu (Nat.le_refl _)) (o2.out.txns.below hu (Nat.le_refl _)) (Nat.le_trans o1.out.txns.le o1.out.txns.cap) (Nat.le_trans o2.out.txns.le o2.out.txns.cap)); obtain ⟨E2, hE2⟩ : ∃ E, sameB eqT a.txns b.txns = E := ⟨_, rfl⟩; rw [hE2] at H2; have H3 := lh (fun u (hu : Below W.heap.size W u) => equalPg_any dq1 dn1 dc1 a.dirty dq2 dn2 dc2 b.dirty u (o1.out.dirty.below hu (Nat.le_refl _)) (o2.out.dirty.below hu (Nat.le_refl _)) (Nat.le_trans o1.out.dirty.le o1.out.dirty.cap) (Nat.le_trans o2.out.dirty.le o2.out.dirty.cap))
 obtain ⟨E3, hE3⟩ : ∃ E, sameB eqP a.dirty b.dirty = E := ⟨_, rfl⟩; rw [hE3] at H3; obtain ⟨b0, hb0⟩ : ∃ E, (k1 == k2) = E := ⟨_, rfl⟩; have q0 : (a.kind == b.kind) = b0 := by rw [← h1.kind, ← h2.kind]; exact hb0
 obtain ⟨b1, hb1⟩ : ∃ E, (l1 == l2) = E := ⟨_, rfl⟩; have q1 : (a.lsn == b.lsn) = b1 := by rw [← h1.lsn, ← h2.lsn]; exact hb1
 obtain ⟨b2, hb2⟩ : ∃ E, (x1 == x2) = E := ⟨_, rfl⟩; have q2 : (a.txn == b.txn) = b2 := by rw [← h1.txn, ← h2.txn]; exact hb2
 obtain ⟨b3, hb3⟩ : ∃ E, (v1 == v2) = E := ⟨_, rfl⟩; have q3 : (a.prev == b.prev) = b3 := by rw [← h1.prev, ← h2.prev]; exact hb3
 obtain ⟨b4, hb4⟩ : ∃ E, (n1 == n2) = E := ⟨_, rfl⟩; have q4 : (a.next == b.next) = b4 := by rw [← h1.next, ← h2.next]; exact hb4
 obtain ⟨b5, hb5⟩ : ∃ E, (y1 == y2) = E := ⟨_, rfl⟩; have q5 : (a.nextTxn == b.nextTxn) = b5 := by rw [← h1.nextTxn, ← h2.nextTxn]; exact hb5
 have hs : sameRec a b = (b0 && (b1 && (b2 && (b3 && (b4 && (E0 && (E1 && (b5 && (E2 && E3))))))))) := by unfold sameRec; rw [q0, q1, q2, q3, q4, q5, hE0, hE1, hE2, hE3]
 rw [hs]; clear hs q0 q1 q2 q3 q4 q5 hE0 hE1 hE2 hE3 h1 h2 o1 o2; have z10 := hbx.out.2.1.cell 0 rfl; have z20 := hbx.out.2.2.1.cell 0 rfl; have z11 := hbx.out.2.1.cell 1 rfl; have z21 := hbx.out.2.2.1.cell 1 rfl; have z12 := hbx.out.2.1.cell 2 rfl; have z22 := hbx.out.2.2.1.cell 2 rfl; have z13 := hbx.out.2.1.cell 3 rfl; have z23 := hbx.out.2.2.1.cell 3 rfl; have z14 := hbx.out.2.1.cell 4 rfl; have z24 := hbx.out.2.2.1.cell 4 rfl; have z15 := hbx.out.2.1.cell 5 rfl; have z25 := hbx.out.2.2.1.cell 5 rfl; cases b0 with
 | false =>
   clear H0 H1 H2 H3 hb1 hb2 hb3 hb4 hb5
   go_enter Tryz.func14, Tryz.ntmps14
   go_wp2; go_ret; exact ⟨rfl, hbx.out.1⟩
 | true =>
 cases b1 with
 | false =>
   clear H0 H1 H2 H3 hb2 hb3 hb4 hb5
   go_enter Tryz.func14, Tryz.ntmps14
   go_wp2; go_ret; exact ⟨rfl, hbx.out.1⟩
 | true =>
 cases b2 with
 | false =>
   clear H0 H1 H2 H3 hb3 hb4 hb5
   go_enter Tryz.func14, Tryz.ntmps14
   go_wp2; go_ret; exact ⟨rfl, hbx.out.1⟩
 | true =>
 cases b3 with
 | false =>
   clear H0 H1 H2 H3 hb4 hb5
   go_enter Tryz.func14, Tryz.ntmps14
   go_wp2; go_ret; exact ⟨rfl, hbx.out.1⟩
 | true =>
 cases b4 with
 | false =>
   clear H0 H1 H2 H3 hb5
   go_enter Tryz.func14, Tryz.ntmps14
   go_wp2; go_ret; exact ⟨rfl, hbx.out.1⟩
 | true =>
 go_enter Tryz.func14, Tryz.ntmps14
 go_wp2_with fail
 clear hW; refine (H0.out W (Below.refl _ _)).mono ?_; clear H0 z10 z20 z11 z21 z12 z22 z13 z23 z14 z24 z15 z25 hb0 hb1 hb2 hb3 hb4; rintro e w1 ⟨rfl, hc⟩; have hd1 := lh hc; clear hc; have z16 := (hbx.out.2.1.below hd1.out (Nat.le_refl _)).cell 6 rfl; have z26 := (hbx.out.2.2.1.below hd1.out (Nat.le_refl _)).cell 6 rfl; cases E0 with
 | false => clear H1 H2 H3; go_wp2; go_ret; exact ⟨rfl, hbx.out.1.trans (hd1.out.mono hbx.out.1.size)⟩
 | true =>
 go_wp2_with fail
 refine (H1.out w1 hd1.out).mono ?_; clear H1 z16 z26; rintro e w2 ⟨rfl, hc⟩; have hd2 := lh (hd1.out.trans (hc.mono hd1.out.size)); clear hc; have z17 := (hbx.out.2.1.below hd2.out (Nat.le_refl _)).cell 7 rfl; have z27 := (hbx.out.2.2.1.below hd2.out (Nat.le_refl _)).cell 7 rfl; have z18 := (hbx.out.2.1.below hd2.out (Nat.le_refl _)).cell 8 rfl; have z28 := (hbx.out.2.2.1.below hd2.out (Nat.le_refl _)).cell 8 rfl; cases E1 with
 | false => clear H2 H3; go_wp2; go_ret; exact ⟨rfl, hbx.out.1.trans (hd2.out.mono hbx.out.1.size)⟩
 | true =>
 cases b5 with
 | false => clear H2 H3; go_wp2; go_ret; exact ⟨rfl, hbx.out.1.trans (hd2.out.mono hbx.out.1.size)⟩
 | true =>
 go_wp2_with fail
 refine (H2.out w2 hd2.out).mono ?_; clear H2 hb5 z17 z27 z18 z28; rintro e w3 ⟨rfl, hc⟩; have hd3 := lh (hd2.out.trans (hc.mono hd2.out.size)); clear hc; have z19 := (hbx.out.2.1.below hd3.out (Nat.le_refl _)).cell 9 rfl; have z29 := (hbx.out.2.2.1.below hd3.out (Nat.le_refl _)).cell 9 rfl; cases E2 with
 | false => clear H3; go_wp2; go_ret; exact ⟨rfl, hbx.out.1.trans (hd3.out.mono hbx.out.1.size)⟩
 | true =>
 go_wp2_with fail
 refine (H3.out w3 hd3.out).mono ?_; clear H3 z19 z29; rintro e w4 ⟨rfl, hc⟩; have hd4 := lh (hd3.out.trans (hc.mono hd3.out.size)); clear hc; cases E3 with
 | false => go_wp2; go_ret; exact ⟨rfl, hbx.out.1.trans (hd4.out.mono hbx.out.1.size)⟩
 | true => go_wp2; go_ret; exact ⟨rfl, hbx.out.1.trans (hd4.out.mono hbx.out.1.size)⟩
end Go.Proofs.YtocekhckmpkbmaaGreat
