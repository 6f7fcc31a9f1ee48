/- Same and SameAnswer of the document, and SameAnswer of ideal. -/
import Derived.Test.YtkdkncbccofpdaaIAr
namespace Go.Proofs.Ytkdkncbccofpdaa
open Go.RowKit
set_option maxRecDepth 100000

def ansB (e1 k1 : Int) (l : List RowD) (e2 k2 : Int) (m : List RowD) : Bool := (e1 == e2) && (sameL l m && (k1 == k2))

set_option maxHeartbeats 2000000 in
theorem ansI_any (e1 : Int) (q1 : Option Addr) (n1 c1 : Nat) (k1 : Int) (e2 : Int) (q2 : Option Addr) (n2 c2 : Nat) (k2 : Int) (l m : List RowD) (w : World) (h1 : RowsOn w q1 n1 c1 l) (h2 : RowsOn w q2 n2 c2 m) :
    Calls Try.prog 27 #[.agg #[.int .i64 e1, .slice q1 n1 c1, .int .i64 k1], .agg #[.int .i64 e2, .slice q2 n2 c2, .int .i64 k2]] w (RqPost (ansB e1 k1 l e2 k2 m) w) := by
  obtain ⟨W, hW⟩ : ∃ W, (w.alloc (.cells #[.int .i64 e1, .slice q1 n1 c1, .int .i64 k1] 35)).alloc (.cells #[.int .i64 e2, .slice q2 n2 c2, .int .i64 k2] 35) = W := ⟨_, rfl⟩
  have hbx := Lib.hid (two_rowsI (xs := [.int .i64 e1, .slice q1 n1 c1, .int .i64 k1]) (ys := [.int .i64 e2, .slice q2 n2 c2, .int .i64 k2]) hW)
  have b0 := Lib.hid hbx.out.1
  have s0 := Lib.hid hbx.out.2.1
  have r0 := Lib.hid hbx.out.2.2.1
  have h10 := Lib.hid (h1.below b0.out (Nat.le_refl _))
  have h20 := Lib.hid (h2.below b0.out (Nat.le_refl _))
  clear h1 h2 hbx
  obtain ⟨E, hE⟩ : ∃ E, (e1 == e2) = E := ⟨_, rfl⟩
  obtain ⟨K, hK⟩ : ∃ K, (k1 == k2) = K := ⟨_, rfl⟩
  obtain ⟨C, hC⟩ : ∃ C, sameL l m = C := ⟨_, rfl⟩
  have hr : Hid (ansB e1 k1 l e2 k2 m = (E && (C && K))) := by show _ = _; unfold ansB; rw [hE, hK, hC]
  have hc : Hid (∀ u, Below W.heap.size W u → Calls Try.prog 29 #[.slice q1 n1 c1, .slice q2 n2 c2] u (RqPost C u)) := fun u hu => by
    rw [← hC]
    exact same_any q1 n1 c1 l q2 n2 c2 m u (h10.out.below hu (Nat.le_refl _)) (h20.out.below hu (Nat.le_refl _))
  have y0 : W.cell? ⟨w.heap.size, 0, none⟩ = some (.int .i64 e1) := s0.out.cell 0
  have y1 : W.cell? ⟨w.heap.size, 1, none⟩ = some (.slice q1 n1 c1) := s0.out.cell 1
  have y2 : W.cell? ⟨w.heap.size, 2, none⟩ = some (.int .i64 k1) := s0.out.cell 2
  have z0 : W.cell? ⟨w.heap.size + 1, 0, none⟩ = some (.int .i64 e2) := r0.out.cell 0
  have z1 : W.cell? ⟨w.heap.size + 1, 1, none⟩ = some (.slice q2 n2 c2) := r0.out.cell 1
  have z2 : W.cell? ⟨w.heap.size + 1, 2, none⟩ = some (.int .i64 k2) := r0.out.cell 2
  clear hC
  cases E with
  | false =>
    go_enter Try.func27, Try.ntmps27
    go_wp2
    go_ret
    exact ⟨by rw [hr.out]; rfl, b0.out⟩
  | true =>
    go_enter Try.func27, Try.ntmps27
    go_wp2_with fail
    refine (hc.out _ (Below.refl _ _)).mono ?_
    rintro e u1 ⟨rfl, hb⟩
    have b1 := Lib.hid (b0.out.trans (hb.mono b0.out.size))
    have s1 := Lib.hid (s0.out.below hb)
    have r1 := Lib.hid (r0.out.below hb)
    clear hb s0 r0 b0 hc h10 h20 y0 y1 y2 z0 z1 z2 hW
    have y2 : u1.cell? ⟨w.heap.size, 2, none⟩ = some (.int .i64 k1) := s1.out.cell 2
    have z2 : u1.cell? ⟨w.heap.size + 1, 2, none⟩ = some (.int .i64 k2) := r1.out.cell 2
    cases C with
    | false =>
      go_wp2
      go_ret
      exact ⟨by rw [hr.out]; cases K <;> rfl, b1.out⟩
    | true =>
      go_wp2
      go_ret
      exact ⟨by rw [hr.out]; cases K <;> rfl, b1.out⟩

set_option maxHeartbeats 2000000 in
theorem ansR_any (e1 : Int) (q1 : Option Addr) (n1 c1 : Nat) (k1 : Int) (e2 : Int) (q2 : Option Addr) (n2 c2 : Nat) (k2 : Int) (l m : List RowD) (w : World) (h1 : RowsOn w q1 n1 c1 l) (h2 : RowsOn w q2 n2 c2 m) :
    Calls Try.prog 17 #[.agg #[.int .i64 e1, .slice q1 n1 c1, .int .i64 k1], .agg #[.int .i64 e2, .slice q2 n2 c2, .int .i64 k2]] w (RqPost (ansB e1 k1 l e2 k2 m) w) := by
  obtain ⟨W, hW⟩ : ∃ W, (w.alloc (.cells #[.int .i64 e1, .slice q1 n1 c1, .int .i64 k1] 35)).alloc (.cells #[.int .i64 e2, .slice q2 n2 c2, .int .i64 k2] 35) = W := ⟨_, rfl⟩
  have hbx := Lib.hid (two_rowsI (xs := [.int .i64 e1, .slice q1 n1 c1, .int .i64 k1]) (ys := [.int .i64 e2, .slice q2 n2 c2, .int .i64 k2]) hW)
  have b0 := Lib.hid hbx.out.1
  have s0 := Lib.hid hbx.out.2.1
  have r0 := Lib.hid hbx.out.2.2.1
  have h10 := Lib.hid (h1.below b0.out (Nat.le_refl _))
  have h20 := Lib.hid (h2.below b0.out (Nat.le_refl _))
  clear h1 h2 hbx
  obtain ⟨E, hE⟩ : ∃ E, (e1 == e2) = E := ⟨_, rfl⟩
  obtain ⟨K, hK⟩ : ∃ K, (k1 == k2) = K := ⟨_, rfl⟩
  obtain ⟨C, hC⟩ : ∃ C, sameL l m = C := ⟨_, rfl⟩
  have hr : Hid (ansB e1 k1 l e2 k2 m = (E && (C && K))) := by show _ = _; unfold ansB; rw [hE, hK, hC]
  have hc : Hid (∀ u, Below W.heap.size W u → Calls Try.prog 13 #[.slice q1 n1 c1, .slice q2 n2 c2] u (RqPost C u)) := fun u hu => by
    rw [← hC]
    exact refSame_any q1 n1 c1 l q2 n2 c2 m u (h10.out.below hu (Nat.le_refl _)) (h20.out.below hu (Nat.le_refl _))
  have y0 : W.cell? ⟨w.heap.size, 0, none⟩ = some (.int .i64 e1) := s0.out.cell 0
  have y1 : W.cell? ⟨w.heap.size, 1, none⟩ = some (.slice q1 n1 c1) := s0.out.cell 1
  have y2 : W.cell? ⟨w.heap.size, 2, none⟩ = some (.int .i64 k1) := s0.out.cell 2
  have z0 : W.cell? ⟨w.heap.size + 1, 0, none⟩ = some (.int .i64 e2) := r0.out.cell 0
  have z1 : W.cell? ⟨w.heap.size + 1, 1, none⟩ = some (.slice q2 n2 c2) := r0.out.cell 1
  have z2 : W.cell? ⟨w.heap.size + 1, 2, none⟩ = some (.int .i64 k2) := r0.out.cell 2
  clear hC
  cases E with
  | false =>
    go_enter Try.func17, Try.ntmps17
    go_wp2
    go_ret
    exact ⟨by rw [hr.out]; rfl, b0.out⟩
  | true =>
    cases K with
    | false =>
      go_enter Try.func17, Try.ntmps17
      go_wp2
      go_ret
      exact ⟨by rw [hr.out]; cases C <;> rfl, b0.out⟩
    | true =>
      go_enter Try.func17, Try.ntmps17
      go_wp2_with fail
      refine (hc.out _ (Below.refl _ _)).mono ?_
      rintro e u1 ⟨rfl, hb⟩
      have b1 := Lib.hid (b0.out.trans (hb.mono b0.out.size))
      have s1 := Lib.hid (s0.out.below hb)
      have r1 := Lib.hid (r0.out.below hb)
      clear hb s0 r0 b0 hc h10 h20 y0 y1 y2 z0 z1 z2 hW
      have y2 : u1.cell? ⟨w.heap.size, 2, none⟩ = some (.int .i64 k1) := s1.out.cell 2
      have z2 : u1.cell? ⟨w.heap.size + 1, 2, none⟩ = some (.int .i64 k2) := r1.out.cell 2
      cases C with
      | false =>
        go_wp2
        go_ret
        exact ⟨by rw [hr.out]; rfl, b1.out⟩
      | true =>
        go_wp2
        go_ret
        exact ⟨by rw [hr.out]; rfl, b1.out⟩

set_option maxHeartbeats 4000000 in
theorem refSer_any (tq : Option Addr) (tn tc : Nat) (rq : Option Addr) (rn rc : Nat) (bq : Option Addr) (bn bc : Nat) (mq : Option Addr) (mn mc : Nat) (o : Bool) (ptq : Option Addr) (ptn ptc : Nat) (prq : Option Addr) (prn prc : Nat) (pbq : Option Addr) (pbn pbc : Nat) (pmq : Option Addr) (pmn pmc : Nat) (po : Bool) (x y : SerD) (w : World) (hx : (⟨tq, tn, tc, rq, rn, rc, bq, bn, bc, mq, mn, mc, o⟩ : SV).On w x) (hy : (⟨ptq, ptn, ptc, prq, prn, prc, pbq, pbn, pbc, pmq, pmn, pmc, po⟩ : SV).On w y) :
    Calls Try.prog 23 #[.agg #[.slice tq tn tc, .slice rq rn rc, .slice bq bn bc, .slice mq mn mc, .bool o], .agg #[.slice ptq ptn ptc, .slice prq prn prc, .slice pbq pbn pbc, .slice pmq pmn pmc, .bool po]] w (RqPost (serSame x y) w) := by
  obtain ⟨W, hW⟩ : ∃ W, (w.alloc (.cells #[.slice tq tn tc, .slice rq rn rc, .slice bq bn bc, .slice mq mn mc, .bool o] 46)).alloc (.cells #[.slice ptq ptn ptc, .slice prq prn prc, .slice pbq pbn pbc, .slice pmq pmn pmc, .bool po] 46) = W := ⟨_, rfl⟩
  have hbx := Lib.hid (two_rowsI (xs := [.slice tq tn tc, .slice rq rn rc, .slice bq bn bc, .slice mq mn mc, .bool o]) (ys := [.slice ptq ptn ptc, .slice prq prn prc, .slice pbq pbn pbc, .slice pmq pmn pmc, .bool po]) hW)
  have b0 := Lib.hid hbx.out.1
  have s0 := Lib.hid hbx.out.2.1
  have r0 := Lib.hid hbx.out.2.2.1
  have y0 : W.cell? ⟨w.heap.size, 0, none⟩ = some (.slice tq tn tc) := s0.out.cell 0
  have y1 : W.cell? ⟨w.heap.size + 1, 0, none⟩ = some (.slice ptq ptn ptc) := r0.out.cell 0
  have y2 : W.cell? ⟨w.heap.size, 3, none⟩ = some (.slice mq mn mc) := s0.out.cell 3
  have y3 : W.cell? ⟨w.heap.size + 1, 3, none⟩ = some (.slice pmq pmn pmc) := r0.out.cell 3
  have y4 : W.cell? ⟨w.heap.size, 4, none⟩ = some (.bool o) := s0.out.cell 4
  have y5 : W.cell? ⟨w.heap.size + 1, 4, none⟩ = some (.bool po) := r0.out.cell 4
  have lt1 : Hid (x.bs.length = tn) := hx.sch.len
  have lt2 : Hid (y.bs.length = ptn) := hy.sch.len
  have lm1 : Hid (x.marks.length = mn) := hx.marks.len
  have lm2 : Hid (y.marks.length = pmn) := hy.marks.len
  have ktn := Nat.le_trans hx.sch.le hx.sch.cap
  have km : mn ≤ maxLen := by obtain ⟨vs, h, _, _⟩ := hx.marks; exact Nat.le_trans h.le h.cap
  unfold maxLen at ktn km
  have ho1 : Hid (o = x.over) := hx.over
  have ho2 : Hid (po = y.over) := hy.over
  have hx0 := Lib.hid (hx.below b0.out (Nat.le_refl _))
  have hy0 := Lib.hid (hy.below b0.out (Nat.le_refl _))
  clear hx hy hbx
  by_cases ht : tn = ptn
  case neg =>
    have d : ((tn : Int) != ptn) = true := by simp; omega
    have hf : Hid (serSame x y = false) := by show _ = _; unfold serSame; rw [sameG_ne eqBd (by rw [lt1.out, lt2.out]; exact ht)]; rfl
    clear ht
    go_enter Try.func23, Try.ntmps23
    go_wp2
    go_ret
    exact ⟨by rw [hf.out]; rfl, b0.out⟩
  subst ht
  by_cases hm : mn = pmn
  case neg =>
    have d : ((mn : Int) != pmn) = true := by simp; omega
    have hf : Hid (serSame x y = false) := by show _ = _; unfold serSame; rw [sameG_ne sameL (by rw [lm1.out, lm2.out]; exact hm)]; simp
    clear hm
    go_enter Try.func23, Try.ntmps23
    go_wp2
    go_ret
    exact ⟨by rw [hf.out]; rfl, b0.out⟩
  subst hm
  by_cases hoo : o = po
  case neg =>
    have hf : Hid (serSame x y = false) := by
      show _ = _; unfold serSame; rw [← ho1.out, ← ho2.out]
      rw [show (o == po) = false by cases o <;> cases po <;> simp at hoo ⊢]; simp
    have d : (o != po) = true := by cases o <;> cases po <;> simp at hoo ⊢
    clear hoo
    go_enter Try.func23, Try.ntmps23
    cases o <;> cases po <;> first | (exact absurd d (by decide)) | (go_wp2; go_ret; exact ⟨by rw [hf.out]; rfl, b0.out⟩)
  subst hoo
  have ho : Hid (serSame x y = (sameG eqBd x.bs y.bs && (sameL x.rows y.rows && (sameL x.begun y.begun && (sameG sameL x.marks y.marks))))) := by show _ = _; unfold serSame; rw [← ho1.out, ← ho2.out]; simp
  have hT : Hid ((∀ i a b, i < tn → x.bs[i]? = some a → y.bs[i]? = some b → eqBd a b = true) → sameG eqBd x.bs y.bs = true) := fun h => sameG_of eqBd lt1.out lt2.out h
  have hF : Hid (∀ i a b, x.bs[i]? = some a → y.bs[i]? = some b → eqBd a b = false → sameG eqBd x.bs y.bs = false) := fun i a b ha hb h => sameG_at eqBd ha hb h
  have hTm : Hid ((∀ i a b, i < mn → x.marks[i]? = some a → y.marks[i]? = some b → sameL a b = true) → sameG sameL x.marks y.marks = true) := fun h => sameG_of sameL lm1.out lm2.out h
  have hFm : Hid (∀ i a b, x.marks[i]? = some a → y.marks[i]? = some b → sameL a b = false → sameG sameL x.marks y.marks = false) := fun i a b ha hb h => sameG_at sameL ha hb h
  obtain ⟨E1, hE1⟩ : ∃ E, sameG eqBd x.bs y.bs = E := ⟨_, rfl⟩
  obtain ⟨E2, hE2⟩ : ∃ E, sameG sameL x.marks y.marks = E := ⟨_, rfl⟩
  rw [hE1] at hT hF ho
  rw [hE2] at hTm hFm ho
  clear hE1 hE2 ho1 ho2
  obtain ⟨E, hE⟩ : ∃ E, serSame x y = E := ⟨_, rfl⟩
  rw [hE] at ho ⊢
  clear hE
  have oo : (o != o) = false := by cases o <;> rfl
  go_enter Try.func23, Try.ntmps23
  cases o <;> go_wp2
  all_goals
    clear hW y0 y1 y2 y3 y4 y5 oo
    go_loopw [5] (fun v5 wr => ∃ k : Nat, k ≤ tn ∧ v5 = .int .i64 k ∧ Hid (Below W.heap.size W wr) ∧ Hid (∀ i a b, i < k → x.bs[i]? = some a → y.bs[i]? = some b → eqBd a b = true)) (fun v5 _ => tn - (Go.RowKit.intOf v5).toNat)
    case atStart => exact ⟨0, Nat.zero_le _, rfl, (show Below _ _ _ from Below.refl _ _), fun i a b hi => by omega⟩
    case round =>
      obtain ⟨k, hk, rfl, hb, hp⟩ := hrel
      have y0 : wr.cell? ⟨w.heap.size, 0, none⟩ = some (.slice tq tn tc) := (s0.out.below hb.out).cell 0
      have y1 : wr.cell? ⟨w.heap.size + 1, 0, none⟩ = some (.slice ptq tn ptc) := (r0.out.below hb.out).cell 0
      by_cases hlt : k < tn
      · obtain ⟨A, ⟨at_, ai⟩, hqA, hx, hcA⟩ := (hx0.out.sch.below hb.out (Nat.le_refl _)).at hlt
        obtain ⟨B, ⟨bt, bi⟩, hqB, hy, hcB⟩ := (hy0.out.sch.below hb.out (Nat.le_refl _)).at hlt
        have hqA : tq = some A := hqA
        have hqB : ptq = some B := hqB
        subst hqA
        subst hqB
        have p0 : wr.cell? (A.add (k * 2)) = some (.int .i64 at_) := by have h := hcA 0 _ rfl; rwa [add0] at h
        have p1 : wr.cell? ⟨(A.add (k * 2)).block, (A.add (k * 2)).off + 1, none⟩ = some (.int .i64 ai) := hcA 1 _ rfl
        have q0 : wr.cell? (B.add (k * 2)) = some (.int .i64 bt) := by have h := hcB 0 _ rfl; rwa [add0] at h
        have q1 : wr.cell? ⟨(B.add (k * 2)).block, (B.add (k * 2)).off + 1, none⟩ = some (.int .i64 bi) := hcB 1 _ rfl
        have hx' := Lib.hid hx
        have hy' := Lib.hid hy
        have i0 : (0 : Int) ≤ k := by omega
        have i1 : (k : Int) < tn := by omega
        clear hx hy hcA hcB
        have hne := fun u => neq_bd u at_ ai bt bi
        obtain ⟨b, hbv⟩ : ∃ b, eqBd ⟨at_, ai⟩ ⟨bt, bi⟩ = b := ⟨_, rfl⟩
        rw [hbv] at hne
        have hbv' := Lib.hid hbv
        clear hbv
        cases b with
        | true =>
          go_wp2
          go_quiet (fail)
          clear hne p0 p1 q0 q1 y0 y1
          go_wp2
          go_roundw
          case rel =>
            refine ⟨k + 1, by omega, by go_num, (show Below _ _ _ from hb.out.trans ((below_drewN _ _).mono hb.out.size)), fun i a b hi ha hb2 => ?_⟩
            rcases Nat.lt_or_ge i k with h | h
            · exact hp.out i a b h ha hb2
            · obtain rfl : i = k := by omega
              rw [hx'.out] at ha; rw [hy'.out] at hb2
              cases ha; cases hb2
              exact hbv'.out
          case measure => simp [Go.RowKit.intOf]; omega
        | false =>
          have hf : Hid (E = false) := by show _ = _; rw [ho.out, hF.out k _ _ hx'.out hy'.out hbv'.out]; rfl
          go_wp2
          go_quiet (fail)
          clear hne p0 p1 q0 q1 y0 y1
          go_wp2
          go_ret
          exact ⟨by rw [hf.out]; rfl, b0.out.trans ((hb.out.trans ((below_drewN _ _).mono hb.out.size)).mono b0.out.size)⟩
      · obtain rfl : k = tn := by omega
        have e1 : Hid (E1 = true) := hT.out hp.out
        go_wp2
        clear y0 y1 hT hF hp
        have hb1 := hb
        clear hb
        go_loopw [6] (fun v6 wr => ∃ j : Nat, j ≤ mn ∧ v6 = .int .i64 j ∧ Hid (Below W.heap.size W wr) ∧ Hid (∀ i a b, i < j → x.marks[i]? = some a → y.marks[i]? = some b → sameL a b = true)) (fun v6 _ => mn - (Go.RowKit.intOf v6).toNat)
        case atStart => exact ⟨0, Nat.zero_le _, rfl, hb1, fun i a b hi => by omega⟩
        case round =>
          clear hb1
          obtain ⟨j, hj, rfl, hb, hp⟩ := hrel
          have y0 : wr.cell? ⟨w.heap.size, 3, none⟩ = some (.slice mq mn mc) := (s0.out.below hb.out).cell 3
          have y1 : wr.cell? ⟨w.heap.size + 1, 3, none⟩ = some (.slice pmq mn pmc) := (r0.out.below hb.out).cell 3
          by_cases hlt : j < mn
          · obtain ⟨vs, hv1, hv2, hv3⟩ := hx0.out.marks.below hb.out (Nat.le_refl _)
            obtain ⟨us, hu1, hu2, hu3⟩ := hy0.out.marks.below hb.out (Nat.le_refl _)
            obtain ⟨A, ⟨aq, an, ac⟩, hqA, hxv, hcA⟩ := hv1.at hlt
            obtain ⟨B, ⟨bq', bn', bc'⟩, hqB, hyv, hcB⟩ := hu1.at hlt
            have hqA : mq = some A := hqA
            have hqB : pmq = some B := hqB
            subst hqA
            subst hqB
            obtain ⟨a, ha⟩ : ∃ a, x.marks[j]? = some a := ⟨_, List.getElem?_eq_getElem (by have := lm1.out; omega)⟩
            obtain ⟨b, hb2⟩ : ∃ b, y.marks[j]? = some b := ⟨_, List.getElem?_eq_getElem (by have := lm2.out; omega)⟩
            have ra := Lib.hid (hv3 _ _ a hxv ha)
            have rb := Lib.hid (hu3 _ _ b hyv hb2)
            have p0 : wr.cell? (A.add j) = some (.slice aq an ac) := by have h := hcA 0 _ rfl; rw [add0, show Cel.sz SlV = 1 from rfl, Nat.mul_one] at h; exact h
            have q0 : wr.cell? (B.add j) = some (.slice bq' bn' bc') := by have h := hcB 0 _ rfl; rw [add0, show Cel.sz SlV = 1 from rfl, Nat.mul_one] at h; exact h
            have ha' := Lib.hid ha
            have hb' := Lib.hid hb2
            have i0 : (0 : Int) ≤ j := by omega
            have i1 : (j : Int) < mn := by omega
            obtain ⟨C, hC⟩ : ∃ C, sameL a b = C := ⟨_, rfl⟩
            have hcs : Hid (∀ u, Below wr.heap.size wr u → Calls Try.prog 13 #[.slice aq an ac, .slice bq' bn' bc'] u (RqPost C u)) := fun u hu => by
              rw [← hC]
              exact refSame_any aq an ac a bq' bn' bc' b u (ra.out.below hu (Nat.le_refl _)) (rb.out.below hu (Nat.le_refl _))
            have hC' := Lib.hid hC
            clear hv1 hv2 hv3 hu1 hu2 hu3 hcA hcB hxv hyv ha hb2 hC ra rb
            go_wp2
            go_region_held3 (fun u => u.cell? ⟨w.heap.size, 3, none⟩ = some (.slice (some A) mn mc) ∧ u.cell? ⟨w.heap.size + 1, 3, none⟩ = some (.slice (some B) mn pmc) ∧ u.cell? (A.add j) = some (.slice aq an ac) ∧ u.cell? (B.add j) = some (.slice bq' bn' bc') ∧ Below wr.heap.size wr u)
              (first | exact ⟨y0, y1, p0, q0, below_drew _⟩ | (go_split_ands; exact ⟨cell_keeps hq0.out (Nat.le_refl _) (by assumption), cell_keeps hq0.out (Nat.le_refl _) (by assumption), cell_keeps hq0.out (Nat.le_refl _) (by assumption), cell_keeps hq0.out (Nat.le_refl _) (by assumption), below_step hq0.out (by assumption)⟩) | go_keep)
              (first | (go_at_call 13; refine (hcs.out _ (by go_split_ands; first | assumption | exact below_drew _)).mono ?_; rintro e z0 ⟨rfl, hb⟩; have hq0 := Lib.hid hb; clear hb))
            have hv : Hid (Below wr.heap.size wr z0) := by
              show Below _ _ _
              go_split_ands
              assumption
            clear y0 y1 p0 q0
            have b9 := Lib.hid (hb.out.trans (hv.out.mono hb.out.size))
            cases C with
            | true =>
              go_wp2
              go_roundw
              case rel =>
                refine ⟨j + 1, by omega, by go_num, b9, fun i a b hi ha hb2 => ?_⟩
                rcases Nat.lt_or_ge i j with h | h
                · exact hp.out i a b h ha hb2
                · obtain rfl : i = j := by omega
                  rw [ha'.out] at ha; rw [hb'.out] at hb2
                  cases ha; cases hb2
                  exact hC'.out
              case measure => simp [Go.RowKit.intOf]; omega
            | false =>
              have hf : Hid (E = false) := by show _ = _; rw [ho.out, hFm.out j _ _ ha'.out hb'.out hC'.out]; simp
              go_wp2
              go_ret
              exact ⟨by rw [hf.out]; rfl, b0.out.trans (b9.out.mono b0.out.size)⟩
          · obtain rfl : j = mn := by omega
            have e2 : Hid (E2 = true) := hTm.out hp.out
            have b3 := Lib.hid (b0.out.trans (hb.out.mono b0.out.size))
            have s3 := Lib.hid (s0.out.below hb.out)
            have r3 := Lib.hid (r0.out.below hb.out)
            have hx3 := Lib.hid (hx0.out.below hb.out (Nat.le_refl _))
            have hy3 := Lib.hid (hy0.out.below hb.out (Nat.le_refl _))
            have y2 : wr.cell? ⟨w.heap.size, 1, none⟩ = some (.slice rq rn rc) := s3.out.cell 1
            have y3 : wr.cell? ⟨w.heap.size + 1, 1, none⟩ = some (.slice prq prn prc) := r3.out.cell 1
            clear hp hTm hFm hb s0 r0 hx0 hy0 b0 lt1 lt2 lm1 lm2
            go_wp2_with fail
            clear y0 y1 y2 y3
            refine (refSame_any rq rn rc x.rows prq prn prc y.rows wr hx3.out.rows hy3.out.rows).mono ?_
            rintro e u4 ⟨rfl, hb⟩
            have s4 := Lib.hid (s3.out.below hb)
            have r4 := Lib.hid (r3.out.below hb)
            have hx4 := Lib.hid (hx3.out.below hb (Nat.le_refl _))
            have hy4 := Lib.hid (hy3.out.below hb (Nat.le_refl _))
            have b4 := Lib.hid (b3.out.trans (hb.mono b3.out.size))
            clear hb s3 r3 hx3 hy3 b3
            obtain ⟨C, hC⟩ : ∃ C, sameL x.rows y.rows = C := ⟨_, rfl⟩
            rw [hC]
            rw [hC] at ho
            clear hC
            cases C with
            | false =>
              have hf : Hid (E = false) := by show _ = _; rw [ho.out, e1.out]; rfl
              go_wp2
              go_ret
              exact ⟨by rw [hf.out]; rfl, b4.out⟩
            | true =>
              have y0 : u4.cell? ⟨w.heap.size, 2, none⟩ = some (.slice bq bn bc) := s4.out.cell 2
              have y1 : u4.cell? ⟨w.heap.size + 1, 2, none⟩ = some (.slice pbq pbn pbc) := r4.out.cell 2
              go_wp2_with fail
              clear y0 y1
              refine (refSame_any bq bn bc x.begun pbq pbn pbc y.begun u4 hx4.out.begun hy4.out.begun).mono ?_
              rintro e u5 ⟨rfl, hb⟩
              have b5 := Lib.hid (b4.out.trans (hb.mono b4.out.size))
              clear hb
              have hf : Hid (E = sameL x.begun y.begun) := by show _ = _; rw [ho.out, e1.out, e2.out]; simp
              go_wp2
              go_ret
              exact ⟨by rw [hf.out]; rfl, b5.out⟩
end Go.Proofs.Ytkdkncbccofpdaa
