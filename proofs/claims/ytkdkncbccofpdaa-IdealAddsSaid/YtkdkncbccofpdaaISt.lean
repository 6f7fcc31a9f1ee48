/- Step of ideal. -/
import Derived.Test.YtkdkncbccofpdaaISr
namespace Go.Proofs.Ytkdkncbccofpdaa
open Go.RowKit
set_option maxRecDepth 100000

def stpM (x : SerD) (q : ReqD) : SerD × AnsD :=
  if serB x = false then (x, errA 251) else if x.over = true then (x, errA 252) else if reqB x.bs q = false then (x, errA 250) else stepW x q

theorem reqB_kind {bs : List BdD} {q : ReqD} (h : reqB bs q = true) : 1 ≤ q.k ∧ q.k ≤ 12 := by
  have h := ((Bool.and_eq_true _ _).mp h).2
  unfold cntB at h
  split at h
  · omega
  split at h
  · omega
  split at h
  · omega
  split at h
  · omega
  · simp at h; omega
theorem reqB_move {bs : List BdD} {q : ReqD} (h : reqB bs q = true) (hk : q.k = 8) : 0 ≤ q.val := by
  have h := ((Bool.and_eq_true _ _).mp h).2
  unfold cntB at h
  rw [if_neg (by omega), if_neg (by omega), if_pos hk] at h
  simp only [Bool.and_eq_true, decide_eq_true_eq] at h
  exact h.2.2.2
theorem reqB_back {bs : List BdD} {q : ReqD} (h : reqB bs q = true) (hk : q.k = 10) : 1 ≤ q.n := by
  have h := ((Bool.and_eq_true _ _).mp h).2
  unfold cntB at h
  rw [if_neg (by omega), if_neg (by omega), if_neg (by omega), if_pos hk] at h
  simpa using h
theorem serB_marks {x : SerD} (h : serB x = true) : x.marks.length ≤ 8 := by
  unfold serB at h
  simp only [Bool.and_eq_true, decide_eq_true_eq] at h
  exact h.1

set_option maxHeartbeats 8000000 in
theorem step_any (tq : Option Addr) (tn tc : Nat) (rq : Option Addr) (rn rc : Nat) (bq : Option Addr) (bn bc : Nat) (mq : Option Addr) (mn mc : Nat) (o : Bool) (qk kt ki tt ti qv : Int) (qs : ByteArray) (qn : Int) (x : SerD) (w : World) (hx : (⟨tq, tn, tc, rq, rn, rc, bq, bn, bc, mq, mn, mc, o⟩ : SV).On w x) (hf : Few x) (hq : ReqOk ⟨qk, ⟨kt, ki⟩, ⟨tt, ti⟩, qv, qs, qn⟩) :
    Calls Try.prog 20 #[.agg #[.slice tq tn tc, .slice rq rn rc, .slice bq bn bc, .slice mq mn mc, .bool o], .agg #[.int .i64 qk, .int .i64 kt, .int .u16 ki, .int .i64 tt, .int .u16 ti, .int .i64 qv, .string qs, .int .i64 qn]] w (DonePost (stpM x ⟨qk, ⟨kt, ki⟩, ⟨tt, ti⟩, qv, qs, qn⟩) w) := by
  obtain ⟨W, hW⟩ : ∃ W, (((w.alloc (.cells #[.slice tq tn tc, .slice rq rn rc, .slice bq bn bc, .slice mq mn mc, .bool o] 46)).alloc (.cells #[.int .i64 qk, .int .i64 kt, .int .u16 ki, .int .i64 tt, .int .u16 ti, .int .i64 qv, .string qs, .int .i64 qn] 30)).alloc (.cells #[.slice none 0 0, .slice none 0 0, .slice none 0 0, .slice none 0 0, .bool false] 46)).alloc (.cells #[.int .i64 0, .slice none 0 0, .int .i64 0] 35) = W := ⟨_, rfl⟩
  have hbx := Lib.hid (four_rowsI (xs := [.slice tq tn tc, .slice rq rn rc, .slice bq bn bc, .slice mq mn mc, .bool o]) (ys := [.int .i64 qk, .int .i64 kt, .int .u16 ki, .int .i64 tt, .int .u16 ti, .int .i64 qv, .string qs, .int .i64 qn]) (zs := [.slice none 0 0, .slice none 0 0, .slice none 0 0, .slice none 0 0, .bool false]) (us := [.int .i64 0, .slice none 0 0, .int .i64 0]) hW)
  have b0 := Lib.hid hbx.out.1
  have s0 := Lib.hid hbx.out.2.1
  have q0 := Lib.hid hbx.out.2.2.1
  have z0 : Hid (RowV 46 W (w.heap.size + 1 + 1) [.slice none 0 0, .slice none 0 0, .slice none 0 0, .slice none 0 0, .bool false]) := hbx.out.2.2.2.1
  have a0 : Hid (RowV 35 W (w.heap.size + 1 + 1 + 1) [.int .i64 0, .slice none 0 0, .int .i64 0]) := hbx.out.2.2.2.2.1
  have hx' := Lib.hid hx
  have hf' := Lib.hid hf
  have hq' := Lib.hid hq
  have hov : Hid (o = x.over) := hx.over
  have hs1 := sizeSer (.slice tq tn tc) (.slice rq rn rc) (.slice bq bn bc) (.slice mq mn mc) (.bool o)
  have hs2 := sizeReq (.int .i64 qk) (.int .i64 kt) (.int .u16 ki) (.int .i64 tt) (.int .u16 ti) (.int .i64 qv) (.string qs) (.int .i64 qn)
  clear hx hf hq hbx
  go_enter Try.func20, Try.ntmps20
  go_wp2_with (first | (with_reducible refine wpList_load_at rfl 46 (.tmp 2) rfl Try.underlying46 rfl hs1 rfl s0.out.boxed.all ?_))
  clear hW
  refine (isSer_any tq tn tc rq rn rc bq bn bc mq mn mc o x W (hx'.out.below b0.out (Nat.le_refl _))).mono ?_
  rintro e u1 ⟨rfl, hb⟩
  have s1 := Lib.hid (s0.out.below hb)
  have q1 := Lib.hid (q0.out.below hb)
  have z1 := Lib.hid (z0.out.below hb)
  have a1 := Lib.hid (a0.out.below hb)
  have b1 := Lib.hid (b0.out.trans (hb.mono b0.out.size))
  clear hb s0 q0 z0 a0 b0
  obtain ⟨B, hB⟩ : ∃ B, serB x = B := ⟨_, rfl⟩
  rw [hB]
  have hB' := Lib.hid hB
  clear hB
  cases B with
  | false =>
    have hr : Hid (stpM x ⟨qk, ⟨kt, ki⟩, ⟨tt, ti⟩, qv, qs, qn⟩ = (x, errA 251)) := by show _ = _; unfold stpM; rw [if_pos hB'.out]
    have hcp : Calls Try.prog 50 #[.agg #[.slice tq tn tc, .slice rq rn rc, .slice bq bn bc, .slice mq mn mc, .bool o]] u1 (SerPost u1 x) := copied_any ⟨tq, tn, tc, rq, rn, rc, bq, bn, bc, mq, mn, mc, o⟩ x u1 (hx'.out.below b1.out (Nat.le_refl _)) hf'.out
    go_wp2_with (first | (with_reducible refine wpList_load_at rfl 46 (.tmp 2) rfl Try.underlying46 rfl hs1 rfl s1.out.boxed.all ?_))
    refine hcp.mono ?_
    rintro e u3 ⟨⟨pt, ptn, ptc, pr, prn, prc, pb, pbn, pbc, pm, pmn, pmc, po⟩, he, ho, hb⟩
    have he' : e = .returned (.agg #[.slice pt ptn ptc, .slice pr prn prc, .slice pb pbn pbc, .slice pm pmn pmc, .bool po]) := he
    subst he'
    have s4 := Lib.hid (s1.out.below hb)
    have q4 := Lib.hid (q1.out.below hb)
    have z4 := Lib.hid (z1.out.below hb)
    have a4 := Lib.hid (a1.out.below hb)
    have b4 := Lib.hid (b1.out.trans (hb.mono b1.out.size))
    have o4 := Lib.hid ho
    clear he ho hb hcp
    go_wp2_with fail
    refine (told_any 251 u3).mono ?_
    rintro e u4 ⟨rfl, hb⟩
    have s5 := Lib.hid (s4.out.below hb)
    have q5 := Lib.hid (q4.out.below hb)
    have z5 := Lib.hid (z4.out.below hb)
    have a5 := Lib.hid (a4.out.below hb)
    have b5 := Lib.hid (b4.out.trans (hb.mono b4.out.size))
    have o5 := Lib.hid (o4.out.below hb)
    have n5 := Lib.hid (AV.Own.err 251 u4)
    clear hb
    go_wp2_with (first
      | ((with_reducible refine wpList_store_at rfl 46 (.tmp 4) (.tmp 10) rfl (o := 0) (vs := [.slice pt ptn ptc, .slice pr prn prc, .slice pb pbn pbc, .slice pm pmn pmc, .bool po]) rfl rfl z5.out (sizeSer _ _ _ _ _) (Nat.le_refl _) (ser_one' _ _ _ _ _ _ _ _ _ _ _ _ _) ?_)
         intro u7 h7 hg7
         have z7 : Hid (RowV 46 u7 (w.heap.size + 1 + 1) [.slice pt ptn ptc, .slice pr prn prc, .slice pb pbn pbc, .slice pm pmn pmc, .bool po]) := h7
         have a7 := Lib.hid (a5.out.kept hg7 (by omega))
         have o7 := Lib.hid (o5.out.gs hg7 z5.out)
         have n7 := Lib.hid (n5.out.gs hg7 z5.out)
         have b7 := Lib.hid (b5.out.grown hg7 b5.out.size (fun k hk => by cases hk; omega))
         clear h7 hg7)
      | ((with_reducible refine wpList_store_at rfl 35 (.tmp 5) (.tmp 11) rfl (o := 0) (vs := [.int .i64 251, .slice none 0 0, .int .i64 0]) rfl rfl a7.out (sizeAns _ _ _) (Nat.le_refl _) (ans_one _ _ _ _ _) ?_)
         intro u8 h8 hg8
         have z8 := Lib.hid (z7.out.kept hg8 (by omega))
         have a8 : Hid (RowV 35 u8 (w.heap.size + 1 + 1 + 1) [.int .i64 251, .slice none 0 0, .int .i64 0]) := h8
         have o8 := Lib.hid (o7.out.ga hg8 a7.out)
         have n8 := Lib.hid (n7.out.ga hg8 a7.out)
         have b8 := Lib.hid (b7.out.grown hg8 b7.out.size (fun k hk => by cases hk; omega))
         clear h8 hg8))
    have m0 := z8.out.cell 0
    have m1 := z8.out.cell 1
    have m2 := z8.out.cell 2
    have m3 := z8.out.cell 3
    have m4 := z8.out.cell 4
    have k0 := a8.out.cell 0
    have k1 := a8.out.cell 1
    have k2 := a8.out.cell 2
    simp only [List.getElem?_cons_zero, List.getElem?_cons_succ] at m0 m1 m2 m3 m4 k0 k1 k2
    refine bodyPost_ret (v := .tuple #[.agg #[.slice pt ptn ptc, .slice pr prn prc, .slice pb pbn pbc, .slice pm pmn pmc, .bool po], .agg #[.int .i64 251, .slice none 0 0, .int .i64 0]]) (by simp [results, Try.results20, go_sem, m0, m1, m2, m3, m4, k0, k1, k2]) rfl ?_
    rw [hr.out]
    exact ⟨⟨pt, ptn, ptc, pr, prn, prc, pb, pbn, pbc, pm, pmn, pmc, po⟩, ⟨251, none, 0, 0, 0⟩, rfl, o8.out, n8.out, b8.out⟩
  | true =>
    have y4 : u1.cell? ⟨w.heap.size, 4, none⟩ = some (.bool o) := s1.out.cell 4
    cases o with
    | true =>
      have hr : Hid (stpM x ⟨qk, ⟨kt, ki⟩, ⟨tt, ti⟩, qv, qs, qn⟩ = (x, errA 252)) := by show _ = _; unfold stpM; rw [if_neg (by rw [hB'.out]; simp), if_pos hov.out.symm]
      have hcp : Calls Try.prog 50 #[.agg #[.slice tq tn tc, .slice rq rn rc, .slice bq bn bc, .slice mq mn mc, .bool true]] u1 (SerPost u1 x) := copied_any ⟨tq, tn, tc, rq, rn, rc, bq, bn, bc, mq, mn, mc, true⟩ x u1 (hx'.out.below b1.out (Nat.le_refl _)) hf'.out
      go_wp2_with (first | (with_reducible refine wpList_load_at rfl 46 (.tmp 2) rfl Try.underlying46 rfl hs1 rfl s1.out.boxed.all ?_))
      refine hcp.mono ?_
      rintro e u3 ⟨⟨pt, ptn, ptc, pr, prn, prc, pb, pbn, pbc, pm, pmn, pmc, po⟩, he, ho, hb⟩
      have he' : e = .returned (.agg #[.slice pt ptn ptc, .slice pr prn prc, .slice pb pbn pbc, .slice pm pmn pmc, .bool po]) := he
      subst he'
      have s4 := Lib.hid (s1.out.below hb)
      have q4 := Lib.hid (q1.out.below hb)
      have z4 := Lib.hid (z1.out.below hb)
      have a4 := Lib.hid (a1.out.below hb)
      have b4 := Lib.hid (b1.out.trans (hb.mono b1.out.size))
      have o4 := Lib.hid ho
      clear he ho hb hcp
      go_wp2_with fail
      refine (told_any 252 u3).mono ?_
      rintro e u4 ⟨rfl, hb⟩
      have s5 := Lib.hid (s4.out.below hb)
      have q5 := Lib.hid (q4.out.below hb)
      have z5 := Lib.hid (z4.out.below hb)
      have a5 := Lib.hid (a4.out.below hb)
      have b5 := Lib.hid (b4.out.trans (hb.mono b4.out.size))
      have o5 := Lib.hid (o4.out.below hb)
      have n5 := Lib.hid (AV.Own.err 252 u4)
      clear hb
      go_wp2_with (first
        | ((with_reducible refine wpList_store_at rfl 46 (.tmp 4) (.tmp 15) rfl (o := 0) (vs := [.slice pt ptn ptc, .slice pr prn prc, .slice pb pbn pbc, .slice pm pmn pmc, .bool po]) rfl rfl z5.out (sizeSer _ _ _ _ _) (Nat.le_refl _) (ser_one' _ _ _ _ _ _ _ _ _ _ _ _ _) ?_)
           intro u7 h7 hg7
           have z7 : Hid (RowV 46 u7 (w.heap.size + 1 + 1) [.slice pt ptn ptc, .slice pr prn prc, .slice pb pbn pbc, .slice pm pmn pmc, .bool po]) := h7
           have a7 := Lib.hid (a5.out.kept hg7 (by omega))
           have o7 := Lib.hid (o5.out.gs hg7 z5.out)
           have n7 := Lib.hid (n5.out.gs hg7 z5.out)
           have b7 := Lib.hid (b5.out.grown hg7 b5.out.size (fun k hk => by cases hk; omega))
           clear h7 hg7)
        | ((with_reducible refine wpList_store_at rfl 35 (.tmp 5) (.tmp 16) rfl (o := 0) (vs := [.int .i64 252, .slice none 0 0, .int .i64 0]) rfl rfl a7.out (sizeAns _ _ _) (Nat.le_refl _) (ans_one _ _ _ _ _) ?_)
           intro u8 h8 hg8
           have z8 := Lib.hid (z7.out.kept hg8 (by omega))
           have a8 : Hid (RowV 35 u8 (w.heap.size + 1 + 1 + 1) [.int .i64 252, .slice none 0 0, .int .i64 0]) := h8
           have o8 := Lib.hid (o7.out.ga hg8 a7.out)
           have n8 := Lib.hid (n7.out.ga hg8 a7.out)
           have b8 := Lib.hid (b7.out.grown hg8 b7.out.size (fun k hk => by cases hk; omega))
           clear h8 hg8))
      have m0 := z8.out.cell 0
      have m1 := z8.out.cell 1
      have m2 := z8.out.cell 2
      have m3 := z8.out.cell 3
      have m4 := z8.out.cell 4
      have k0 := a8.out.cell 0
      have k1 := a8.out.cell 1
      have k2 := a8.out.cell 2
      simp only [List.getElem?_cons_zero, List.getElem?_cons_succ] at m0 m1 m2 m3 m4 k0 k1 k2
      refine bodyPost_ret (v := .tuple #[.agg #[.slice pt ptn ptc, .slice pr prn prc, .slice pb pbn pbc, .slice pm pmn pmc, .bool po], .agg #[.int .i64 252, .slice none 0 0, .int .i64 0]]) (by simp [results, Try.results20, go_sem, m0, m1, m2, m3, m4, k0, k1, k2]) rfl ?_
      rw [hr.out]
      exact ⟨⟨pt, ptn, ptc, pr, prn, prc, pb, pbn, pbc, pm, pmn, pmc, po⟩, ⟨252, none, 0, 0, 0⟩, rfl, o8.out, n8.out, b8.out⟩
    | false =>
      have y0 : u1.cell? ⟨w.heap.size, 0, none⟩ = some (.slice tq tn tc) := s1.out.cell 0
      go_wp2_with (first | (with_reducible refine wpList_load_at rfl 30 (.tmp 3) rfl Try.underlying30 rfl hs2 rfl q1.out.boxed.all ?_))
      clear y0 y4
      refine (isReq_any qk kt ki tt ti qv qs qn x.bs u1 tq tn tc ((hx'.out.sch.sch hx'.out.sok).below b1.out (Nat.le_refl _)) hq'.out.note).mono ?_
      rintro e u2 ⟨rfl, hb⟩
      have s2 := Lib.hid (s1.out.below hb)
      have q2 := Lib.hid (q1.out.below hb)
      have z2 := Lib.hid (z1.out.below hb)
      have a2 := Lib.hid (a1.out.below hb)
      have b2 := Lib.hid (b1.out.trans (hb.mono b1.out.size))
      clear hb s1 q1 z1 a1 b1
      obtain ⟨C, hC⟩ : ∃ C, reqB x.bs ⟨qk, ⟨kt, ki⟩, ⟨tt, ti⟩, qv, qs, qn⟩ = C := ⟨_, rfl⟩
      rw [hC]
      have hC' := Lib.hid hC
      clear hC
      cases C with
      | false =>
        have hr : Hid (stpM x ⟨qk, ⟨kt, ki⟩, ⟨tt, ti⟩, qv, qs, qn⟩ = (x, errA 250)) := by show _ = _; unfold stpM; rw [if_neg (by rw [hB'.out]; simp), if_neg (by rw [← hov.out]; simp), if_pos hC'.out]
        have hcp : Calls Try.prog 50 #[.agg #[.slice tq tn tc, .slice rq rn rc, .slice bq bn bc, .slice mq mn mc, .bool false]] u2 (SerPost u2 x) := copied_any ⟨tq, tn, tc, rq, rn, rc, bq, bn, bc, mq, mn, mc, false⟩ x u2 (hx'.out.below b2.out (Nat.le_refl _)) hf'.out
        go_wp2_with (first | (with_reducible refine wpList_load_at rfl 46 (.tmp 2) rfl Try.underlying46 rfl hs1 rfl s2.out.boxed.all ?_))
        refine hcp.mono ?_
        rintro e u3 ⟨⟨pt, ptn, ptc, pr, prn, prc, pb, pbn, pbc, pm, pmn, pmc, po⟩, he, ho, hb⟩
        have he' : e = .returned (.agg #[.slice pt ptn ptc, .slice pr prn prc, .slice pb pbn pbc, .slice pm pmn pmc, .bool po]) := he
        subst he'
        have s4 := Lib.hid (s2.out.below hb)
        have q4 := Lib.hid (q2.out.below hb)
        have z4 := Lib.hid (z2.out.below hb)
        have a4 := Lib.hid (a2.out.below hb)
        have b4 := Lib.hid (b2.out.trans (hb.mono b2.out.size))
        have o4 := Lib.hid ho
        clear he ho hb hcp
        go_wp2_with fail
        refine (told_any 250 u3).mono ?_
        rintro e u4 ⟨rfl, hb⟩
        have s5 := Lib.hid (s4.out.below hb)
        have q5 := Lib.hid (q4.out.below hb)
        have z5 := Lib.hid (z4.out.below hb)
        have a5 := Lib.hid (a4.out.below hb)
        have b5 := Lib.hid (b4.out.trans (hb.mono b4.out.size))
        have o5 := Lib.hid (o4.out.below hb)
        have n5 := Lib.hid (AV.Own.err 250 u4)
        clear hb
        go_wp2_with (first
          | ((with_reducible refine wpList_store_at rfl 46 (.tmp 4) (.tmp 23) rfl (o := 0) (vs := [.slice pt ptn ptc, .slice pr prn prc, .slice pb pbn pbc, .slice pm pmn pmc, .bool po]) rfl rfl z5.out (sizeSer _ _ _ _ _) (Nat.le_refl _) (ser_one' _ _ _ _ _ _ _ _ _ _ _ _ _) ?_)
             intro u7 h7 hg7
             have z7 : Hid (RowV 46 u7 (w.heap.size + 1 + 1) [.slice pt ptn ptc, .slice pr prn prc, .slice pb pbn pbc, .slice pm pmn pmc, .bool po]) := h7
             have a7 := Lib.hid (a5.out.kept hg7 (by omega))
             have o7 := Lib.hid (o5.out.gs hg7 z5.out)
             have n7 := Lib.hid (n5.out.gs hg7 z5.out)
             have b7 := Lib.hid (b5.out.grown hg7 b5.out.size (fun k hk => by cases hk; omega))
             clear h7 hg7)
          | ((with_reducible refine wpList_store_at rfl 35 (.tmp 5) (.tmp 24) rfl (o := 0) (vs := [.int .i64 250, .slice none 0 0, .int .i64 0]) rfl rfl a7.out (sizeAns _ _ _) (Nat.le_refl _) (ans_one _ _ _ _ _) ?_)
             intro u8 h8 hg8
             have z8 := Lib.hid (z7.out.kept hg8 (by omega))
             have a8 : Hid (RowV 35 u8 (w.heap.size + 1 + 1 + 1) [.int .i64 250, .slice none 0 0, .int .i64 0]) := h8
             have o8 := Lib.hid (o7.out.ga hg8 a7.out)
             have n8 := Lib.hid (n7.out.ga hg8 a7.out)
             have b8 := Lib.hid (b7.out.grown hg8 b7.out.size (fun k hk => by cases hk; omega))
             clear h8 hg8))
        have m0 := z8.out.cell 0
        have m1 := z8.out.cell 1
        have m2 := z8.out.cell 2
        have m3 := z8.out.cell 3
        have m4 := z8.out.cell 4
        have k0 := a8.out.cell 0
        have k1 := a8.out.cell 1
        have k2 := a8.out.cell 2
        simp only [List.getElem?_cons_zero, List.getElem?_cons_succ] at m0 m1 m2 m3 m4 k0 k1 k2
        refine bodyPost_ret (v := .tuple #[.agg #[.slice pt ptn ptc, .slice pr prn prc, .slice pb pbn pbc, .slice pm pmn pmc, .bool po], .agg #[.int .i64 250, .slice none 0 0, .int .i64 0]]) (by simp [results, Try.results20, go_sem, m0, m1, m2, m3, m4, k0, k1, k2]) rfl ?_
        rw [hr.out]
        exact ⟨⟨pt, ptn, ptc, pr, prn, prc, pb, pbn, pbc, pm, pmn, pmc, po⟩, ⟨250, none, 0, 0, 0⟩, rfl, o8.out, n8.out, b8.out⟩
      | true =>
        have hr : Hid (stpM x ⟨qk, ⟨kt, ki⟩, ⟨tt, ti⟩, qv, qs, qn⟩ = stepW x ⟨qk, ⟨kt, ki⟩, ⟨tt, ti⟩, qv, qs, qn⟩) := by show _ = _; unfold stpM; rw [if_neg (by rw [hB'.out]; simp), if_neg (by rw [← hov.out]; simp), if_neg (by rw [hC'.out]; simp)]
        have hdn := Lib.hid (done_any tq tn tc rq rn rc bq bn bc mq mn mc false qk kt ki tt ti qv qs qn x u2 (hx'.out.below b2.out (Nat.le_refl _)) ⟨hf'.out, hq'.out, reqB_kind hC'.out, serB_marks hB'.out, fun h => reqB_move hC'.out h, fun h => reqB_back hC'.out h⟩)
        go_wp2_with (first | (with_reducible refine wpList_load_at rfl 46 (.tmp 2) rfl Try.underlying46 rfl hs1 rfl s2.out.boxed.all ?_) | (with_reducible refine wpList_load_at rfl 30 (.tmp 3) rfl Try.underlying30 rfl hs2 rfl q2.out.boxed.all ?_))
        refine hdn.out.mono ?_
        rintro e u3 ⟨⟨pt, ptn, ptc, pr, prn, prc, pb, pbn, pbc, pm, pmn, pmc, po⟩, ⟨ae, aq, an, ac, ak⟩, he, ho, hn, hb⟩
        have he' : e = .returned (.tuple #[.agg #[.slice pt ptn ptc, .slice pr prn prc, .slice pb pbn pbc, .slice pm pmn pmc, .bool po], .agg #[.int .i64 ae, .slice aq an ac, .int .i64 ak]]) := he
        subst he'
        have s5 := Lib.hid (s2.out.below hb)
        have q5 := Lib.hid (q2.out.below hb)
        have z5 := Lib.hid (z2.out.below hb)
        have a5 := Lib.hid (a2.out.below hb)
        have b5 := Lib.hid (b2.out.trans (hb.mono b2.out.size))
        have o5 := Lib.hid ho
        have n5 := Lib.hid hn
        clear he ho hn hb hdn
        go_wp2_with (first
          | ((with_reducible refine wpList_store_at rfl 46 (.tmp 4) (.tmp 28) rfl (o := 0) (vs := [.slice pt ptn ptc, .slice pr prn prc, .slice pb pbn pbc, .slice pm pmn pmc, .bool po]) rfl rfl z5.out (sizeSer _ _ _ _ _) (Nat.le_refl _) (ser_one' _ _ _ _ _ _ _ _ _ _ _ _ _) ?_)
             intro u7 h7 hg7
             have z7 : Hid (RowV 46 u7 (w.heap.size + 1 + 1) [.slice pt ptn ptc, .slice pr prn prc, .slice pb pbn pbc, .slice pm pmn pmc, .bool po]) := h7
             have a7 := Lib.hid (a5.out.kept hg7 (by omega))
             have o7 := Lib.hid (o5.out.gs hg7 z5.out)
             have n7 := Lib.hid (n5.out.gs hg7 z5.out)
             have b7 := Lib.hid (b5.out.grown hg7 b5.out.size (fun k hk => by cases hk; omega))
             clear h7 hg7)
          | ((with_reducible refine wpList_store_at rfl 35 (.tmp 5) (.tmp 29) rfl (o := 0) (vs := [.int .i64 ae, .slice aq an ac, .int .i64 ak]) rfl rfl a7.out (sizeAns _ _ _) (Nat.le_refl _) (ans_one _ _ _ _ _) ?_)
             intro u8 h8 hg8
             have z8 := Lib.hid (z7.out.kept hg8 (by omega))
             have a8 : Hid (RowV 35 u8 (w.heap.size + 1 + 1 + 1) [.int .i64 ae, .slice aq an ac, .int .i64 ak]) := h8
             have o8 := Lib.hid (o7.out.ga hg8 a7.out)
             have n8 := Lib.hid (n7.out.ga hg8 a7.out)
             have b8 := Lib.hid (b7.out.grown hg8 b7.out.size (fun k hk => by cases hk; omega))
             clear h8 hg8))
        have m0 := z8.out.cell 0
        have m1 := z8.out.cell 1
        have m2 := z8.out.cell 2
        have m3 := z8.out.cell 3
        have m4 := z8.out.cell 4
        have k0 := a8.out.cell 0
        have k1 := a8.out.cell 1
        have k2 := a8.out.cell 2
        simp only [List.getElem?_cons_zero, List.getElem?_cons_succ] at m0 m1 m2 m3 m4 k0 k1 k2
        refine bodyPost_ret (v := .tuple #[.agg #[.slice pt ptn ptc, .slice pr prn prc, .slice pb pbn pbc, .slice pm pmn pmc, .bool po], .agg #[.int .i64 ae, .slice aq an ac, .int .i64 ak]]) (by simp [results, Try.results20, go_sem, m0, m1, m2, m3, m4, k0, k1, k2]) rfl ?_
        rw [hr.out]
        exact ⟨⟨pt, ptn, ptc, pr, prn, prc, pb, pbn, pbc, pm, pmn, pmc, po⟩, ⟨ae, aq, an, ac, ak⟩, rfl, o8.out, n8.out, b8.out⟩

end Go.Proofs.Ytkdkncbccofpdaa
