/- IdealKeeps: for every schema, rows and row of requests the law returns true, and its arguments read as they did. No condition. -/
import Derived.Test.YtkdkncbccofpdaaIBk
namespace Go.Proofs.Ytkdkncbccofpdaa
open Go.ChangeShapes Go.WideShapes Go.ChangeAt Go.RowKit Go.Deep Go.Joins
set_option maxRecDepth 100000

theorem stp_err {x : SerD} {q : ReqD} (h : (stpM x q).2.e ≠ 0) : stpM x q = (x, errA (stpM x q).2.e) := by
  unfold stpM at h ⊢
  split
  · rfl
  split
  · rfl
  split
  · rfl
  · rename_i h1 h2 h3
    rw [if_neg h1, if_neg h2, if_neg h3] at h
    exact step_err h
theorem stp_over {x : SerD} {q : ReqD} (h : serB x = true) (ho : x.over = true) : stpM x q = (x, errA 252) := by
  unfold stpM
  rw [if_neg (by rw [h]; simp), if_pos ho]
theorem stp_ser {x : SerD} {q : ReqD} (h : serB x = true) : serB (stpM x q).1 = true ∧ (stpM x q).1.bs = x.bs ∧ (stpM x q).1.begun = x.begun := by
  cases ho : x.over with
  | true => rw [stp_over h ho]; exact ⟨h, rfl, rfl⟩
  | false =>
    unfold stpM
    rw [if_neg (by rw [h]; simp), if_neg (by rw [ho]; simp)]
    split
    · exact ⟨h, rfl, rfl⟩
    · exact ⟨step_ser h ho, step_fix x q⟩
theorem stp_reads {x : SerD} {q : ReqD} (hk : q.k = 1 ∨ q.k = 2) : (stpM x q).1 = x := by
  unfold stpM
  split
  · rfl
  split
  · rfl
  split
  · rfl
  · exact step_reads hk
theorem stp_scan {x : SerD} {q : ReqD} (h : serB x = true) (hk : q.k = 2) : chkList x.bs (stpM x q).2.rows = 0 := by
  have h0 := serB_iff.1 h
  have hn : chkList x.bs [] = 0 := chk_sub h0.2.2.1 (List.nil_sublist _)
  unfold stpM
  split
  · exact hn
  split
  · exact hn
  split
  · exact hn
  · rw [step_scan hk]
    exact chk_sub h0.2.2.1 (of_sub _ _)

def KInv (y : SerD) (bs : List BdD) (l : List RowD) : Prop := serB y = true ∧ y.bs = bs ∧ y.begun = l

set_option maxHeartbeats 8000000 in
theorem keeps_law (tq : Option Addr) (tn tc : Nat) (bs : List BdD) (lq : Option Addr) (ln lc : Nat) (l : List RowD) (aq : Option Addr) (an ac : Nat) (lr : List ReqD) (w : World)
    (hs : SlOn w tq tn tc bs ∧ ∀ b ∈ bs, I64 b.lo ∧ I64 b.hi) (hr : RowsOn w lq ln lc l) (hl : SlOn w aq an ac lr ∧ ∀ q ∈ lr, ReqOk q) :
    Calls Try.prog 6 #[.agg #[.slice tq tn tc], .slice lq ln lc, .slice aq an ac] w (LwPost w) := by
  obtain ⟨W, hW⟩ : ∃ W, w.alloc (.cells #[.slice tq tn tc] 24) = W := ⟨_, rfl⟩
  have hbx := Lib.hid (one_rowI (xs := [.slice tq tn tc]) hW)
  have b0 := Lib.hid hbx.out.1
  have s0 := Lib.hid hbx.out.2.1
  have hs' := Lib.hid hs.1
  have hsk' := Lib.hid hs.2
  have hr' := Lib.hid hr
  have hl' := Lib.hid hl.1
  have hlo' := Lib.hid hl.2
  have htm : tn ≤ maxLen := Nat.le_trans hs.1.le hs.1.cap
  have hanm := Nat.le_trans hl.1.le hl.1.cap
  unfold maxLen at hanm
  clear hs hr hl hbx
  go_enter Try.func6, Try.ntmps6
  go_wp2_with fail
  clear hW
  refine (wakes_any W).mono ?_
  rintro e u1 ⟨rfl, hb⟩
  have b1 := Lib.hid (b0.out.trans (hb.mono b0.out.size))
  have s1 := Lib.hid (s0.out.below hb)
  clear hb b0 s0
  go_wp2_with (first | (with_reducible refine wpList_load_at rfl 24 (.tmp 3) rfl Try.underlying24 rfl (sizeSch _ _ _) rfl s1.out.boxed.all ?_))
  refine (over_any tq tn tc lq ln lc l u1 htm (hr'.out.below b1.out (Nat.le_refl _))).mono ?_
  rintro e u2 ⟨B, rfl, hB, hb⟩
  have b2 := Lib.hid (b1.out.trans (hb.mono b1.out.size))
  have s2 := Lib.hid (s1.out.below hb)
  clear hb hB b1 s1
  cases B with
  | true =>
    go_wp2
    go_ret
    exact ⟨rfl, b2.out⟩
  | false =>
    have hbg := Lib.hid (begin_any tq tn tc lq ln lc bs l u2 (hs'.out.below b2.out (Nat.le_refl _)) hsk'.out (hr'.out.below b2.out (Nat.le_refl _)))
    go_wp2_with (first | (with_reducible refine wpList_load_at rfl 24 (.tmp 3) rfl Try.underlying24 rfl (sizeSch _ _ _) rfl s2.out.boxed.all ?_))
    refine hbg.out.mono ?_
    rintro e u4 ⟨⟨ptq, ptn, ptc, prq, prn, prc, pbq, pbn, pbc, pmq, pmn, pmc, po⟩, he, ho, hb⟩
    obtain ⟨er, her⟩ : ∃ er, chkList bs l = er := ⟨_, rfl⟩
    rw [her] at he
    have he' : e = .returned (.tuple #[.agg #[.slice ptq ptn ptc, .slice prq prn prc, .slice pbq pbn pbc, .slice pmq pmn pmc, .bool po], .int .i64 er]) := he
    subst he'
    obtain ⟨V, hV⟩ : ∃ V, u4.alloc (.cells #[.slice ptq ptn ptc, .slice prq prn prc, .slice pbq pbn pbc, .slice pmq pmn pmc, .bool po] 46) = V := ⟨_, rfl⟩
    have hbx2 := one_rowI (xs := [.slice ptq ptn ptc, .slice prq prn prc, .slice pbq pbn pbc, .slice pmq pmn pmc, .bool po]) hV
    have hbV := hb.trans (hbx2.1.mono hb.size)
    have b4 := Lib.hid (b2.out.trans (hbV.mono b2.out.size))
    have s4 := Lib.hid (s2.out.below hbV)
    have p4 := Lib.hid hbx2.2.1
    have o4 := Lib.hid (ho.below hbx2.1)
    have hne : w.heap.size < u4.heap.size := by have h1 := s2.out.lt; have h2 := hb.size; omega
    have her' := Lib.hid her
    clear he hb hbx2 hbV ho b2 s2 hbg her
    by_cases hz : er = 0
    · subst hz
      have hb0 : begS bs l = ⟨bs, l, l, [], false⟩ := by unfold begS; rw [if_pos her'.out]
      rw [hb0] at o4
      have inv : Hid (KInv ⟨bs, l, l, [], false⟩ bs l) := Lib.hid (And.intro (serB_iff.2 ⟨Nat.zero_le _, fun _ => rfl, her'.out, her'.out, fun m hm => by cases hm⟩) (And.intro rfl rfl))
      clear hb0
      go_wp2
      clear hV
      have hG1 : w.heap.size < u4.heap.size := hne
      have hrel0 : Hid (Below w.heap.size w V) := b4
      go_loopw [32] (fun v32 wr => ∃ (k : Nat) (v : SV) (y : SerD), k ≤ an ∧ v32 = .int .i64 k ∧ Hid (Below w.heap.size w wr) ∧ Hid (RowV 46 wr u4.heap.size v.cells) ∧ Hid (v.Own wr y) ∧ Hid (KInv y bs l) ∧ Hid (RowV 24 wr w.heap.size [.slice tq tn tc])) (fun v32 _ => an - (Go.RowKit.intOf v32).toNat)
      case atStart => exact ⟨0, ⟨ptq, ptn, ptc, prq, prn, prc, pbq, pbn, pbc, pmq, pmn, pmc, po⟩, _, Nat.zero_le _, rfl, hrel0, p4, o4, inv, s4⟩
      case round =>
        clear b4 s4 p4 o4 inv hrel0
        obtain ⟨k, ⟨ytq, ytn, ytc, yrq, yrn, yrc, ybq, ybn, ybc, ymq, ymn, ymc, yo⟩, y, hk, rfl, brr, prr0, orr, inv, srr⟩ := hrel
        have prr : Hid (RowV 46 wr u4.heap.size [.slice ytq ytn ytc, .slice yrq yrn yrc, .slice ybq ybn ybc, .slice ymq ymn ymc, .bool yo]) := prr0.out
        clear prr0
        by_cases hlt : k < an
        · obtain ⟨A, r, hqA, hr, hc⟩ := (hl'.out.below brr.out (Nat.le_refl _)).at hlt
          have hro := hlo'.out r (List.mem_of_getElem? hr)
          obtain ⟨qk, ⟨kt, ki⟩, ⟨tt, ti⟩, qv, qs, qn⟩ := r
          have hro := Lib.hid hro
          have hcell : Hid (∀ j x, ([.int .i64 qk, .int .i64 kt, .int .u16 ki, .int .i64 tt, .int .u16 ti, .int .i64 qv, .string qs, .int .i64 qn] : List Value)[j]? = some x → wr.cell? ((A.add (k * 8)).add j) = some x) := hc
          subst hqA
          obtain ⟨V2, hV2⟩ : ∃ u, wr.alloc (.cells #[.int .i64 qk, .int .i64 kt, .int .u16 ki, .int .i64 tt, .int .u16 ti, .int .i64 qv, .string qs, .int .i64 qn] 30) = u := ⟨_, rfl⟩
          have hbx2 := one_rowI (xs := [.int .i64 qk, .int .i64 kt, .int .u16 ki, .int .i64 tt, .int .u16 ti, .int .i64 qv, .string qs, .int .i64 qn]) hV2
          have b2 := Lib.hid (brr.out.trans (hbx2.1.mono brr.out.size))
          have p2 := Lib.hid (prr.out.below hbx2.1)
          have s2 := Lib.hid (srr.out.below hbx2.1)
          have o2 := Lib.hid (orr.out.below hbx2.1)
          have r2 : Hid (RowV 30 V2 wr.heap.size [.int .i64 qk, .int .i64 kt, .int .u16 ki, .int .i64 tt, .int .u16 ti, .int .i64 qv, .string qs, .int .i64 qn]) := hbx2.2.1
          have hsn : qs.size ≤ maxLen := hro.out.note
          unfold maxLen at hsn
          have hGw : u4.heap.size < wr.heap.size := prr.out.lt
          clear hr hc hbx2
          by_cases h60 : k = 60
          · have e60 : ((k : Int) == 60) = true := by simp; omega
            have brr := b2
            have prr := p2
            have orr := o2
            clear h60
            have c2 : V2.cell? ⟨u4.heap.size, 2, none⟩ = some (.slice ybq ybn ybc) := prr.out.cell 2
            have sm := same_any ybq ybn ybc _ lq ln lc l V2 orr.out.begun.reads (hr'.out.below brr.out (Nat.le_refl _))
            rw [inv.out.2.2, sameL_iff.2 rfl] at sm
            have sm' := Lib.hid sm
            clear sm
            go_wp2_with (first | (with_reducible refine wpList_load_at rfl 30 (.tmp 35) rfl Try.underlying30 rfl (sizeReq _ _ _ _ _ _ _ _) rfl hcell.out ?_))
            refine sm'.out.mono ?_
            rintro e e2 ⟨rfl, hb⟩
            have b6 := Lib.hid (brr.out.trans (hb.mono brr.out.size))
            clear hb sm' c2
            go_wp2
            go_ret
            exact ⟨rfl, b6.out⟩
          · have e60 : ((k : Int) == 60) = false := by simp; omega
            clear h60
            have y6 : V2.cell? ⟨wr.heap.size, 6, none⟩ = some (.string qs) := r2.out.cell 6
            by_cases hsz : 100 < qs.size
            · have d2 : decide ((100 : Int) < qs.size) = true := decide_eq_true (by omega)
              go_wp2_with (first | (with_reducible refine wpList_load_at rfl 30 (.tmp 35) rfl Try.underlying30 rfl (sizeReq _ _ _ _ _ _ _ _) rfl hcell.out ?_))
              go_roundw
              case rel => exact ⟨k + 1, ⟨ytq, ytn, ytc, yrq, yrn, yrc, ybq, ybn, ybc, ymq, ymn, ymc, yo⟩, y, by omega, by go_num, b2, p2, o2, inv, s2⟩
              case measure => simp [Go.RowKit.intOf]; omega
            · have d2 : decide ((100 : Int) < qs.size) = false := decide_eq_false (by omega)
              clear hsz
              have hst := Lib.hid (step_any ytq ytn ytc yrq yrn yrc ybq ybn ybc ymq ymn ymc yo qk kt ki tt ti qv qs qn y V2 o2.out.reads (ser_few inv.out.1) hro.out)
              have hss := stp_ser (x := y) (q := ⟨qk, ⟨kt, ki⟩, ⟨tt, ti⟩, qv, qs, qn⟩) inv.out.1
              have inv2 : Hid (KInv (stpM y ⟨qk, ⟨kt, ki⟩, ⟨tt, ti⟩, qv, qs, qn⟩).1 bs l) := Lib.hid (And.intro hss.1 (And.intro (hss.2.1.trans inv.out.2.1) (hss.2.2.trans inv.out.2.2)))
              have hyo' : Hid (yo = y.over) := o2.out.over
              go_wp2_with (first | (with_reducible refine wpList_load_at rfl 30 (.tmp 35) rfl Try.underlying30 rfl (sizeReq _ _ _ _ _ _ _ _) rfl hcell.out ?_) | (with_reducible refine wpList_load_at rfl 46 (.tmp 7) rfl Try.underlying46 rfl (sizeSer _ _ _ _ _) rfl p2.out.boxed.all ?_) | (with_reducible refine wpList_load_at rfl 30 (.tmp 10) rfl Try.underlying30 rfl (sizeReq _ _ _ _ _ _ _ _) rfl r2.out.boxed.all ?_))
              clear y6 hcell
              refine hst.out.mono ?_
              rintro e f1 ⟨⟨ztq, ztn, ztc, zrq, zrn, zrc, zbq, zbn, zbc, zmq, zmn, zmc, zo⟩, ⟨be, bq_, bn_, bc_, bk⟩, he, ho, hn, hb⟩
              have he' : e = .returned (.tuple #[.agg #[.slice ztq ztn ztc, .slice zrq zrn zrc, .slice zbq zbn zbc, .slice zmq zmn zmc, .bool zo], .agg #[.int .i64 be, .slice bq_ bn_ bc_, .int .i64 bk]]) := he
              subst he'
              obtain ⟨V3, hV3⟩ : ∃ V, (f1.alloc (.cells #[.slice ztq ztn ztc, .slice zrq zrn zrc, .slice zbq zbn zbc, .slice zmq zmn zmc, .bool zo] 46)).alloc (.cells #[.int .i64 be, .slice bq_ bn_ bc_, .int .i64 bk] 35) = V := ⟨_, rfl⟩
              have hbx3 := two_rowsI (xs := [.slice ztq ztn ztc, .slice zrq zrn zrc, .slice zbq zbn zbc, .slice zmq zmn zmc, .bool zo]) (ys := [.int .i64 be, .slice bq_ bn_ bc_, .int .i64 bk]) hV3
              have hbV := hb.trans (hbx3.1.mono hb.size)
              have b3 := Lib.hid (b2.out.trans (hbV.mono b2.out.size))
              have p3 := Lib.hid (p2.out.below hbV)
              have s3 := Lib.hid (s2.out.below hbV)
              have o3 := Lib.hid (o2.out.below hbV)
              have r3 := Lib.hid (r2.out.below hbV)
              have z3 := Lib.hid hbx3.2.1
              have a3 := Lib.hid hbx3.2.2.1
              have w3 := Lib.hid (ho.below hbx3.1)
              have har := Lib.hid ((hn.below hbx3.1).rows)
              have hae : Hid (be = (stpM y ⟨qk, ⟨kt, ki⟩, ⟨tt, ti⟩, qv, qs, qn⟩).2.e) := hn.e
              have hak : Hid (bk = (stpM y ⟨qk, ⟨kt, ki⟩, ⟨tt, ti⟩, qv, qs, qn⟩).2.n) := hn.n
              have hy2 : Hid (yo = true → be = 252) := fun h => by rw [hae.out, stp_over inv.out.1 (hyo'.out.symm.trans h)]; rfl
              have hyo : Hid (be = 0 → yo = false) := fun h => by
                cases hyc : yo with
                | false => rfl
                | true => have h1 := hy2.out hyc; omega
              have hsc : Hid (qk = 2 → chkList bs (stpM y ⟨qk, ⟨kt, ki⟩, ⟨tt, ti⟩, qv, qs, qn⟩).2.rows = 0) := fun h => by rw [← inv.out.2.1]; exact stp_scan inv.out.1 h
              have hfw : f1.heap.size < V3.heap.size := z3.out.lt
              have hwf : wr.heap.size < f1.heap.size := by have h1 := r2.out.lt; have h2 := hb.size; omega
              clear he ho hn hb hbx3 hbV hst hss brr prr srr orr b2 p2 s2 o2 r2 hro
              go_wp2_with (first | (with_reducible refine wpList_load_at rfl 46 (.tmp 11) rfl Try.underlying46 rfl (sizeSer _ _ _ _ _) rfl z3.out.boxed.all ?_))
              clear hV3 hV2
              refine (checkI_any ztq ztn ztc zrq zrn zrc zbq zbn zbc zmq zmn zmc zo _ V3 w3.out.reads).mono ?_
              rintro e g4 ⟨he, hb⟩
              rw [inv2.out.1] at he
              have he' : e = .returned (.int .i64 0) := he
              subst he'
              have p4 := Lib.hid (p3.out.below hb)
              have s4 := Lib.hid (s3.out.below hb)
              have r4 := Lib.hid (r3.out.below hb)
              have z4 := Lib.hid (z3.out.below hb)
              have a4 := Lib.hid (a3.out.below hb)
              have o4 := Lib.hid (o3.out.below hb)
              have w4 := Lib.hid (w3.out.below hb)
              have b4 := Lib.hid (b3.out.trans (hb.mono b3.out.size))
              have har4 := Lib.hid (har.out.below hb)
              clear he hb
              have c0 : g4.cell? ⟨w.heap.size, 0, none⟩ = some (.slice tq tn tc) := s4.out.cell 0
              have c1 : g4.cell? ⟨f1.heap.size + 1, 1, none⟩ = some (.slice bq_ bn_ bc_) := a4.out.cell 1
              go_wp2_with fail
              clear c0 c1
              refine (checkList_any tq tn tc bs bq_ bn_ bc_ _ g4 ((hs'.out.sch hsk'.out).below b4.out (Nat.le_refl _)) har4.out.reads).mono ?_
              rintro e g5 ⟨rfl, hb⟩
              have p5 := Lib.hid (p4.out.below hb)
              have s5 := Lib.hid (s4.out.below hb)
              have r5 := Lib.hid (r4.out.below hb)
              have z5 := Lib.hid (z4.out.below hb)
              have a5 := Lib.hid (a4.out.below hb)
              have o5 := Lib.hid (o4.out.below hb)
              have w5 := Lib.hid (w4.out.below hb)
              have b5 := Lib.hid (b4.out.trans (hb.mono b4.out.size))
              clear hb
              obtain ⟨er, her⟩ : ∃ er, chkList bs (stpM y ⟨qk, ⟨kt, ki⟩, ⟨tt, ti⟩, qv, qs, qn⟩).2.rows = er := ⟨_, rfl⟩
              rw [her]
              rw [her] at hsc
              clear her
              by_cases hez : er = 0
              · subst hez
                have ca : g5.cell? ⟨f1.heap.size + 1, 0, none⟩ = some (.int .i64 be) := a5.out.cell 0
                have ck : g5.cell? ⟨wr.heap.size, 0, none⟩ = some (.int .i64 qk) := r5.out.cell 0
                by_cases hbe : be = 0
                · subst hbe
                  by_cases h1 : qk = 1
                  · have d1 : (qk == 1) = true := by simpa using h1
                    have hny : Hid ((stpM y ⟨qk, ⟨kt, ki⟩, ⟨tt, ti⟩, qv, qs, qn⟩).1 = y) := stp_reads (.inl h1)
                    have cz0 : g5.cell? ⟨f1.heap.size, 0, none⟩ = some (.slice ztq ztn ztc) := z5.out.cell 0
                    have cz1 : g5.cell? ⟨f1.heap.size, 1, none⟩ = some (.slice zrq zrn zrc) := z5.out.cell 1
                    have cz2 : g5.cell? ⟨f1.heap.size, 2, none⟩ = some (.slice zbq zbn zbc) := z5.out.cell 2
                    have cz3 : g5.cell? ⟨f1.heap.size, 3, none⟩ = some (.slice zmq zmn zmc) := z5.out.cell 3
                    have cz4 : g5.cell? ⟨f1.heap.size, 4, none⟩ = some (.bool zo) := z5.out.cell 4
                    have cy0 : g5.cell? ⟨u4.heap.size, 0, none⟩ = some (.slice ytq ytn ytc) := p5.out.cell 0
                    have cy1 : g5.cell? ⟨u4.heap.size, 1, none⟩ = some (.slice yrq yrn yrc) := p5.out.cell 1
                    have cy2 : g5.cell? ⟨u4.heap.size, 2, none⟩ = some (.slice ybq ybn ybc) := p5.out.cell 2
                    have cy3 : g5.cell? ⟨u4.heap.size, 3, none⟩ = some (.slice ymq ymn ymc) := p5.out.cell 3
                    have cy4 : g5.cell? ⟨u4.heap.size, 4, none⟩ = some (.bool yo) := p5.out.cell 4
                    clear h1
                    go_wp2_with fail
                    refine (sameI_any ztq ztn ztc zrq zrn zrc zbq zbn zbc zmq zmn zmc zo ytq ytn ytc yrq yrn yrc ybq ybn ybc ymq ymn ymc yo _ y g5 w5.out.reads o5.out.reads).mono ?_
                    rintro e g6 ⟨he, hb⟩
                    rw [hny.out, serSame_iff.2 rfl] at he
                    subst he
                    have p6 := Lib.hid (p5.out.below hb)
                    have s6 := Lib.hid (s5.out.below hb)
                    have r6 := Lib.hid (r5.out.below hb)
                    have z6 := Lib.hid (z5.out.below hb)
                    have a6 := Lib.hid (a5.out.below hb)
                    have o6 := Lib.hid (o5.out.below hb)
                    have w6 := Lib.hid (w5.out.below hb)
                    have b6 := Lib.hid (b5.out.trans (hb.mono b5.out.size))
                    clear hb
                    clear cz0 cy0 cz1 cy1 cz2 cy2 cz3 cy3 cz4 cy4 ca ck
                    have ca : g6.cell? ⟨f1.heap.size + 1, 0, none⟩ = some (.int .i64 0) := a6.out.cell 0
                    have co : g6.cell? ⟨u4.heap.size, 4, none⟩ = some (.bool yo) := p6.out.cell 4
                    have hyf : yo = false := by first | exact hyo.out rfl | exact hyo.out trivial | exact hyo.out
                    subst hyf
                    go_wp2_with (first
                      | (with_reducible refine wpList_load_at rfl 46 (.tmp 11) rfl Try.underlying46 rfl (sizeSer _ _ _ _ _) rfl z6.out.boxed.all ?_)
                      | ((with_reducible refine wpList_store_at rfl 46 (.tmp 7) (.tmp 106) rfl (o := 0) (vs := [.slice ztq ztn ztc, .slice zrq zrn zrc, .slice zbq zbn zbc, .slice zmq zmn zmc, .bool zo]) rfl rfl p6.out (sizeSer _ _ _ _ _) (Nat.le_refl _) (ser_one' _ _ _ _ _ _ _ _ _ _ _ _ _) ?_)
                         intro f9 h9 hg9
                         have p9 : Hid (RowV 46 f9 u4.heap.size (⟨ztq, ztn, ztc, zrq, zrn, zrc, zbq, zbn, zbc, zmq, zmn, zmc, zo⟩ : SV).cells) := h9
                         have s9 := Lib.hid (s6.out.kept hg9 (by omega))
                         have o9 := Lib.hid (w6.out.gs hg9 p6.out)
                         have b9 := Lib.hid (b6.out.grown hg9 b6.out.size (fun k hk => by cases hk; omega))
                         clear h9 hg9))
                    go_roundw
                    case rel => exact ⟨k + 1, ⟨ztq, ztn, ztc, zrq, zrn, zrc, zbq, zbn, zbc, zmq, zmn, zmc, zo⟩, _, by omega, by go_num, b9, p9, o9, inv2, s9⟩
                    case measure => simp [Go.RowKit.intOf]; omega
                  · have d1 : (qk == 1) = false := by simpa using h1
                    by_cases h2 : qk = 2
                    · have d2 : (qk == 2) = true := by simpa using h2
                      have hny : Hid ((stpM y ⟨qk, ⟨kt, ki⟩, ⟨tt, ti⟩, qv, qs, qn⟩).1 = y) := stp_reads (.inr h2)
                      have cz0 : g5.cell? ⟨f1.heap.size, 0, none⟩ = some (.slice ztq ztn ztc) := z5.out.cell 0
                      have cz1 : g5.cell? ⟨f1.heap.size, 1, none⟩ = some (.slice zrq zrn zrc) := z5.out.cell 1
                      have cz2 : g5.cell? ⟨f1.heap.size, 2, none⟩ = some (.slice zbq zbn zbc) := z5.out.cell 2
                      have cz3 : g5.cell? ⟨f1.heap.size, 3, none⟩ = some (.slice zmq zmn zmc) := z5.out.cell 3
                      have cz4 : g5.cell? ⟨f1.heap.size, 4, none⟩ = some (.bool zo) := z5.out.cell 4
                      have cy0 : g5.cell? ⟨u4.heap.size, 0, none⟩ = some (.slice ytq ytn ytc) := p5.out.cell 0
                      have cy1 : g5.cell? ⟨u4.heap.size, 1, none⟩ = some (.slice yrq yrn yrc) := p5.out.cell 1
                      have cy2 : g5.cell? ⟨u4.heap.size, 2, none⟩ = some (.slice ybq ybn ybc) := p5.out.cell 2
                      have cy3 : g5.cell? ⟨u4.heap.size, 3, none⟩ = some (.slice ymq ymn ymc) := p5.out.cell 3
                      have cy4 : g5.cell? ⟨u4.heap.size, 4, none⟩ = some (.bool yo) := p5.out.cell 4
                      clear h2 h1
                      go_wp2_with fail
                      refine (sameI_any ztq ztn ztc zrq zrn zrc zbq zbn zbc zmq zmn zmc zo ytq ytn ytc yrq yrn yrc ybq ybn ybc ymq ymn ymc yo _ y g5 w5.out.reads o5.out.reads).mono ?_
                      rintro e g6 ⟨he, hb⟩
                      rw [hny.out, serSame_iff.2 rfl] at he
                      subst he
                      have p6 := Lib.hid (p5.out.below hb)
                      have s6 := Lib.hid (s5.out.below hb)
                      have r6 := Lib.hid (r5.out.below hb)
                      have z6 := Lib.hid (z5.out.below hb)
                      have a6 := Lib.hid (a5.out.below hb)
                      have o6 := Lib.hid (o5.out.below hb)
                      have w6 := Lib.hid (w5.out.below hb)
                      have b6 := Lib.hid (b5.out.trans (hb.mono b5.out.size))
                      clear hb
                      clear cz0 cy0 cz1 cy1 cz2 cy2 cz3 cy3 cz4 cy4 ca ck
                      have ca : g6.cell? ⟨f1.heap.size + 1, 0, none⟩ = some (.int .i64 0) := a6.out.cell 0
                      have co : g6.cell? ⟨u4.heap.size, 4, none⟩ = some (.bool yo) := p6.out.cell 4
                      have hyf : yo = false := by first | exact hyo.out rfl | exact hyo.out trivial | exact hyo.out
                      subst hyf
                      go_wp2_with (first
                        | (with_reducible refine wpList_load_at rfl 46 (.tmp 11) rfl Try.underlying46 rfl (sizeSer _ _ _ _ _) rfl z6.out.boxed.all ?_)
                        | ((with_reducible refine wpList_store_at rfl 46 (.tmp 7) (.tmp 106) rfl (o := 0) (vs := [.slice ztq ztn ztc, .slice zrq zrn zrc, .slice zbq zbn zbc, .slice zmq zmn zmc, .bool zo]) rfl rfl p6.out (sizeSer _ _ _ _ _) (Nat.le_refl _) (ser_one' _ _ _ _ _ _ _ _ _ _ _ _ _) ?_)
                           intro f9 h9 hg9
                           have p9 : Hid (RowV 46 f9 u4.heap.size (⟨ztq, ztn, ztc, zrq, zrn, zrc, zbq, zbn, zbc, zmq, zmn, zmc, zo⟩ : SV).cells) := h9
                           have s9 := Lib.hid (s6.out.kept hg9 (by omega))
                           have o9 := Lib.hid (w6.out.gs hg9 p6.out)
                           have b9 := Lib.hid (b6.out.grown hg9 b6.out.size (fun k hk => by cases hk; omega))
                           clear h9 hg9))
                      go_roundw
                      case rel => exact ⟨k + 1, ⟨ztq, ztn, ztc, zrq, zrn, zrc, zbq, zbn, zbc, zmq, zmn, zmc, zo⟩, _, by omega, by go_num, b9, p9, o9, inv2, s9⟩
                      case measure => simp [Go.RowKit.intOf]; omega
                    · have d2 : (qk == 2) = false := by simpa using h2
                      have co : g5.cell? ⟨u4.heap.size, 4, none⟩ = some (.bool yo) := p5.out.cell 4
                      have hyf : yo = false := by first | exact hyo.out rfl | exact hyo.out trivial | exact hyo.out
                      subst hyf
                      clear h1 h2
                      go_wp2_with (first
                        | (with_reducible refine wpList_load_at rfl 46 (.tmp 11) rfl Try.underlying46 rfl (sizeSer _ _ _ _ _) rfl z5.out.boxed.all ?_)
                        | ((with_reducible refine wpList_store_at rfl 46 (.tmp 7) (.tmp 106) rfl (o := 0) (vs := [.slice ztq ztn ztc, .slice zrq zrn zrc, .slice zbq zbn zbc, .slice zmq zmn zmc, .bool zo]) rfl rfl p5.out (sizeSer _ _ _ _ _) (Nat.le_refl _) (ser_one' _ _ _ _ _ _ _ _ _ _ _ _ _) ?_)
                           intro f9 h9 hg9
                           have p9 : Hid (RowV 46 f9 u4.heap.size (⟨ztq, ztn, ztc, zrq, zrn, zrc, zbq, zbn, zbc, zmq, zmn, zmc, zo⟩ : SV).cells) := h9
                           have s9 := Lib.hid (s5.out.kept hg9 (by omega))
                           have o9 := Lib.hid (w5.out.gs hg9 p5.out)
                           have b9 := Lib.hid (b5.out.grown hg9 b5.out.size (fun k hk => by cases hk; omega))
                           clear h9 hg9))
                      go_roundw
                      case rel => exact ⟨k + 1, ⟨ztq, ztn, ztc, zrq, zrn, zrc, zbq, zbn, zbc, zmq, zmn, zmc, zo⟩, _, by omega, by go_num, b9, p9, o9, inv2, s9⟩
                      case measure => simp [Go.RowKit.intOf]; omega
                · have d0 : (be != 0) = true := by simpa using hbe
                  have hse := stp_err (x := y) (q := ⟨qk, ⟨kt, ki⟩, ⟨tt, ti⟩, qv, qs, qn⟩) (by rw [← hae.out]; exact hbe)
                  have hny : Hid ((stpM y ⟨qk, ⟨kt, ki⟩, ⟨tt, ti⟩, qv, qs, qn⟩).1 = y) := by show _ = _; rw [hse]
                  have hk0 : bk = 0 := by have h := hak.out; rw [hse] at h; exact h
                  have hb0 : bn_ = 0 := by have h := har.out.reads.len; rw [hse] at h; exact h.symm
                  subst hk0 hb0
                  have cz0 : g5.cell? ⟨f1.heap.size, 0, none⟩ = some (.slice ztq ztn ztc) := z5.out.cell 0
                  have cz1 : g5.cell? ⟨f1.heap.size, 1, none⟩ = some (.slice zrq zrn zrc) := z5.out.cell 1
                  have cz2 : g5.cell? ⟨f1.heap.size, 2, none⟩ = some (.slice zbq zbn zbc) := z5.out.cell 2
                  have cz3 : g5.cell? ⟨f1.heap.size, 3, none⟩ = some (.slice zmq zmn zmc) := z5.out.cell 3
                  have cz4 : g5.cell? ⟨f1.heap.size, 4, none⟩ = some (.bool zo) := z5.out.cell 4
                  have cy0 : g5.cell? ⟨u4.heap.size, 0, none⟩ = some (.slice ytq ytn ytc) := p5.out.cell 0
                  have cy1 : g5.cell? ⟨u4.heap.size, 1, none⟩ = some (.slice yrq yrn yrc) := p5.out.cell 1
                  have cy2 : g5.cell? ⟨u4.heap.size, 2, none⟩ = some (.slice ybq ybn ybc) := p5.out.cell 2
                  have cy3 : g5.cell? ⟨u4.heap.size, 3, none⟩ = some (.slice ymq ymn ymc) := p5.out.cell 3
                  have cy4 : g5.cell? ⟨u4.heap.size, 4, none⟩ = some (.bool yo) := p5.out.cell 4
                  clear hbe hse
                  go_wp2_with fail
                  refine (sameI_any ztq ztn ztc zrq zrn zrc zbq zbn zbc zmq zmn zmc zo ytq ytn ytc yrq yrn yrc ybq ybn ybc ymq ymn ymc yo _ y g5 w5.out.reads o5.out.reads).mono ?_
                  rintro e g6 ⟨he, hb⟩
                  rw [hny.out, serSame_iff.2 rfl] at he
                  subst he
                  have p6 := Lib.hid (p5.out.below hb)
                  have s6 := Lib.hid (s5.out.below hb)
                  have r6 := Lib.hid (r5.out.below hb)
                  have z6 := Lib.hid (z5.out.below hb)
                  have a6 := Lib.hid (a5.out.below hb)
                  have o6 := Lib.hid (o5.out.below hb)
                  have w6 := Lib.hid (w5.out.below hb)
                  have b6 := Lib.hid (b5.out.trans (hb.mono b5.out.size))
                  clear hb
                  clear cz0 cy0 cz1 cy1 cz2 cy2 cz3 cy3 cz4 cy4 ca ck
                  have ca : g6.cell? ⟨f1.heap.size + 1, 0, none⟩ = some (.int .i64 be) := a6.out.cell 0
                  have cn : g6.cell? ⟨f1.heap.size + 1, 2, none⟩ = some (.int .i64 0) := a6.out.cell 2
                  have cr : g6.cell? ⟨f1.heap.size + 1, 1, none⟩ = some (.slice bq_ 0 bc_) := a6.out.cell 1
                  have co : g6.cell? ⟨u4.heap.size, 4, none⟩ = some (.bool yo) := p6.out.cell 4
                  cases yo with
                  | true =>
                    have h252 := hy2.out rfl
                    subst h252
                    go_wp2_with (first
                      | (with_reducible refine wpList_load_at rfl 46 (.tmp 11) rfl Try.underlying46 rfl (sizeSer _ _ _ _ _) rfl z6.out.boxed.all ?_)
                      | ((with_reducible refine wpList_store_at rfl 46 (.tmp 7) (.tmp 106) rfl (o := 0) (vs := [.slice ztq ztn ztc, .slice zrq zrn zrc, .slice zbq zbn zbc, .slice zmq zmn zmc, .bool zo]) rfl rfl p6.out (sizeSer _ _ _ _ _) (Nat.le_refl _) (ser_one' _ _ _ _ _ _ _ _ _ _ _ _ _) ?_)
                         intro f9 h9 hg9
                         have p9 : Hid (RowV 46 f9 u4.heap.size (⟨ztq, ztn, ztc, zrq, zrn, zrc, zbq, zbn, zbc, zmq, zmn, zmc, zo⟩ : SV).cells) := h9
                         have s9 := Lib.hid (s6.out.kept hg9 (by omega))
                         have o9 := Lib.hid (w6.out.gs hg9 p6.out)
                         have b9 := Lib.hid (b6.out.grown hg9 b6.out.size (fun k hk => by cases hk; omega))
                         clear h9 hg9))
                    go_roundw
                    case rel => exact ⟨k + 1, ⟨ztq, ztn, ztc, zrq, zrn, zrc, zbq, zbn, zbc, zmq, zmn, zmc, zo⟩, _, by omega, by go_num, b9, p9, o9, inv2, s9⟩
                    case measure => simp [Go.RowKit.intOf]; omega
                  | false =>
                    go_wp2_with (first
                      | (with_reducible refine wpList_load_at rfl 46 (.tmp 11) rfl Try.underlying46 rfl (sizeSer _ _ _ _ _) rfl z6.out.boxed.all ?_)
                      | ((with_reducible refine wpList_store_at rfl 46 (.tmp 7) (.tmp 106) rfl (o := 0) (vs := [.slice ztq ztn ztc, .slice zrq zrn zrc, .slice zbq zbn zbc, .slice zmq zmn zmc, .bool zo]) rfl rfl p6.out (sizeSer _ _ _ _ _) (Nat.le_refl _) (ser_one' _ _ _ _ _ _ _ _ _ _ _ _ _) ?_)
                         intro f9 h9 hg9
                         have p9 : Hid (RowV 46 f9 u4.heap.size (⟨ztq, ztn, ztc, zrq, zrn, zrc, zbq, zbn, zbc, zmq, zmn, zmc, zo⟩ : SV).cells) := h9
                         have s9 := Lib.hid (s6.out.kept hg9 (by omega))
                         have o9 := Lib.hid (w6.out.gs hg9 p6.out)
                         have b9 := Lib.hid (b6.out.grown hg9 b6.out.size (fun k hk => by cases hk; omega))
                         clear h9 hg9))
                    go_roundw
                    case rel => exact ⟨k + 1, ⟨ztq, ztn, ztc, zrq, zrn, zrc, zbq, zbn, zbc, zmq, zmn, zmc, zo⟩, _, by omega, by go_num, b9, p9, o9, inv2, s9⟩
                    case measure => simp [Go.RowKit.intOf]; omega
              · have d9 : (er != 0) = true := by simpa using hez
                have hk2 : (qk == 2) = false := by simp; intro h; exact hez (hsc.out h)
                clear hez
                have ca : g5.cell? ⟨f1.heap.size + 1, 0, none⟩ = some (.int .i64 be) := a5.out.cell 0
                have ck : g5.cell? ⟨wr.heap.size, 0, none⟩ = some (.int .i64 qk) := r5.out.cell 0
                by_cases hbe : be = 0
                · subst hbe
                  by_cases h1 : qk = 1
                  · have d1 : (qk == 1) = true := by simpa using h1
                    have hny : Hid ((stpM y ⟨qk, ⟨kt, ki⟩, ⟨tt, ti⟩, qv, qs, qn⟩).1 = y) := stp_reads (.inl h1)
                    have cz0 : g5.cell? ⟨f1.heap.size, 0, none⟩ = some (.slice ztq ztn ztc) := z5.out.cell 0
                    have cz1 : g5.cell? ⟨f1.heap.size, 1, none⟩ = some (.slice zrq zrn zrc) := z5.out.cell 1
                    have cz2 : g5.cell? ⟨f1.heap.size, 2, none⟩ = some (.slice zbq zbn zbc) := z5.out.cell 2
                    have cz3 : g5.cell? ⟨f1.heap.size, 3, none⟩ = some (.slice zmq zmn zmc) := z5.out.cell 3
                    have cz4 : g5.cell? ⟨f1.heap.size, 4, none⟩ = some (.bool zo) := z5.out.cell 4
                    have cy0 : g5.cell? ⟨u4.heap.size, 0, none⟩ = some (.slice ytq ytn ytc) := p5.out.cell 0
                    have cy1 : g5.cell? ⟨u4.heap.size, 1, none⟩ = some (.slice yrq yrn yrc) := p5.out.cell 1
                    have cy2 : g5.cell? ⟨u4.heap.size, 2, none⟩ = some (.slice ybq ybn ybc) := p5.out.cell 2
                    have cy3 : g5.cell? ⟨u4.heap.size, 3, none⟩ = some (.slice ymq ymn ymc) := p5.out.cell 3
                    have cy4 : g5.cell? ⟨u4.heap.size, 4, none⟩ = some (.bool yo) := p5.out.cell 4
                    clear h1
                    go_wp2_with fail
                    refine (sameI_any ztq ztn ztc zrq zrn zrc zbq zbn zbc zmq zmn zmc zo ytq ytn ytc yrq yrn yrc ybq ybn ybc ymq ymn ymc yo _ y g5 w5.out.reads o5.out.reads).mono ?_
                    rintro e g6 ⟨he, hb⟩
                    rw [hny.out, serSame_iff.2 rfl] at he
                    subst he
                    have p6 := Lib.hid (p5.out.below hb)
                    have s6 := Lib.hid (s5.out.below hb)
                    have r6 := Lib.hid (r5.out.below hb)
                    have z6 := Lib.hid (z5.out.below hb)
                    have a6 := Lib.hid (a5.out.below hb)
                    have o6 := Lib.hid (o5.out.below hb)
                    have w6 := Lib.hid (w5.out.below hb)
                    have b6 := Lib.hid (b5.out.trans (hb.mono b5.out.size))
                    clear hb
                    clear cz0 cy0 cz1 cy1 cz2 cy2 cz3 cy3 cz4 cy4 ca ck
                    have ca : g6.cell? ⟨f1.heap.size + 1, 0, none⟩ = some (.int .i64 0) := a6.out.cell 0
                    have co : g6.cell? ⟨u4.heap.size, 4, none⟩ = some (.bool yo) := p6.out.cell 4
                    have hyf : yo = false := by first | exact hyo.out rfl | exact hyo.out trivial | exact hyo.out
                    subst hyf
                    go_wp2_with (first
                      | (with_reducible refine wpList_load_at rfl 46 (.tmp 11) rfl Try.underlying46 rfl (sizeSer _ _ _ _ _) rfl z6.out.boxed.all ?_)
                      | ((with_reducible refine wpList_store_at rfl 46 (.tmp 7) (.tmp 106) rfl (o := 0) (vs := [.slice ztq ztn ztc, .slice zrq zrn zrc, .slice zbq zbn zbc, .slice zmq zmn zmc, .bool zo]) rfl rfl p6.out (sizeSer _ _ _ _ _) (Nat.le_refl _) (ser_one' _ _ _ _ _ _ _ _ _ _ _ _ _) ?_)
                         intro f9 h9 hg9
                         have p9 : Hid (RowV 46 f9 u4.heap.size (⟨ztq, ztn, ztc, zrq, zrn, zrc, zbq, zbn, zbc, zmq, zmn, zmc, zo⟩ : SV).cells) := h9
                         have s9 := Lib.hid (s6.out.kept hg9 (by omega))
                         have o9 := Lib.hid (w6.out.gs hg9 p6.out)
                         have b9 := Lib.hid (b6.out.grown hg9 b6.out.size (fun k hk => by cases hk; omega))
                         clear h9 hg9))
                    go_roundw
                    case rel => exact ⟨k + 1, ⟨ztq, ztn, ztc, zrq, zrn, zrc, zbq, zbn, zbc, zmq, zmn, zmc, zo⟩, _, by omega, by go_num, b9, p9, o9, inv2, s9⟩
                    case measure => simp [Go.RowKit.intOf]; omega
                  · have d1 : (qk == 1) = false := by simpa using h1
                    by_cases h2 : qk = 2
                    · simp [h2] at hk2
                    · have d2 : (qk == 2) = false := by simpa using h2
                      have co : g5.cell? ⟨u4.heap.size, 4, none⟩ = some (.bool yo) := p5.out.cell 4
                      have hyf : yo = false := by first | exact hyo.out rfl | exact hyo.out trivial | exact hyo.out
                      subst hyf
                      clear h1 h2
                      go_wp2_with (first
                        | (with_reducible refine wpList_load_at rfl 46 (.tmp 11) rfl Try.underlying46 rfl (sizeSer _ _ _ _ _) rfl z5.out.boxed.all ?_)
                        | ((with_reducible refine wpList_store_at rfl 46 (.tmp 7) (.tmp 106) rfl (o := 0) (vs := [.slice ztq ztn ztc, .slice zrq zrn zrc, .slice zbq zbn zbc, .slice zmq zmn zmc, .bool zo]) rfl rfl p5.out (sizeSer _ _ _ _ _) (Nat.le_refl _) (ser_one' _ _ _ _ _ _ _ _ _ _ _ _ _) ?_)
                           intro f9 h9 hg9
                           have p9 : Hid (RowV 46 f9 u4.heap.size (⟨ztq, ztn, ztc, zrq, zrn, zrc, zbq, zbn, zbc, zmq, zmn, zmc, zo⟩ : SV).cells) := h9
                           have s9 := Lib.hid (s5.out.kept hg9 (by omega))
                           have o9 := Lib.hid (w5.out.gs hg9 p5.out)
                           have b9 := Lib.hid (b5.out.grown hg9 b5.out.size (fun k hk => by cases hk; omega))
                           clear h9 hg9))
                      go_roundw
                      case rel => exact ⟨k + 1, ⟨ztq, ztn, ztc, zrq, zrn, zrc, zbq, zbn, zbc, zmq, zmn, zmc, zo⟩, _, by omega, by go_num, b9, p9, o9, inv2, s9⟩
                      case measure => simp [Go.RowKit.intOf]; omega
                · have d0 : (be != 0) = true := by simpa using hbe
                  have hse := stp_err (x := y) (q := ⟨qk, ⟨kt, ki⟩, ⟨tt, ti⟩, qv, qs, qn⟩) (by rw [← hae.out]; exact hbe)
                  have hny : Hid ((stpM y ⟨qk, ⟨kt, ki⟩, ⟨tt, ti⟩, qv, qs, qn⟩).1 = y) := by show _ = _; rw [hse]
                  have hk0 : bk = 0 := by have h := hak.out; rw [hse] at h; exact h
                  have hb0 : bn_ = 0 := by have h := har.out.reads.len; rw [hse] at h; exact h.symm
                  subst hk0 hb0
                  have cz0 : g5.cell? ⟨f1.heap.size, 0, none⟩ = some (.slice ztq ztn ztc) := z5.out.cell 0
                  have cz1 : g5.cell? ⟨f1.heap.size, 1, none⟩ = some (.slice zrq zrn zrc) := z5.out.cell 1
                  have cz2 : g5.cell? ⟨f1.heap.size, 2, none⟩ = some (.slice zbq zbn zbc) := z5.out.cell 2
                  have cz3 : g5.cell? ⟨f1.heap.size, 3, none⟩ = some (.slice zmq zmn zmc) := z5.out.cell 3
                  have cz4 : g5.cell? ⟨f1.heap.size, 4, none⟩ = some (.bool zo) := z5.out.cell 4
                  have cy0 : g5.cell? ⟨u4.heap.size, 0, none⟩ = some (.slice ytq ytn ytc) := p5.out.cell 0
                  have cy1 : g5.cell? ⟨u4.heap.size, 1, none⟩ = some (.slice yrq yrn yrc) := p5.out.cell 1
                  have cy2 : g5.cell? ⟨u4.heap.size, 2, none⟩ = some (.slice ybq ybn ybc) := p5.out.cell 2
                  have cy3 : g5.cell? ⟨u4.heap.size, 3, none⟩ = some (.slice ymq ymn ymc) := p5.out.cell 3
                  have cy4 : g5.cell? ⟨u4.heap.size, 4, none⟩ = some (.bool yo) := p5.out.cell 4
                  clear hbe hse
                  go_wp2_with fail
                  refine (sameI_any ztq ztn ztc zrq zrn zrc zbq zbn zbc zmq zmn zmc zo ytq ytn ytc yrq yrn yrc ybq ybn ybc ymq ymn ymc yo _ y g5 w5.out.reads o5.out.reads).mono ?_
                  rintro e g6 ⟨he, hb⟩
                  rw [hny.out, serSame_iff.2 rfl] at he
                  subst he
                  have p6 := Lib.hid (p5.out.below hb)
                  have s6 := Lib.hid (s5.out.below hb)
                  have r6 := Lib.hid (r5.out.below hb)
                  have z6 := Lib.hid (z5.out.below hb)
                  have a6 := Lib.hid (a5.out.below hb)
                  have o6 := Lib.hid (o5.out.below hb)
                  have w6 := Lib.hid (w5.out.below hb)
                  have b6 := Lib.hid (b5.out.trans (hb.mono b5.out.size))
                  clear hb
                  clear cz0 cy0 cz1 cy1 cz2 cy2 cz3 cy3 cz4 cy4 ca ck
                  have ca : g6.cell? ⟨f1.heap.size + 1, 0, none⟩ = some (.int .i64 be) := a6.out.cell 0
                  have cn : g6.cell? ⟨f1.heap.size + 1, 2, none⟩ = some (.int .i64 0) := a6.out.cell 2
                  have cr : g6.cell? ⟨f1.heap.size + 1, 1, none⟩ = some (.slice bq_ 0 bc_) := a6.out.cell 1
                  have co : g6.cell? ⟨u4.heap.size, 4, none⟩ = some (.bool yo) := p6.out.cell 4
                  cases yo with
                  | true =>
                    have h252 := hy2.out rfl
                    subst h252
                    go_wp2_with (first
                      | (with_reducible refine wpList_load_at rfl 46 (.tmp 11) rfl Try.underlying46 rfl (sizeSer _ _ _ _ _) rfl z6.out.boxed.all ?_)
                      | ((with_reducible refine wpList_store_at rfl 46 (.tmp 7) (.tmp 106) rfl (o := 0) (vs := [.slice ztq ztn ztc, .slice zrq zrn zrc, .slice zbq zbn zbc, .slice zmq zmn zmc, .bool zo]) rfl rfl p6.out (sizeSer _ _ _ _ _) (Nat.le_refl _) (ser_one' _ _ _ _ _ _ _ _ _ _ _ _ _) ?_)
                         intro f9 h9 hg9
                         have p9 : Hid (RowV 46 f9 u4.heap.size (⟨ztq, ztn, ztc, zrq, zrn, zrc, zbq, zbn, zbc, zmq, zmn, zmc, zo⟩ : SV).cells) := h9
                         have s9 := Lib.hid (s6.out.kept hg9 (by omega))
                         have o9 := Lib.hid (w6.out.gs hg9 p6.out)
                         have b9 := Lib.hid (b6.out.grown hg9 b6.out.size (fun k hk => by cases hk; omega))
                         clear h9 hg9))
                    go_roundw
                    case rel => exact ⟨k + 1, ⟨ztq, ztn, ztc, zrq, zrn, zrc, zbq, zbn, zbc, zmq, zmn, zmc, zo⟩, _, by omega, by go_num, b9, p9, o9, inv2, s9⟩
                    case measure => simp [Go.RowKit.intOf]; omega
                  | false =>
                    go_wp2_with (first
                      | (with_reducible refine wpList_load_at rfl 46 (.tmp 11) rfl Try.underlying46 rfl (sizeSer _ _ _ _ _) rfl z6.out.boxed.all ?_)
                      | ((with_reducible refine wpList_store_at rfl 46 (.tmp 7) (.tmp 106) rfl (o := 0) (vs := [.slice ztq ztn ztc, .slice zrq zrn zrc, .slice zbq zbn zbc, .slice zmq zmn zmc, .bool zo]) rfl rfl p6.out (sizeSer _ _ _ _ _) (Nat.le_refl _) (ser_one' _ _ _ _ _ _ _ _ _ _ _ _ _) ?_)
                         intro f9 h9 hg9
                         have p9 : Hid (RowV 46 f9 u4.heap.size (⟨ztq, ztn, ztc, zrq, zrn, zrc, zbq, zbn, zbc, zmq, zmn, zmc, zo⟩ : SV).cells) := h9
                         have s9 := Lib.hid (s6.out.kept hg9 (by omega))
                         have o9 := Lib.hid (w6.out.gs hg9 p6.out)
                         have b9 := Lib.hid (b6.out.grown hg9 b6.out.size (fun k hk => by cases hk; omega))
                         clear h9 hg9))
                    go_roundw
                    case rel => exact ⟨k + 1, ⟨ztq, ztn, ztc, zrq, zrn, zrc, zbq, zbn, zbc, zmq, zmn, zmc, zo⟩, _, by omega, by go_num, b9, p9, o9, inv2, s9⟩
                    case measure => simp [Go.RowKit.intOf]; omega
        · obtain rfl : k = an := by omega
          have c2 : wr.cell? ⟨u4.heap.size, 2, none⟩ = some (.slice ybq ybn ybc) := prr.out.cell 2
          have sm := same_any ybq ybn ybc _ lq ln lc l wr orr.out.begun.reads (hr'.out.below brr.out (Nat.le_refl _))
          rw [inv.out.2.2, sameL_iff.2 rfl] at sm
          have sm' := Lib.hid sm
          clear sm
          go_wp2_with fail
          refine sm'.out.mono ?_
          rintro e e2 ⟨rfl, hb⟩
          have b6 := Lib.hid (brr.out.trans (hb.mono brr.out.size))
          clear hb sm' c2
          go_wp2
          go_ret
          exact ⟨rfl, b6.out⟩
    · have e1 : (er != 0) = true := by simpa using hz
      have hb0 : begS bs l = ⟨[], [], [], [], false⟩ := by unfold begS; rw [if_neg (by rw [her'.out]; exact hz)]
      rw [hb0] at o4
      have pz : prn = 0 := o4.out.rows.reads.len.symm
      have c1 : V.cell? ⟨u4.heap.size, 1, none⟩ = some (.slice prq prn prc) := p4.out.cell 1
      subst pz
      clear hz hb0
      go_wp2
      go_ret
      exact ⟨rfl, b4.out⟩

set_option maxRecDepth 1000000 in
theorem keeps_lifted (os : Os) (started : os.Started) (H : Type) (enc : TypeId × Value → H) :
    ReturnsInHanded {} Try.checked os 6 .any (Rows.idealKeepsSpec.pre6 enc Try.prog Try.f6 Rows.idealKeepsRow.domain false) (Rows.idealKeepsSpec.post enc Try.prog Try.f6 false true false false) := by
  refine returnsInHanded_of_change (C := Try.checked) own started (by kernel_rfl) Try.func6
    (ChangeSpec.witness6 (enc := enc) (C := Try.checked) false ⟨#[], #[.agg #[.slice none 0 0], .slice none 0 0, .slice none 0 0], []⟩ 8 (by kernel_rfl) (by kernel_rfl) (by kernel_rfl) (by kernel_rfl)) ?_
  intro W base args ds gs before hval0 hW _ _
  have hval : ∀ (j : Nat) t v, Try.f6.params[j]? = some t → args[j]? = some v → Value.okWide Try.prog W .any base t v := hval0
  have hW' := hW
  obtain ⟨p, q, hA0, hV, rfl, _, _⟩ := hW
  have hA : DataW.TrodAll enc Try.prog W 0 (fun _ => true) true Try.f6.params.toList args.toList ds p := hA0
  rw [Try.params6] at hA hval
  obtain ⟨v0, v1, v2, d0, d1, d2, p0, p1, p2, rfl, rfl, rfl, h0, h1, h2⟩ := trodAll_three hA
  obtain ⟨rfl, rfl⟩ := trodVars_none hV
  obtain ⟨q0, n0, c0, bs0, rfl, hs0⟩ := open_schS (hval 0 24 v0 rfl rfl) h0
  obtain ⟨a1, len1, cap1, rfl⟩ := okWide_slice Try.underlying25 (hval 1 25 v1 rfl rfl)
  obtain ⟨l1, hl1⟩ := open_rows h1
  obtain ⟨a2, len2, cap2, rfl⟩ := okWide_slice Try.underlying57 (hval 2 57 v2 rfl rfl)
  obtain ⟨l2, hl2⟩ := open_reqs h2
  refine (keeps_law q0 n0 c0 bs0 a1 len1 cap1 l1 a2 len2 cap2 l2 W hs0 hl1 hl2).mono fun e W' ⟨he, hb⟩ => ?_
  subst he
  exact ⟨_, rfl, law_post laidOut (of_decide_eq_true (by kernel_rfl)) rfl (by kernel_rfl) Try.underlying4 hW' ⟨rfl, rfl, rfl⟩ hb⟩

set_option maxRecDepth 1000000 in
theorem keeps_holds : Rows.IdealKeepsSaid :=
  OpenClaim.holds_of_wide 6 Try.f6 rfl rfl rfl rfl rfl rfl rfl ⟨rfl, rfl, rfl, rfl, rfl⟩ rfl rfl rfl rfl rfl (by kernel_rfl) Try.func6 (by kernel_rfl)
    (of_decide_eq_true (by kernel_rfl)) (by unfold Func.isWrapper; first | (rw [if_pos (by decide +kernel)]; kernel_rfl) | (rw [if_neg (by decide +kernel)]; exact ⟨rfl, rfl⟩))
    (fun os started H enc _ => keeps_lifted os started H enc)
end Go.Proofs.Ytkdkncbccofpdaa
