/- IdealBack: for every transaction, row of requests and number the law returns true, and its arguments read as they did. No condition. -/
import Derived.Test.YtkdkncbccofpdaaIAr
namespace Go.Proofs.Ytkdkncbccofpdaa
open Go.ChangeShapes Go.WideShapes Go.ChangeAt Go.RowKit Go.Deep Go.Joins
set_option maxRecDepth 100000

theorem ser_few {x : SerD} (h : serB x = true) : Few x := by
  have h0 := serB_iff.1 h
  have hl : ∀ l, chkList x.bs l = 0 → l.length ≤ 1000000 := fun l hl => by
    have := ((okL_iff x.bs l).1 (chkList_zero hl).2).1
    omega
  have hs := ((okS_iff x.bs).1 (chkList_zero h0.2.2.1).1).2.1
  exact ⟨by omega, hl _ h0.2.2.1, hl _ h0.2.2.2.1, by have := h0.1; omega, fun l hm => hl l (h0.2.2.2.2 l hm)⟩
theorem stp_of {x : SerD} {q : ReqD} (h : serB x = true) (ho : x.over = false) (hr : reqB x.bs q = true) : stpM x q = stepW x q := by
  unfold stpM
  rw [if_neg (by rw [h]; simp), if_neg (by rw [ho]; simp), if_neg (by rw [hr]; simp)]
/-- what stays since a savepoint was put -/
structure Inv (x y : SerD) : Prop where
  ser : serB y = true
  over : y.over = false
  begun : y.begun = x.begun
  len : x.marks.length + 1 ≤ y.marks.length
  marks : y.marks.take (x.marks.length + 1) = x.marks ++ [x.rows]
theorem req9 (bs : List BdD) : reqB bs ⟨9, ⟨0, 0⟩, ⟨0, 0⟩, 0, ⟨#[]⟩, 0⟩ = true := rfl
theorem req12 (bs : List BdD) : reqB bs ⟨12, ⟨0, 0⟩, ⟨0, 0⟩, 0, ⟨#[]⟩, 0⟩ = true := rfl
theorem req10 (bs : List BdD) (m : Nat) : reqB bs ⟨10, ⟨0, 0⟩, ⟨0, 0⟩, 0, ⟨#[]⟩, (m : Int) + 1⟩ = true := by
  show decide (1 ≤ (m : Int) + 1) = true
  simp
  omega
theorem stp_full {x : SerD} (h : serB x = true) (ho : x.over = false) (hm : x.marks.length = 8) : stpM x ⟨9, ⟨0, 0⟩, ⟨0, 0⟩, 0, ⟨#[]⟩, 0⟩ = (x, errA 6) := by
  rw [stp_of h ho (req9 _)]
  show marW x = _
  unfold marW
  rw [if_pos hm]
theorem stp_mark {x : SerD} (h : serB x = true) (ho : x.over = false) (hm : x.marks.length ≠ 8) : stpM x ⟨9, ⟨0, 0⟩, ⟨0, 0⟩, 0, ⟨#[]⟩, 0⟩ = ({ x with marks := x.marks ++ [x.rows] }, ⟨0, [], x.marks.length + 1⟩) := by
  rw [stp_of h ho (req9 _)]
  show marW x = _
  unfold marW
  rw [if_neg hm]
theorem inv_mark {x : SerD} (h : serB x = true) (ho : x.over = false) (hm : x.marks.length ≠ 8) : Inv x { x with marks := x.marks ++ [x.rows] } := by
  have hs := step_ser (q := ⟨9, ⟨0, 0⟩, ⟨0, 0⟩, 0, ⟨#[]⟩, 0⟩) h ho
  rw [← stp_of h ho (req9 _), stp_mark h ho hm] at hs
  exact ⟨hs, ho, rfl, by simp, by rw [List.take_of_length_le (by simp)]⟩
theorem inv_step {x y : SerD} {q : ReqD} (h : Inv x y) (hk : q.k < 11) (hb : q.k = 10 → (x.marks.length : Int) + 1 ≤ q.n) : Inv x (stpM y q).1 := by
  unfold stpM
  rw [if_neg (by rw [h.ser]; simp), if_neg (by rw [h.over]; simp)]
  split
  · exact h
  · rename_i hr
    have hr : reqB y.bs q = true := by simpa using hr
    have h1 := step_marks (x := y) (q := q) (m := x.marks.length + 1) h.len ⟨(reqB_kind hr).1, hk⟩ (fun e => by have := hb e; omega)
    exact ⟨step_ser h.ser h.over, h1.2.2.trans h.over, (step_fix y q).2.trans h.begun, h1.1, h1.2.1.trans h.marks⟩
theorem inv_back {x y : SerD} (h : Inv x y) : (stpM y ⟨10, ⟨0, 0⟩, ⟨0, 0⟩, 0, ⟨#[]⟩, (x.marks.length : Int) + 1⟩).1.rows = x.rows ∧ (stpM y ⟨10, ⟨0, 0⟩, ⟨0, 0⟩, 0, ⟨#[]⟩, (x.marks.length : Int) + 1⟩).1.marks.length = x.marks.length + 1 ∧ (stpM y ⟨10, ⟨0, 0⟩, ⟨0, 0⟩, 0, ⟨#[]⟩, (x.marks.length : Int) + 1⟩).2.e = 0 := by
  rw [stp_of h.ser h.over (req10 _ _)]
  have e : stepW y ⟨10, ⟨0, 0⟩, ⟨0, 0⟩, 0, ⟨#[]⟩, (x.marks.length : Int) + 1⟩ = bakW y x.marks.length := by
    show bakW y ((x.marks.length : Int) + 1 - 1).toNat = _
    congr 1
    omega
  rw [e]
  unfold bakW
  have hl := h.len
  rw [if_pos (by omega)]
  refine ⟨?_, ?_, rfl⟩
  · have h1 : (y.marks.take (x.marks.length + 1))[x.marks.length]? = some x.rows := by rw [h.marks, List.getElem?_append_right (Nat.le_refl _), Nat.sub_self]; rfl
    rw [List.getElem?_take, if_pos (by omega)] at h1
    show (y.marks[x.marks.length]?).getD [] = x.rows
    rw [h1]; rfl
  · show (y.marks.take (x.marks.length + 1)).length = _
    rw [List.length_take]; omega
theorem inv_abort {x y : SerD} (h : Inv x y) : (stpM y ⟨12, ⟨0, 0⟩, ⟨0, 0⟩, 0, ⟨#[]⟩, 0⟩).1.rows = x.begun ∧ (stpM y ⟨12, ⟨0, 0⟩, ⟨0, 0⟩, 0, ⟨#[]⟩, 0⟩).1.over = true ∧ (stpM y ⟨12, ⟨0, 0⟩, ⟨0, 0⟩, 0, ⟨#[]⟩, 0⟩).2.e = 0 := by
  rw [stp_of h.ser h.over (req12 _)]
  exact ⟨h.begun, rfl, rfl⟩
theorem okReq (k n : Int) (hk : I64 k) (hn : I64 n) : ReqOk ⟨k, ⟨0, 0⟩, ⟨0, 0⟩, 0, ⟨#[]⟩, n⟩ := by
  have z : I64 0 := by unfold I64; decide
  have y : (0 : Int) ≤ 0 ∧ (0 : Int) < 65536 := by decide
  exact ⟨hk, ⟨z, y⟩, ⟨z, y⟩, z, Nat.zero_le _, hn⟩

def LwPost (w : World) (e : Ending) (w' : World) : Prop := e = .returned (.bool true) ∧ Below w.heap.size w w'

set_option maxHeartbeats 8000000 in
theorem back_law (tq : Option Addr) (tn tc : Nat) (rq : Option Addr) (rn rc : Nat) (bq : Option Addr) (bn bc : Nat) (mq : Option Addr) (mn mc : Nat) (o : Bool) (aq : Option Addr) (an ac : Nat) (x : SerD) (lr : List ReqD) (nn : Int) (w : World) (hx : (⟨tq, tn, tc, rq, rn, rc, bq, bn, bc, mq, mn, mc, o⟩ : SV).On w x) (hl : SlOn w aq an ac lr) (hlo : ∀ q ∈ lr, ReqOk q) :
    Calls Try.prog 7 #[.agg #[.slice tq tn tc, .slice rq rn rc, .slice bq bn bc, .slice mq mn mc, .bool o], .slice aq an ac, .int .i64 nn] w (LwPost w) := by
  obtain ⟨W, hW⟩ : ∃ W, w.alloc (.cells #[.slice tq tn tc, .slice rq rn rc, .slice bq bn bc, .slice mq mn mc, .bool o] 46) = W := ⟨_, rfl⟩
  have hbx := Lib.hid (one_rowI (xs := [.slice tq tn tc, .slice rq rn rc, .slice bq bn bc, .slice mq mn mc, .bool o]) hW)
  have b0 := Lib.hid hbx.out.1
  have s0 := Lib.hid hbx.out.2.1
  have hx' := Lib.hid hx
  have hov : Hid (o = x.over) := hx.over
  have hl' := Lib.hid hl
  have hlo' := Lib.hid hlo
  have hml : Hid (x.marks.length = mn) := hx.marks.len
  have hanm := Nat.le_trans hl.le hl.cap
  unfold maxLen at hanm
  clear hx hl hlo hbx
  go_enter Try.func7, Try.ntmps7
  go_wp2_with fail
  clear hW
  refine (wakes_any W).mono ?_
  rintro e u1 ⟨rfl, hb⟩
  have b1 := Lib.hid (b0.out.trans (hb.mono b0.out.size))
  have s1 := Lib.hid (s0.out.below hb)
  clear hb b0 s0
  go_wp2_with (first | (with_reducible refine wpList_load_at rfl 46 (.tmp 3) rfl Try.underlying46 rfl (sizeSer _ _ _ _ _) rfl s1.out.boxed.all ?_))
  refine (overS_any tq tn tc rq rn rc bq bn bc mq mn mc o x u1 (hx'.out.below b1.out (Nat.le_refl _))).mono ?_
  rintro e u2 ⟨B, rfl, hB, hb⟩
  have b2 := Lib.hid (b1.out.trans (hb.mono b1.out.size))
  have s2 := Lib.hid (s1.out.below hb)
  have hB' := Lib.hid hB
  clear hb hB b1 s1
  cases B with
  | true =>
    go_wp2
    go_ret
    exact ⟨rfl, b2.out⟩
  | false =>
    have hmod : Hid (Mod x) := hB'.out (by trivial)
    have hm20 : mn ≤ 20 := by have h1 := hmod.out.marks; have h2 := hml.out; omega
    have y0 : u2.cell? ⟨w.heap.size, 0, none⟩ = some (.slice tq tn tc) := s2.out.cell 0
    have y1 : u2.cell? ⟨w.heap.size, 1, none⟩ = some (.slice rq rn rc) := s2.out.cell 1
    have y2 : u2.cell? ⟨w.heap.size, 2, none⟩ = some (.slice bq bn bc) := s2.out.cell 2
    have y3 : u2.cell? ⟨w.heap.size, 3, none⟩ = some (.slice mq mn mc) := s2.out.cell 3
    have y4 : u2.cell? ⟨w.heap.size, 4, none⟩ = some (.bool o) := s2.out.cell 4
    go_wp2_with fail
    clear y0 y1 y2 y3 y4
    refine (checkI_any tq tn tc rq rn rc bq bn bc mq mn mc o x u2 (hx'.out.below b2.out (Nat.le_refl _))).mono ?_
    rintro e u3 ⟨he, hb⟩
    have b3 := Lib.hid (b2.out.trans (hb.mono b2.out.size))
    have s3 := Lib.hid (s2.out.below hb)
    clear hb b2 s2
    obtain ⟨C, hC⟩ : ∃ C, serB x = C := ⟨_, rfl⟩
    rw [hC] at he
    have hC' := Lib.hid hC
    clear hC
    cases C with
    | false =>
      have he' : e = .returned (.int .i64 251) := he
      subst he'
      go_wp2
      go_ret
      exact ⟨rfl, b3.out⟩
    | true =>
      have he' : e = .returned (.int .i64 0) := he
      subst he'
      clear he
      have y4 : u3.cell? ⟨w.heap.size, 4, none⟩ = some (.bool o) := s3.out.cell 4
      cases o with
      | true =>
        go_wp2
        go_ret
        exact ⟨rfl, b3.out⟩
      | false =>
        have hxo : Hid (x.over = false) := hov.out.symm
        have hst := Lib.hid (step_any tq tn tc rq rn rc bq bn bc mq mn mc false 9 0 0 0 0 0 ⟨#[]⟩ 0 x u3 (hx'.out.below b3.out (Nat.le_refl _)) hmod.out.few (okReq 9 0 (by unfold I64; decide) (by unfold I64; decide)))
        go_wp2_with (first | (with_reducible refine wpList_load_at rfl 46 (.tmp 3) rfl Try.underlying46 rfl (sizeSer _ _ _ _ _) rfl s3.out.boxed.all ?_))
        clear y4
        refine hst.out.mono ?_
        rintro e u4 ⟨⟨ptq, ptn, ptc, prq, prn, prc, pbq, pbn, pbc, pmq, pmn, pmc, po⟩, ⟨ae, aqq, ann, acc, ak⟩, he, ho, hn, hb⟩
        have he' : e = .returned (.tuple #[.agg #[.slice ptq ptn ptc, .slice prq prn prc, .slice pbq pbn pbc, .slice pmq pmn pmc, .bool po], .agg #[.int .i64 ae, .slice aqq ann acc, .int .i64 ak]]) := he
        subst he'
        obtain ⟨V, hV⟩ : ∃ V, (u4.alloc (.cells #[.slice ptq ptn ptc, .slice prq prn prc, .slice pbq pbn pbc, .slice pmq pmn pmc, .bool po] 46)).alloc (.cells #[.int .i64 ae, .slice aqq ann acc, .int .i64 ak] 35) = V := ⟨_, rfl⟩
        have hbx2 := two_rowsI (xs := [.slice ptq ptn ptc, .slice prq prn prc, .slice pbq pbn pbc, .slice pmq pmn pmc, .bool po]) (ys := [.int .i64 ae, .slice aqq ann acc, .int .i64 ak]) hV
        have hbV := hb.trans (hbx2.1.mono hb.size)
        have b4 := Lib.hid (b3.out.trans (hbV.mono b3.out.size))
        have s4 := Lib.hid (s3.out.below hbV)
        have p4 := Lib.hid hbx2.2.1
        have a4 := Lib.hid hbx2.2.2.1
        have o4 := Lib.hid (ho.below hbx2.1)
        have hne : w.heap.size < u4.heap.size := by have h1 := s3.out.lt; have h2 := hb.size; omega
        clear he hb hbx2 hbV ho b3 s3 hst
        by_cases h8 : mn = 8
        · have e1 : ae = 6 := by have h := hn.e; rw [stp_full hC'.out hxo.out (by rw [hml.out]; exact h8)] at h; exact h
          subst e1
          have y0 : V.cell? ⟨u4.heap.size, 0, none⟩ = some (.slice ptq ptn ptc) := p4.out.cell 0
          have z0 : V.cell? ⟨u4.heap.size + 1, 0, none⟩ = some (.int .i64 6) := a4.out.cell 0
          have y3 : V.cell? ⟨w.heap.size, 3, none⟩ = some (.slice mq mn mc) := s4.out.cell 3
          have e8 : ((mn : Int) == 8) = true := by simp; omega
          clear hn h8
          go_wp2
          go_ret
          exact ⟨rfl, b4.out⟩
        · have hres := stp_mark hC'.out hxo.out (by rw [hml.out]; exact h8)
          rw [hres] at hn o4
          have e1 : ae = 0 := hn.e
          have e2 : ak = (x.marks.length : Int) + 1 := hn.n
          rw [hml.out] at e2
          subst e1 e2
          have inv := Lib.hid (inv_mark hC'.out hxo.out (by rw [hml.out]; exact h8))
          have z0 : V.cell? ⟨u4.heap.size + 1, 0, none⟩ = some (.int .i64 0) := a4.out.cell 0
          clear hn h8 hres
          go_wp2
          have hG1 : w.heap.size < u4.heap.size := hne
          have hrel0 : Hid (Below w.heap.size w V) := b4
          clear hV
          go_loopw [48] (fun v48 wr => ∃ (k : Nat) (v : SV) (y : SerD), k ≤ an ∧ v48 = .int .i64 k ∧ Hid (Below w.heap.size w wr) ∧ Hid (RowV 46 wr u4.heap.size v.cells) ∧ Hid (v.Own wr y) ∧ Hid (Inv x y) ∧ Hid (RowV 35 wr (u4.heap.size + 1) [.int .i64 0, .slice aqq ann acc, .int .i64 ((mn : Int) + 1)]) ∧ Hid (RowV 46 wr w.heap.size [.slice tq tn tc, .slice rq rn rc, .slice bq bn bc, .slice mq mn mc, .bool false])) (fun v48 _ => an - (Go.RowKit.intOf v48).toNat)
          case atStart => exact ⟨0, ⟨ptq, ptn, ptc, prq, prn, prc, pbq, pbn, pbc, pmq, pmn, pmc, po⟩, _, Nat.zero_le _, rfl, hrel0, p4, o4, inv, a4, s4⟩
          case round =>
            clear b4 s4 p4 a4 o4 inv hrel0 z0
            obtain ⟨k, ⟨ytq, ytn, ytc, yrq, yrn, yrc, ybq, ybn, ybc, ymq, ymn, ymc, yo⟩, y, hk, rfl, brr, prr0, orr, inv, arr, srr⟩ := hrel
            have prr : Hid (RowV 46 wr u4.heap.size [.slice ytq ytn ytc, .slice yrq yrn yrc, .slice ybq ybn ybc, .slice ymq ymn ymc, .bool yo]) := prr0.out
            clear prr0
            by_cases hlt : k < an
            · obtain ⟨A, r, hqA, hr, hc⟩ := (hl'.out.below brr.out (Nat.le_refl _)).at hlt
              have hro := hlo'.out r (List.mem_of_getElem? hr)
              obtain ⟨qk, ⟨kt, ki⟩, ⟨tt, ti⟩, qv, qs, qn⟩ := r
              have hro := Lib.hid hro
              have hcell : Hid (∀ j x, ([.int .i64 qk, .int .i64 kt, .int .u16 ki, .int .i64 tt, .int .u16 ti, .int .i64 qv, .string qs, .int .i64 qn] : List Value)[j]? = some x → wr.cell? ((A.add (k * 8)).add j) = some x) := hc
              subst hqA
              obtain ⟨V2, hV2⟩ : ∃ u, wr.alloc (.cells #[.int .i64 qk, .int .i64 kt, .int .u16 ki, .int .i64 tt, .int .u16 ti, .int .i64 qv, .string qs, .int .i64 qn] 30) = u := ⟨_, rfl⟩
              have hbx2 := one_rowI (xs := [.int .i64 qk, .int .i64 kt, .int .u16 ki, .int .i64 tt, .int .u16 ti, .int .i64 qv, .string qs, .int .i64 qn]) hV2
              have b2_ := Lib.hid (brr.out.trans (hbx2.1.mono brr.out.size))
              have p2_ := Lib.hid (prr.out.below hbx2.1)
              have a2_ := Lib.hid (arr.out.below hbx2.1)
              have s2_ := Lib.hid (srr.out.below hbx2.1)
              have o2_ := Lib.hid (orr.out.below hbx2.1)
              have r2_ : Hid (RowV 30 V2 wr.heap.size [.int .i64 qk, .int .i64 kt, .int .u16 ki, .int .i64 tt, .int .u16 ti, .int .i64 qv, .string qs, .int .i64 qn]) := hbx2.2.1
              have hsn : qs.size ≤ maxLen := hro.out.note
              unfold maxLen at hsn
              clear hr hc hbx2
              by_cases h30 : k = 30
              · have e30 : ((k : Int) == 30) = true := by simp; omega
                have brr := b2_
                have prr := p2_
                have arr := a2_
                have srr := s2_
                have orr := o2_
                clear h30
                have ib := inv_back inv.out
                rw [hml.out] at ib
                have z2 : V2.cell? ⟨u4.heap.size + 1, 2, none⟩ = some (.int .i64 ((mn : Int) + 1)) := arr.out.cell 2
                have hst := Lib.hid (step_any ytq ytn ytc yrq yrn yrc ybq ybn ybc ymq ymn ymc yo 10 0 0 0 0 0 ⟨#[]⟩ ((mn : Int) + 1) y V2 orr.out.reads (ser_few inv.out.ser) (okReq 10 _ (by unfold I64; decide) (by unfold I64; omega)))
                go_wp2_with (first | (with_reducible refine wpList_load_at rfl 30 (.tmp 51) rfl Try.underlying30 rfl (sizeReq _ _ _ _ _ _ _ _) rfl hcell.out ?_) | (with_reducible refine wpList_load_at rfl 46 (.tmp 7) rfl Try.underlying46 rfl (sizeSer _ _ _ _ _) rfl prr.out.boxed.all ?_))
                clear z2
                refine hst.out.mono ?_
                rintro e e1 ⟨⟨ztq, ztn, ztc, zrq, zrn, zrc, zbq, zbn, zbc, zmq, zmn, zmc, zo⟩, ⟨be, bq_, bn_, bc_, bk⟩, he, ho, hn, hb⟩
                have he' : e = .returned (.tuple #[.agg #[.slice ztq ztn ztc, .slice zrq zrn zrc, .slice zbq zbn zbc, .slice zmq zmn zmc, .bool zo], .agg #[.int .i64 be, .slice bq_ bn_ bc_, .int .i64 bk]]) := he
                subst he'
                obtain ⟨V1, hV1⟩ : ∃ V, (e1.alloc (.cells #[.slice ztq ztn ztc, .slice zrq zrn zrc, .slice zbq zbn zbc, .slice zmq zmn zmc, .bool zo] 46)).alloc (.cells #[.int .i64 be, .slice bq_ bn_ bc_, .int .i64 bk] 35) = V := ⟨_, rfl⟩
                have hbxV1 := two_rowsI (xs := [.slice ztq ztn ztc, .slice zrq zrn zrc, .slice zbq zbn zbc, .slice zmq zmn zmc, .bool zo]) (ys := [.int .i64 be, .slice bq_ bn_ bc_, .int .i64 bk]) hV1
                have hbV := hb.trans (hbxV1.1.mono hb.size)
                have b5 := Lib.hid (brr.out.trans (hbV.mono brr.out.size))
                have s5 := Lib.hid (srr.out.below hbV)
                have p5 := Lib.hid (prr.out.below hbV)
                have a5 := Lib.hid (arr.out.below hbV)
                have o5 := Lib.hid (orr.out.below hbV)
                have z5 := Lib.hid hbxV1.2.1
                have w5 := Lib.hid (ho.below hbxV1.1)
                have eb : be = 0 := hn.e.trans ib.2.2
                subst eb
                have c0 : V1.cell? ⟨e1.heap.size + 1, 0, none⟩ = some (.int .i64 0) := hbxV1.2.2.1.cell 0
                have c1 : V1.cell? ⟨e1.heap.size, 1, none⟩ = some (.slice zrq zrn zrc) := z5.out.cell 1
                have c2 : V1.cell? ⟨w.heap.size, 1, none⟩ = some (.slice rq rn rc) := s5.out.cell 1
                have sm := same_any zrq zrn zrc _ rq rn rc x.rows V1 w5.out.rows.reads (hx'.out.rows.below b5.out (Nat.le_refl _))
                rw [ib.1, sameL_iff.2 rfl] at sm
                have sm' := Lib.hid sm
                have zl : Hid (zmn = mn + 1) := by show _ = _; have h1 := w5.out.marks.reads.len; rw [ib.2.1] at h1; exact h1.symm
                clear he ho hn hb hbxV1 hbV hst brr srr prr arr orr sm
                go_wp2_with fail
                clear c0 c1 c2 hV1
                refine sm'.out.mono ?_
                rintro e e2 ⟨rfl, hb⟩
                have b6 := Lib.hid (b5.out.trans (hb.mono b5.out.size))
                have s6 := Lib.hid (s5.out.below hb)
                have p6 := Lib.hid (p5.out.below hb)
                have a6 := Lib.hid (a5.out.below hb)
                have o6 := Lib.hid (o5.out.below hb)
                have z6 := Lib.hid (z5.out.below hb)
                obtain rfl : zmn = mn + 1 := zl.out
                clear zl
                have c3 : e2.cell? ⟨e1.heap.size, 3, none⟩ = some (.slice zmq (mn + 1) zmc) := z6.out.cell 3
                have c4 : e2.cell? ⟨u4.heap.size + 1, 2, none⟩ = some (.int .i64 ((mn : Int) + 1)) := a6.out.cell 2
                have ia := inv_abort inv.out
                have hst := Lib.hid (step_any ytq ytn ytc yrq yrn yrc ybq ybn ybc ymq ymn ymc yo 12 0 0 0 0 0 ⟨#[]⟩ 0 y e2 o6.out.reads (ser_few inv.out.ser) (okReq 12 _ (by unfold I64; decide) (by unfold I64; decide)))
                clear hb b5 s5 p5 a5 o5 z5 w5 sm'
                go_wp2_with (first | (with_reducible refine wpList_load_at rfl 46 (.tmp 7) rfl Try.underlying46 rfl (sizeSer _ _ _ _ _) rfl p6.out.boxed.all ?_))
                clear c3 c4
                refine hst.out.mono ?_
                rintro e e3 ⟨⟨gtq, gtn, gtc, grq, grn, grc, gbq, gbn, gbc, gmq, gmn, gmc, go⟩, ⟨de, dq_, dn_, dc_, dk⟩, he, ho, hn, hb⟩
                have he' : e = .returned (.tuple #[.agg #[.slice gtq gtn gtc, .slice grq grn grc, .slice gbq gbn gbc, .slice gmq gmn gmc, .bool go], .agg #[.int .i64 de, .slice dq_ dn_ dc_, .int .i64 dk]]) := he
                subst he'
                obtain ⟨V3, hV3⟩ : ∃ V, (e3.alloc (.cells #[.slice gtq gtn gtc, .slice grq grn grc, .slice gbq gbn gbc, .slice gmq gmn gmc, .bool go] 46)).alloc (.cells #[.int .i64 de, .slice dq_ dn_ dc_, .int .i64 dk] 35) = V := ⟨_, rfl⟩
                have hbxV3 := two_rowsI (xs := [.slice gtq gtn gtc, .slice grq grn grc, .slice gbq gbn gbc, .slice gmq gmn gmc, .bool go]) (ys := [.int .i64 de, .slice dq_ dn_ dc_, .int .i64 dk]) hV3
                have hbV := hb.trans (hbxV3.1.mono hb.size)
                have b7 := Lib.hid (b6.out.trans (hbV.mono b6.out.size))
                have s7 := Lib.hid (s6.out.below hbV)
                have z7 := Lib.hid hbxV3.2.1
                have w7 := Lib.hid (ho.below hbxV3.1)
                have eb : de = 0 := hn.e.trans ia.2.2
                subst eb
                have go1 : go = true := w7.out.over.trans ia.2.1
                subst go1
                have c0 : V3.cell? ⟨e3.heap.size + 1, 0, none⟩ = some (.int .i64 0) := hbxV3.2.2.1.cell 0
                have c1 : V3.cell? ⟨e3.heap.size, 1, none⟩ = some (.slice grq grn grc) := z7.out.cell 1
                have c2 : V3.cell? ⟨w.heap.size, 2, none⟩ = some (.slice bq bn bc) := s7.out.cell 2
                have sm := same_any grq grn grc _ bq bn bc x.begun V3 w7.out.rows.reads (hx'.out.begun.below b7.out (Nat.le_refl _))
                rw [ia.1, sameL_iff.2 rfl] at sm
                have sm' := Lib.hid sm
                clear he ho hn hb hbxV3 hbV hst b6 s6 p6 a6 o6 z6 sm
                go_wp2_with fail
                clear c0 c1 c2 hV3
                refine sm'.out.mono ?_
                rintro e e4 ⟨rfl, hb⟩
                have c5 : e4.cell? ⟨e3.heap.size, 4, none⟩ = some (.bool true) := (z7.out.below hb).cell 4
                have b8 := Lib.hid (b7.out.trans (hb.mono b7.out.size))
                clear hb sm'
                go_wp2
                go_ret
                exact ⟨rfl, b8.out⟩
              · have e30 : ((k : Int) == 30) = false := by simp; omega
                clear h30
                by_cases h10 : qk = 10
                · subst h10
                  have y0 : V2.cell? ⟨wr.heap.size, 0, none⟩ = some (.int .i64 10) := r2_.out.cell 0
                  have y6 : V2.cell? ⟨wr.heap.size, 6, none⟩ = some (.string qs) := r2_.out.cell 6
                  have y7 : V2.cell? ⟨wr.heap.size, 7, none⟩ = some (.int .i64 qn) := r2_.out.cell 7
                  have z2 : V2.cell? ⟨u4.heap.size + 1, 2, none⟩ = some (.int .i64 ((mn : Int) + 1)) := a2_.out.cell 2
                  by_cases hq : qn < (mn : Int) + 1
                  · have d1 : decide (qn < (mn : Int) + 1) = true := decide_eq_true hq
                    go_wp2_with (first | (with_reducible refine wpList_load_at rfl 30 (.tmp 51) rfl Try.underlying30 rfl (sizeReq _ _ _ _ _ _ _ _) rfl hcell.out ?_))
                    go_roundw
                    case rel => exact ⟨k + 1, ⟨ytq, ytn, ytc, yrq, yrn, yrc, ybq, ybn, ybc, ymq, ymn, ymc, yo⟩, y, by omega, by go_num, b2_, p2_, o2_, inv, a2_, s2_⟩
                    case measure => simp [Go.RowKit.intOf]; omega
                  · have d1 : decide (qn < (mn : Int) + 1) = false := decide_eq_false hq
                    by_cases hs : 100 < qs.size
                    · have d2 : decide ((100 : Int) < qs.size) = true := decide_eq_true (by omega)
                      go_wp2_with (first | (with_reducible refine wpList_load_at rfl 30 (.tmp 51) rfl Try.underlying30 rfl (sizeReq _ _ _ _ _ _ _ _) rfl hcell.out ?_))
                      go_roundw
                      case rel => exact ⟨k + 1, ⟨ytq, ytn, ytc, yrq, yrn, yrc, ybq, ybn, ybc, ymq, ymn, ymc, yo⟩, y, by omega, by go_num, b2_, p2_, o2_, inv, a2_, s2_⟩
                      case measure => simp [Go.RowKit.intOf]; omega
                    · have d2 : decide ((100 : Int) < qs.size) = false := decide_eq_false (by omega)
                      have hq' : (x.marks.length : Int) + 1 ≤ qn := by rw [hml.out]; omega
                      clear hq hs
                      have hst := Lib.hid (step_any ytq ytn ytc yrq yrn yrc ybq ybn ybc ymq ymn ymc yo 10 kt ki tt ti qv qs qn y V2 o2_.out.reads (ser_few inv.out.ser) hro.out)
                      have inv2 := Lib.hid (inv_step (q := ⟨10, ⟨kt, ki⟩, ⟨tt, ti⟩, qv, qs, qn⟩) inv.out (by show (10 : Int) < 11; decide) (fun _ => hq'))
                      go_wp2_with (first | (with_reducible refine wpList_load_at rfl 30 (.tmp 51) rfl Try.underlying30 rfl (sizeReq _ _ _ _ _ _ _ _) rfl hcell.out ?_) | (with_reducible refine wpList_load_at rfl 46 (.tmp 7) rfl Try.underlying46 rfl (sizeSer _ _ _ _ _) rfl p2_.out.boxed.all ?_) | (with_reducible refine wpList_load_at rfl 30 (.tmp 10) rfl Try.underlying30 rfl (sizeReq _ _ _ _ _ _ _ _) rfl r2_.out.boxed.all ?_))
                      refine hst.out.mono ?_
                      rintro e f1 ⟨⟨ztq, ztn, ztc, zrq, zrn, zrc, zbq, zbn, zbc, zmq, zmn, zmc, zo⟩, ⟨be, bq_, bn_, bc_, bk⟩, he, ho, hn, hb⟩
                      have he' : e = .returned (.tuple #[.agg #[.slice ztq ztn ztc, .slice zrq zrn zrc, .slice zbq zbn zbc, .slice zmq zmn zmc, .bool zo], .agg #[.int .i64 be, .slice bq_ bn_ bc_, .int .i64 bk]]) := he
                      subst he'
                      have b3_ := Lib.hid (b2_.out.trans (hb.mono b2_.out.size))
                      have p3_ := Lib.hid (p2_.out.below hb)
                      have a3_ := Lib.hid (a2_.out.below hb)
                      have s3_ := Lib.hid (s2_.out.below hb)
                      have o3_ := Lib.hid ho
                      clear he ho hn hb hst
                      go_wp2_with (first
                        | ((with_reducible refine wpList_store_at rfl 46 (.tmp 7) (.tmp 80) rfl (o := 0) (vs := [.slice ztq ztn ztc, .slice zrq zrn zrc, .slice zbq zbn zbc, .slice zmq zmn zmc, .bool zo]) rfl rfl p3_.out (sizeSer _ _ _ _ _) (Nat.le_refl _) (ser_one' _ _ _ _ _ _ _ _ _ _ _ _ _) ?_)
                           intro f2 h9 hg9
                           have p4_ : Hid (RowV 46 f2 u4.heap.size (⟨ztq, ztn, ztc, zrq, zrn, zrc, zbq, zbn, zbc, zmq, zmn, zmc, zo⟩ : SV).cells) := h9
                           have a4_ := Lib.hid (a3_.out.kept hg9 (by omega))
                           have s4_ := Lib.hid (s3_.out.kept hg9 (by omega))
                           have o4_ := Lib.hid (o3_.out.gs hg9 p3_.out)
                           have b4_ := Lib.hid (b3_.out.grown hg9 b3_.out.size (fun k hk => by cases hk; omega))
                           clear h9 hg9))
                      go_roundw
                      case rel => exact ⟨k + 1, ⟨ztq, ztn, ztc, zrq, zrn, zrc, zbq, zbn, zbc, zmq, zmn, zmc, zo⟩, _, by omega, by go_num, b4_, p4_, o4_, inv2, a4_, s4_⟩
                      case measure => simp [Go.RowKit.intOf]; omega
                · have d0 : (qk == 10) = false := by simpa using h10
                  have y0 : V2.cell? ⟨wr.heap.size, 0, none⟩ = some (.int .i64 qk) := r2_.out.cell 0
                  have y6 : V2.cell? ⟨wr.heap.size, 6, none⟩ = some (.string qs) := r2_.out.cell 6
                  have y7 : V2.cell? ⟨wr.heap.size, 7, none⟩ = some (.int .i64 qn) := r2_.out.cell 7
                  have z2 : V2.cell? ⟨u4.heap.size + 1, 2, none⟩ = some (.int .i64 ((mn : Int) + 1)) := a2_.out.cell 2
                  by_cases h11 : 11 ≤ qk
                  · have d1 : decide ((11 : Int) ≤ qk) = true := decide_eq_true h11
                    go_wp2_with (first | (with_reducible refine wpList_load_at rfl 30 (.tmp 51) rfl Try.underlying30 rfl (sizeReq _ _ _ _ _ _ _ _) rfl hcell.out ?_))
                    go_roundw
                    case rel => exact ⟨k + 1, ⟨ytq, ytn, ytc, yrq, yrn, yrc, ybq, ybn, ybc, ymq, ymn, ymc, yo⟩, y, by omega, by go_num, b2_, p2_, o2_, inv, a2_, s2_⟩
                    case measure => simp [Go.RowKit.intOf]; omega
                  · have d1 : decide ((11 : Int) ≤ qk) = false := decide_eq_false h11
                    by_cases hs : 100 < qs.size
                    · have d2 : decide ((100 : Int) < qs.size) = true := decide_eq_true (by omega)
                      go_wp2_with (first | (with_reducible refine wpList_load_at rfl 30 (.tmp 51) rfl Try.underlying30 rfl (sizeReq _ _ _ _ _ _ _ _) rfl hcell.out ?_))
                      go_roundw
                      case rel => exact ⟨k + 1, ⟨ytq, ytn, ytc, yrq, yrn, yrc, ybq, ybn, ybc, ymq, ymn, ymc, yo⟩, y, by omega, by go_num, b2_, p2_, o2_, inv, a2_, s2_⟩
                      case measure => simp [Go.RowKit.intOf]; omega
                    · have d2 : decide ((100 : Int) < qs.size) = false := decide_eq_false (by omega)
                      have h11' : qk < 11 := by omega
                      clear hs h11
                      have hst := Lib.hid (step_any ytq ytn ytc yrq yrn yrc ybq ybn ybc ymq ymn ymc yo qk kt ki tt ti qv qs qn y V2 o2_.out.reads (ser_few inv.out.ser) hro.out)
                      have inv2 := Lib.hid (inv_step (q := ⟨qk, ⟨kt, ki⟩, ⟨tt, ti⟩, qv, qs, qn⟩) inv.out h11' (fun h => absurd h h10))
                      go_wp2_with (first | (with_reducible refine wpList_load_at rfl 30 (.tmp 51) rfl Try.underlying30 rfl (sizeReq _ _ _ _ _ _ _ _) rfl hcell.out ?_) | (with_reducible refine wpList_load_at rfl 46 (.tmp 7) rfl Try.underlying46 rfl (sizeSer _ _ _ _ _) rfl p2_.out.boxed.all ?_) | (with_reducible refine wpList_load_at rfl 30 (.tmp 10) rfl Try.underlying30 rfl (sizeReq _ _ _ _ _ _ _ _) rfl r2_.out.boxed.all ?_))
                      refine hst.out.mono ?_
                      rintro e f1 ⟨⟨ztq, ztn, ztc, zrq, zrn, zrc, zbq, zbn, zbc, zmq, zmn, zmc, zo⟩, ⟨be, bq_, bn_, bc_, bk⟩, he, ho, hn, hb⟩
                      have he' : e = .returned (.tuple #[.agg #[.slice ztq ztn ztc, .slice zrq zrn zrc, .slice zbq zbn zbc, .slice zmq zmn zmc, .bool zo], .agg #[.int .i64 be, .slice bq_ bn_ bc_, .int .i64 bk]]) := he
                      subst he'
                      have b3_ := Lib.hid (b2_.out.trans (hb.mono b2_.out.size))
                      have p3_ := Lib.hid (p2_.out.below hb)
                      have a3_ := Lib.hid (a2_.out.below hb)
                      have s3_ := Lib.hid (s2_.out.below hb)
                      have o3_ := Lib.hid ho
                      clear he ho hn hb hst
                      go_wp2_with (first
                        | ((with_reducible refine wpList_store_at rfl 46 (.tmp 7) (.tmp 80) rfl (o := 0) (vs := [.slice ztq ztn ztc, .slice zrq zrn zrc, .slice zbq zbn zbc, .slice zmq zmn zmc, .bool zo]) rfl rfl p3_.out (sizeSer _ _ _ _ _) (Nat.le_refl _) (ser_one' _ _ _ _ _ _ _ _ _ _ _ _ _) ?_)
                           intro f2 h9 hg9
                           have p4_ : Hid (RowV 46 f2 u4.heap.size (⟨ztq, ztn, ztc, zrq, zrn, zrc, zbq, zbn, zbc, zmq, zmn, zmc, zo⟩ : SV).cells) := h9
                           have a4_ := Lib.hid (a3_.out.kept hg9 (by omega))
                           have s4_ := Lib.hid (s3_.out.kept hg9 (by omega))
                           have o4_ := Lib.hid (o3_.out.gs hg9 p3_.out)
                           have b4_ := Lib.hid (b3_.out.grown hg9 b3_.out.size (fun k hk => by cases hk; omega))
                           clear h9 hg9))
                      go_roundw
                      case rel => exact ⟨k + 1, ⟨ztq, ztn, ztc, zrq, zrn, zrc, zbq, zbn, zbc, zmq, zmn, zmc, zo⟩, _, by omega, by go_num, b4_, p4_, o4_, inv2, a4_, s4_⟩
                      case measure => simp [Go.RowKit.intOf]; omega
            · obtain rfl : k = an := by omega
              have ib := inv_back inv.out
              rw [hml.out] at ib
              have z2 : wr.cell? ⟨u4.heap.size + 1, 2, none⟩ = some (.int .i64 ((mn : Int) + 1)) := arr.out.cell 2
              have hst := Lib.hid (step_any ytq ytn ytc yrq yrn yrc ybq ybn ybc ymq ymn ymc yo 10 0 0 0 0 0 ⟨#[]⟩ ((mn : Int) + 1) y wr orr.out.reads (ser_few inv.out.ser) (okReq 10 _ (by unfold I64; decide) (by unfold I64; omega)))
              go_wp2_with (first | (with_reducible refine wpList_load_at rfl 46 (.tmp 7) rfl Try.underlying46 rfl (sizeSer _ _ _ _ _) rfl prr.out.boxed.all ?_))
              clear z2
              refine hst.out.mono ?_
              rintro e e1 ⟨⟨ztq, ztn, ztc, zrq, zrn, zrc, zbq, zbn, zbc, zmq, zmn, zmc, zo⟩, ⟨be, bq_, bn_, bc_, bk⟩, he, ho, hn, hb⟩
              have he' : e = .returned (.tuple #[.agg #[.slice ztq ztn ztc, .slice zrq zrn zrc, .slice zbq zbn zbc, .slice zmq zmn zmc, .bool zo], .agg #[.int .i64 be, .slice bq_ bn_ bc_, .int .i64 bk]]) := he
              subst he'
              obtain ⟨V1, hV1⟩ : ∃ V, (e1.alloc (.cells #[.slice ztq ztn ztc, .slice zrq zrn zrc, .slice zbq zbn zbc, .slice zmq zmn zmc, .bool zo] 46)).alloc (.cells #[.int .i64 be, .slice bq_ bn_ bc_, .int .i64 bk] 35) = V := ⟨_, rfl⟩
              have hbxV1 := two_rowsI (xs := [.slice ztq ztn ztc, .slice zrq zrn zrc, .slice zbq zbn zbc, .slice zmq zmn zmc, .bool zo]) (ys := [.int .i64 be, .slice bq_ bn_ bc_, .int .i64 bk]) hV1
              have hbV := hb.trans (hbxV1.1.mono hb.size)
              have b5 := Lib.hid (brr.out.trans (hbV.mono brr.out.size))
              have s5 := Lib.hid (srr.out.below hbV)
              have p5 := Lib.hid (prr.out.below hbV)
              have a5 := Lib.hid (arr.out.below hbV)
              have o5 := Lib.hid (orr.out.below hbV)
              have z5 := Lib.hid hbxV1.2.1
              have w5 := Lib.hid (ho.below hbxV1.1)
              have eb : be = 0 := hn.e.trans ib.2.2
              subst eb
              have c0 : V1.cell? ⟨e1.heap.size + 1, 0, none⟩ = some (.int .i64 0) := hbxV1.2.2.1.cell 0
              have c1 : V1.cell? ⟨e1.heap.size, 1, none⟩ = some (.slice zrq zrn zrc) := z5.out.cell 1
              have c2 : V1.cell? ⟨w.heap.size, 1, none⟩ = some (.slice rq rn rc) := s5.out.cell 1
              have sm := same_any zrq zrn zrc _ rq rn rc x.rows V1 w5.out.rows.reads (hx'.out.rows.below b5.out (Nat.le_refl _))
              rw [ib.1, sameL_iff.2 rfl] at sm
              have sm' := Lib.hid sm
              have zl : Hid (zmn = mn + 1) := by show _ = _; have h1 := w5.out.marks.reads.len; rw [ib.2.1] at h1; exact h1.symm
              clear he ho hn hb hbxV1 hbV hst brr srr prr arr orr sm
              go_wp2_with fail
              clear c0 c1 c2 hV1
              refine sm'.out.mono ?_
              rintro e e2 ⟨rfl, hb⟩
              have b6 := Lib.hid (b5.out.trans (hb.mono b5.out.size))
              have s6 := Lib.hid (s5.out.below hb)
              have p6 := Lib.hid (p5.out.below hb)
              have a6 := Lib.hid (a5.out.below hb)
              have o6 := Lib.hid (o5.out.below hb)
              have z6 := Lib.hid (z5.out.below hb)
              obtain rfl : zmn = mn + 1 := zl.out
              clear zl
              have c3 : e2.cell? ⟨e1.heap.size, 3, none⟩ = some (.slice zmq (mn + 1) zmc) := z6.out.cell 3
              have c4 : e2.cell? ⟨u4.heap.size + 1, 2, none⟩ = some (.int .i64 ((mn : Int) + 1)) := a6.out.cell 2
              have ia := inv_abort inv.out
              have hst := Lib.hid (step_any ytq ytn ytc yrq yrn yrc ybq ybn ybc ymq ymn ymc yo 12 0 0 0 0 0 ⟨#[]⟩ 0 y e2 o6.out.reads (ser_few inv.out.ser) (okReq 12 _ (by unfold I64; decide) (by unfold I64; decide)))
              clear hb b5 s5 p5 a5 o5 z5 w5 sm'
              go_wp2_with (first | (with_reducible refine wpList_load_at rfl 46 (.tmp 7) rfl Try.underlying46 rfl (sizeSer _ _ _ _ _) rfl p6.out.boxed.all ?_))
              clear c3 c4
              refine hst.out.mono ?_
              rintro e e3 ⟨⟨gtq, gtn, gtc, grq, grn, grc, gbq, gbn, gbc, gmq, gmn, gmc, go⟩, ⟨de, dq_, dn_, dc_, dk⟩, he, ho, hn, hb⟩
              have he' : e = .returned (.tuple #[.agg #[.slice gtq gtn gtc, .slice grq grn grc, .slice gbq gbn gbc, .slice gmq gmn gmc, .bool go], .agg #[.int .i64 de, .slice dq_ dn_ dc_, .int .i64 dk]]) := he
              subst he'
              obtain ⟨V3, hV3⟩ : ∃ V, (e3.alloc (.cells #[.slice gtq gtn gtc, .slice grq grn grc, .slice gbq gbn gbc, .slice gmq gmn gmc, .bool go] 46)).alloc (.cells #[.int .i64 de, .slice dq_ dn_ dc_, .int .i64 dk] 35) = V := ⟨_, rfl⟩
              have hbxV3 := two_rowsI (xs := [.slice gtq gtn gtc, .slice grq grn grc, .slice gbq gbn gbc, .slice gmq gmn gmc, .bool go]) (ys := [.int .i64 de, .slice dq_ dn_ dc_, .int .i64 dk]) hV3
              have hbV := hb.trans (hbxV3.1.mono hb.size)
              have b7 := Lib.hid (b6.out.trans (hbV.mono b6.out.size))
              have s7 := Lib.hid (s6.out.below hbV)
              have z7 := Lib.hid hbxV3.2.1
              have w7 := Lib.hid (ho.below hbxV3.1)
              have eb : de = 0 := hn.e.trans ia.2.2
              subst eb
              have go1 : go = true := w7.out.over.trans ia.2.1
              subst go1
              have c0 : V3.cell? ⟨e3.heap.size + 1, 0, none⟩ = some (.int .i64 0) := hbxV3.2.2.1.cell 0
              have c1 : V3.cell? ⟨e3.heap.size, 1, none⟩ = some (.slice grq grn grc) := z7.out.cell 1
              have c2 : V3.cell? ⟨w.heap.size, 2, none⟩ = some (.slice bq bn bc) := s7.out.cell 2
              have sm := same_any grq grn grc _ bq bn bc x.begun V3 w7.out.rows.reads (hx'.out.begun.below b7.out (Nat.le_refl _))
              rw [ia.1, sameL_iff.2 rfl] at sm
              have sm' := Lib.hid sm
              clear he ho hn hb hbxV3 hbV hst b6 s6 p6 a6 o6 z6 sm
              go_wp2_with fail
              clear c0 c1 c2 hV3
              refine sm'.out.mono ?_
              rintro e e4 ⟨rfl, hb⟩
              have c5 : e4.cell? ⟨e3.heap.size, 4, none⟩ = some (.bool true) := (z7.out.below hb).cell 4
              have b8 := Lib.hid (b7.out.trans (hb.mono b7.out.size))
              clear hb sm'
              go_wp2
              go_ret
              exact ⟨rfl, b8.out⟩

theorem back_any (v : SV) (x : SerD) (aq : Option Addr) (an ac : Nat) (lr : List ReqD) (nn : Int) (w : World) (hx : v.On w x) (hl : SlOn w aq an ac lr ∧ ∀ q ∈ lr, ReqOk q) :
    Calls Try.prog 7 #[.agg v.cells.toArray, .slice aq an ac, .int .i64 nn] w (LwPost w) :=
  back_law v.tq v.tn v.tc v.rq v.rn v.rc v.bq v.bn v.bc v.mq v.mn v.mc v.o aq an ac x lr nn w hx hl.1 hl.2

set_option maxRecDepth 1000000 in
theorem back_lifted (os : Os) (started : os.Started) (H : Type) (enc : TypeId × Value → H) :
    ReturnsInHanded {} Try.checked os 7 .any (Rows.idealBackSpec.pre6 enc Try.prog Try.f7 Rows.idealBackRow.domain false) (Rows.idealBackSpec.post enc Try.prog Try.f7 false true false false) := by
  refine returnsInHanded_of_change (C := Try.checked) own started (by kernel_rfl) Try.func7
    (ChangeSpec.witness6 (enc := enc) (C := Try.checked) false ⟨#[], #[.agg #[.slice none 0 0, .slice none 0 0, .slice none 0 0, .slice none 0 0, .bool false], .slice none 0 0, .int .i64 0], []⟩ 8 (by kernel_rfl) (by kernel_rfl) (by kernel_rfl) (by kernel_rfl)) ?_
  intro W base args ds gs before hval0 hW _ _
  have hval : ∀ (j : Nat) t v, Try.f7.params[j]? = some t → args[j]? = some v → Value.okWide Try.prog W .any base t v := hval0
  have hW' := hW
  obtain ⟨p, q, hA0, hV, rfl, _, _⟩ := hW
  have hA : DataW.TrodAll enc Try.prog W 0 (fun _ => true) true Try.f7.params.toList args.toList ds p := hA0
  rw [Try.params7] at hA hval
  obtain ⟨v0, v1, v2, d0, d1, d2, p0, p1, p2, rfl, rfl, rfl, h0, h1, h2⟩ := trodAll_three hA
  obtain ⟨rfl, rfl⟩ := trodVars_none hV
  obtain ⟨y0, x0, rfl, hc0⟩ := open_ser (hval 0 46 v0 rfl rfl) h0
  obtain ⟨a1, len1, cap1, rfl⟩ := okWide_slice Try.underlying57 (hval 1 57 v1 rfl rfl)
  obtain ⟨l1, hl1⟩ := open_reqs h1
  obtain ⟨w2, rfl⟩ := okWide_int Try.underlying3 (hval 2 3 v2 rfl rfl)
  refine (back_any y0 x0 a1 len1 cap1 l1 w2 W hc0 hl1).mono fun e W' ⟨he, hb⟩ => ?_
  subst he
  exact ⟨_, rfl, law_post laidOut (of_decide_eq_true (by kernel_rfl)) rfl (by kernel_rfl) Try.underlying4 hW' ⟨rfl, rfl, rfl⟩ hb⟩

set_option maxRecDepth 1000000 in
theorem back_holds : Rows.IdealBackSaid :=
  OpenClaim.holds_of_wide 7 Try.f7 rfl rfl rfl rfl rfl rfl rfl ⟨rfl, rfl, rfl, rfl, rfl⟩ rfl rfl rfl rfl rfl (by kernel_rfl) Try.func7 (by kernel_rfl)
    (of_decide_eq_true (by kernel_rfl)) (by unfold Func.isWrapper; first | (rw [if_pos (by decide +kernel)]; kernel_rfl) | (rw [if_neg (by decide +kernel)]; exact ⟨rfl, rfl⟩))
    (fun os started H enc _ => back_lifted os started H enc)
end Go.Proofs.Ytkdkncbccofpdaa
