/- IdealSteps: for every transaction and request the law returns true, and its arguments read as they did. No condition. -/
import Derived.Test.YtkdkncbccofpdaaQ24
import Derived.Test.YtkdkncbccofpdaaQ25
import Derived.Test.YtkdkncbccofpdaaQ26
import Derived.Test.YtkdkncbccofpdaaITs
import Derived.Test.YtkdkncbccofpdaaITw
namespace Go.Proofs.Ytkdkncbccofpdaa
open Go.ChangeShapes Go.WideShapes Go.ChangeAt Go.RowKit Go.Deep Go.Joins
set_option maxRecDepth 100000
theorem ansB_of {e1 k1 e2 k2 : Int} {a b : List RowD} (he : e1 = e2) (hk : k1 = k2) (h : a = b) : ansB e1 k1 a e2 k2 b = true := by
  subst he hk h
  unfold ansB
  rw [sameL_iff.2 rfl]
  simp
theorem open_req {H : Type} {enc : TypeId × Value → H} {W : World} {r : Reach} {b0 : Nat} {v : Value} {d : DataW H} {p : List MemPlace} (hv : Value.okWide Try.prog W r b0 30 v) (h : DataW.Trod enc Try.prog W 0 (fun _ => true) true 30 v d p) :
    ∃ a : ReqD, v = .agg a.cells.toArray ∧ ReqOk a := by
  obtain ⟨cs, rfl, hsz⟩ := okWide_struct Try.underlying30 hv
  obtain ⟨fuel, hf⟩ := h
  obtain ⟨a, ha, oka⟩ := req_cells hf
  refine ⟨a, ?_, oka⟩
  have ha' : cs.toList = a.cells := ha
  rw [← ha']

theorem st251 {x : SerD} {q : ReqD} (h : serB x = false) : stpM x q = (x, errA 251) := by unfold stpM; rw [if_pos h]
theorem st252 {x : SerD} {q : ReqD} (h : serB x = true) (ho : x.over = true) : stpM x q = (x, errA 252) := by unfold stpM; rw [if_neg (by rw [h]; simp), if_pos ho]
theorem st250 {x : SerD} {q : ReqD} (h : serB x = true) (ho : x.over = false) (hr : reqB x.bs q = false) : stpM x q = (x, errA 250) := by unfold stpM; rw [if_neg (by rw [h]; simp), if_neg (by rw [ho]; simp), if_pos hr]
theorem st0 {x : SerD} {q : ReqD} (h : serB x = true) (ho : x.over = false) (hr : reqB x.bs q = true) : stpM x q = stepW x q := by unfold stpM; rw [if_neg (by rw [h]; simp), if_neg (by rw [ho]; simp), if_neg (by rw [hr]; simp)]

set_option maxHeartbeats 8000000 in
theorem steps_law (v : SV) (x : SerD) (qa : ReqD) (w : World) (hx : v.On w x) (hq : ReqOk qa) :
    Calls Try.prog 4 #[.agg v.cells.toArray, .agg qa.cells.toArray] w (LwPost w) := by
  obtain ⟨qk, ⟨kt, ki⟩, ⟨tt, ti⟩, qv, qs, qn⟩ := qa
  obtain ⟨xtq, xtn, xtc, xrq, xrn, xrc, xbq, xbn, xbc, xmq, xmn, xmc, xo⟩ := v
  show Calls _ _ #[.agg #[.slice xtq xtn xtc, .slice xrq xrn xrc, .slice xbq xbn xbc, .slice xmq xmn xmc, .bool xo], .agg #[.int .i64 qk, .int .i64 kt, .int .u16 ki, .int .i64 tt, .int .u16 ti, .int .i64 qv, .string qs, .int .i64 qn]] _ _
  obtain ⟨W, hW⟩ : ∃ W, (w.alloc (.cells #[.slice xtq xtn xtc, .slice xrq xrn xrc, .slice xbq xbn xbc, .slice xmq xmn xmc, .bool xo] 46)).alloc (.cells #[.int .i64 qk, .int .i64 kt, .int .u16 ki, .int .i64 tt, .int .u16 ti, .int .i64 qv, .string qs, .int .i64 qn] 30) = W := ⟨_, rfl⟩
  have hbx := Lib.hid (two_rowsI (xs := [.slice xtq xtn xtc, .slice xrq xrn xrc, .slice xbq xbn xbc, .slice xmq xmn xmc, .bool xo]) (ys := [.int .i64 qk, .int .i64 kt, .int .u16 ki, .int .i64 tt, .int .u16 ti, .int .i64 qv, .string qs, .int .i64 qn]) hW)
  have b_i := Lib.hid hbx.out.1
  have s_i := Lib.hid hbx.out.2.1
  have q_i := Lib.hid hbx.out.2.2.1
  have hx' := Lib.hid hx
  have hsch := Lib.hid (hx.sch.sch hx.sok)
  have hq' := Lib.hid hq
  have hov := Lib.hid (show xo = x.over from hx.over)
  have hsq : qs.size ≤ maxLen := hq.note
  have hsq' := Lib.hid hsq
  unfold maxLen at hsq
  clear hx hq hbx
  go_enter Try.func4, Try.ntmps4
  go_wp2_with fail
  clear hW
  refine (wakes_any W).mono ?_
  rintro e u1 ⟨rfl, hb⟩
  have s_1 := Lib.hid (s_i.out.below hb)
  have q_1 := Lib.hid (q_i.out.below hb)
  have b_1 := Lib.hid (b_i.out.trans (hb.mono b_i.out.size))
  clear hb s_i q_i b_i
  have y0 : u1.cell? ⟨w.heap.size, 0, none⟩ = some (.slice xtq xtn xtc) := s_1.out.cell 0
  have y1 : u1.cell? ⟨w.heap.size, 1, none⟩ = some (.slice xrq xrn xrc) := s_1.out.cell 1
  have y2 : u1.cell? ⟨w.heap.size, 2, none⟩ = some (.slice xbq xbn xbc) := s_1.out.cell 2
  have y3 : u1.cell? ⟨w.heap.size, 3, none⟩ = some (.slice xmq xmn xmc) := s_1.out.cell 3
  have y4 : u1.cell? ⟨w.heap.size, 4, none⟩ = some (.bool xo) := s_1.out.cell 4
  go_wp2_with fail
  clear y0 y1 y2 y3 y4
  refine (overS_any xtq xtn xtc xrq xrn xrc xbq xbn xbc xmq xmn xmc xo x u1 (hx'.out.below b_1.out (Nat.le_refl _))).mono ?_
  rintro e u2 ⟨B, rfl, hB, hb⟩
  have s_2 := Lib.hid (s_1.out.below hb)
  have q_2 := Lib.hid (q_1.out.below hb)
  have b_2 := Lib.hid (b_1.out.trans (hb.mono b_1.out.size))
  clear hb s_1 q_1 b_1
  cases B with
  | true =>
    go_wp2
    go_ret
    exact ⟨rfl, b_2.out⟩
  | false =>
    have hmod := Lib.hid (hB rfl)
    clear hB
    have y6 : u2.cell? ⟨w.heap.size + 1, 6, none⟩ = some (.string qs) := q_2.out.cell 6
    by_cases h1 : 100 < qs.size
    · have z1 : decide ((100 : Int) < qs.size) = true := decide_eq_true (by omega)
      go_wp2
      go_ret
      exact ⟨rfl, b_2.out⟩
    · have z1 : decide ((100 : Int) < qs.size) = false := decide_eq_false (by omega)
      clear h1
      have y0 : u2.cell? ⟨w.heap.size, 0, none⟩ = some (.slice xtq xtn xtc) := s_2.out.cell 0
      have y1 : u2.cell? ⟨w.heap.size, 1, none⟩ = some (.slice xrq xrn xrc) := s_2.out.cell 1
      have y2 : u2.cell? ⟨w.heap.size, 2, none⟩ = some (.slice xbq xbn xbc) := s_2.out.cell 2
      have y3 : u2.cell? ⟨w.heap.size, 3, none⟩ = some (.slice xmq xmn xmc) := s_2.out.cell 3
      have y4 : u2.cell? ⟨w.heap.size, 4, none⟩ = some (.bool xo) := s_2.out.cell 4
      have d0 : u2.cell? ⟨w.heap.size + 1, 0, none⟩ = some (.int .i64 qk) := q_2.out.cell 0
      have d1 : u2.cell? ⟨w.heap.size + 1, 1, none⟩ = some (.int .i64 kt) := q_2.out.cell 1
      have d2 : u2.cell? ⟨w.heap.size + 1, 2, none⟩ = some (.int .u16 ki) := q_2.out.cell 2
      have d3 : u2.cell? ⟨w.heap.size + 1, 3, none⟩ = some (.int .i64 tt) := q_2.out.cell 3
      have d4 : u2.cell? ⟨w.heap.size + 1, 4, none⟩ = some (.int .u16 ti) := q_2.out.cell 4
      have d5 : u2.cell? ⟨w.heap.size + 1, 5, none⟩ = some (.int .i64 qv) := q_2.out.cell 5
      have d7 : u2.cell? ⟨w.heap.size + 1, 7, none⟩ = some (.int .i64 qn) := q_2.out.cell 7
      go_wp2_with fail
      clear y0 y1 y2 y3 y4 y6 z1 d0 d1 d2 d3 d4 d5 d7
      refine (step_any xtq xtn xtc xrq xrn xrc xbq xbn xbc xmq xmn xmc xo qk kt ki tt ti qv qs qn x u2 (hx'.out.below b_2.out (Nat.le_refl _)) hmod.out.few hq'.out).mono ?_
      rintro e u3 ⟨⟨ntq, ntn, ntc, nrq, nrn, nrc, nbq, nbn, nbc, nmq, nmn, nmc, no⟩, ⟨ae, aq, an, ac, ak⟩, he, ho, hn, hb⟩
      have he' : e = .returned (.tuple #[.agg #[.slice ntq ntn ntc, .slice nrq nrn nrc, .slice nbq nbn nbc, .slice nmq nmn nmc, .bool no], .agg #[.int .i64 ae, .slice aq an ac, .int .i64 ak]]) := he
      subst he'
      obtain ⟨V3, hV⟩ : ∃ V, (u3.alloc (.cells #[.slice none 0 0, .slice none 0 0, .slice none 0 0, .slice none 0 0, .bool false] 46)).alloc (.cells #[.int .i64 0, .slice none 0 0, .int .i64 0] 35) = V := ⟨_, rfl⟩
      have hbx := two_rowsI (xs := [.slice none 0 0, .slice none 0 0, .slice none 0 0, .slice none 0 0, .bool false]) (ys := [.int .i64 0, .slice none 0 0, .int .i64 0]) hV
      have hbV := hb.trans (hbx.1.mono hb.size)
      have hu3 : w.heap.size + 2 ≤ u3.heap.size := by have h1 := q_2.out.lt; have h2 := hb.size; omega
      have s_3 := Lib.hid (s_2.out.below hbV)
      have q_3 := Lib.hid (q_2.out.below hbV)
      have b_3 := Lib.hid (b_2.out.trans (hbV.mono b_2.out.size))
      clear s_2 q_2 b_2
      have nb_3 := Lib.hid hbx.2.1
      have ab_3 := Lib.hid hbx.2.2.1
      have n_3 := Lib.hid (ho.below hbx.1)
      have ar_3 := Lib.hid (hn.rows.below hbx.1)
      have hae : Hid (ae = (stpM x ⟨qk, ⟨kt, ki⟩, ⟨tt, ti⟩, qv, qs, qn⟩).2.e) := hn.e
      have hak : Hid (ak = (stpM x ⟨qk, ⟨kt, ki⟩, ⟨tt, ti⟩, qv, qs, qn⟩).2.n) := hn.n
      clear he ho hn hb hbx hbV
      go_wp2_with (first
        | ((with_reducible refine wpList_store_at rfl 46 (.tmp 5) (.tmp 27) rfl (o := 0) (vs := [.slice ntq ntn ntc, .slice nrq nrn nrc, .slice nbq nbn nbc, .slice nmq nmn nmc, .bool no]) rfl rfl nb_3.out (sizeSer _ _ _ _ _) (Nat.le_refl _) (ser_one' _ _ _ _ _ _ _ _ _ _ _ _ _) ?_)
           intro g4 h9 hg9
           have s_4 := Lib.hid (s_3.out.kept hg9 (by omega))
           have q_4 := Lib.hid (q_3.out.kept hg9 (by omega))
           have nb_4 : Hid (RowV 46 g4 (u3.heap.size) [.slice ntq ntn ntc, .slice nrq nrn nrc, .slice nbq nbn nbc, .slice nmq nmn nmc, .bool no]) := h9
           have ab_4 := Lib.hid (ab_3.out.kept hg9 (by omega))
           have n_4 := Lib.hid (n_3.out.gt hg9 nb_3.out (by decide) (by decide) (by decide))
           have ar_4 := Lib.hid (ar_3.out.gt hg9 nb_3.out (by decide))
           have b_4 := Lib.hid (b_3.out.grown hg9 b_3.out.size (fun k hk => by cases hk; omega))
           clear h9 hg9 b_3 s_3 q_3 nb_3 ab_3 n_3 ar_3)
        | ((with_reducible refine wpList_store_at rfl 35 (.tmp 6) (.tmp 28) rfl (o := 0) (vs := [.int .i64 ae, .slice aq an ac, .int .i64 ak]) rfl rfl ab_4.out (sizeAns _ _ _) (Nat.le_refl _) (ans_one _ _ _ _ _) ?_)
           intro g5 h9 hg9
           have s_5 := Lib.hid (s_4.out.kept hg9 (by omega))
           have q_5 := Lib.hid (q_4.out.kept hg9 (by omega))
           have nb_5 := Lib.hid (nb_4.out.kept hg9 (by omega))
           have ab_5 : Hid (RowV 35 g5 (u3.heap.size + 1) [.int .i64 ae, .slice aq an ac, .int .i64 ak]) := h9
           have n_5 := Lib.hid (n_4.out.gt hg9 ab_4.out (by decide) (by decide) (by decide))
           have ar_5 := Lib.hid (ar_4.out.gt hg9 ab_4.out (by decide))
           have b_5 := Lib.hid (b_4.out.grown hg9 b_4.out.size (fun k hk => by cases hk; omega))
           clear h9 hg9 b_4 s_4 q_4 nb_4 ab_4 n_4 ar_4
           have y0 : g5.cell? ⟨w.heap.size, 0, none⟩ = some (.slice xtq xtn xtc) := s_5.out.cell 0
           have y1 : g5.cell? ⟨w.heap.size, 1, none⟩ = some (.slice xrq xrn xrc) := s_5.out.cell 1
           have y2 : g5.cell? ⟨w.heap.size, 2, none⟩ = some (.slice xbq xbn xbc) := s_5.out.cell 2
           have y3 : g5.cell? ⟨w.heap.size, 3, none⟩ = some (.slice xmq xmn xmc) := s_5.out.cell 3
           have y4 : g5.cell? ⟨w.heap.size, 4, none⟩ = some (.bool xo) := s_5.out.cell 4))
      try clear hV
      clear y0 y1 y2 y3 y4
      obtain ⟨CE, hCE⟩ : ∃ c : Int, (if serB x = true then 0 else 251) = c := ⟨_, rfl⟩
      have hck := checkI_any xtq xtn xtc xrq xrn xrc xbq xbn xbc xmq xmn xmc xo x g5 (hx'.out.below b_5.out (Nat.le_refl _))
      unfold CkPost at hck
      rw [hCE] at hck
      refine hck.mono ?_
      rintro e u4 ⟨rfl, hb⟩
      have hCE' := Lib.hid hCE
      clear hck hCE
      have s_6 := Lib.hid (s_5.out.below hb)
      have q_6 := Lib.hid (q_5.out.below hb)
      have nb_6 := Lib.hid (nb_5.out.below hb)
      have ab_6 := Lib.hid (ab_5.out.below hb)
      have n_6 := Lib.hid (n_5.out.below hb)
      have ar_6 := Lib.hid (ar_5.out.below hb)
      have b_6 := Lib.hid (b_5.out.trans (hb.mono b_5.out.size))
      clear hb s_5 q_5 nb_5 ab_5 n_5 ar_5 b_5
      have y0 : u4.cell? ⟨w.heap.size, 0, none⟩ = some (.slice xtq xtn xtc) := s_6.out.cell 0
      have y1 : u4.cell? ⟨w.heap.size, 1, none⟩ = some (.slice xrq xrn xrc) := s_6.out.cell 1
      go_wp2_with fail
      clear y0 y1
      refine (begin_any xtq xtn xtc xrq xrn xrc x.bs x.rows u4 (hx'.out.below b_6.out (Nat.le_refl _)).sch (hx'.out.below b_6.out (Nat.le_refl _)).sok (hx'.out.below b_6.out (Nat.le_refl _)).rows).mono ?_
      rintro e u5 ⟨⟨ptq, ptn, ptc, prq, prn, prc, pbq, pbn, pbc, pmq, pmn, pmc, po⟩, he, ho, hb⟩
      obtain ⟨CB, hCB⟩ : ∃ c, chkList x.bs x.rows = c := ⟨_, rfl⟩
      rw [hCB] at he
      have he' : e = .returned (.tuple #[.agg #[.slice ptq ptn ptc, .slice prq prn prc, .slice pbq pbn pbc, .slice pmq pmn pmc, .bool po], .int .i64 CB]) := he
      subst he'
      have hCB' := Lib.hid hCB
      obtain ⟨V5, hV⟩ : ∃ V, u5.alloc (.cells #[.slice ptq ptn ptc, .slice prq prn prc, .slice pbq pbn pbc, .slice pmq pmn pmc, .bool po] 46) = V := ⟨_, rfl⟩
      have hbx := one_rowI (xs := [.slice ptq ptn ptc, .slice prq prn prc, .slice pbq pbn pbc, .slice pmq pmn pmc, .bool po]) hV
      have hbV := hb.trans (hbx.1.mono hb.size)
      have s_7 := Lib.hid (s_6.out.below hbV)
      have q_7 := Lib.hid (q_6.out.below hbV)
      have nb_7 := Lib.hid (nb_6.out.below hbV)
      have ab_7 := Lib.hid (ab_6.out.below hbV)
      have n_7 := Lib.hid (n_6.out.below hbV)
      have ar_7 := Lib.hid (ar_6.out.below hbV)
      have b_7 := Lib.hid (b_6.out.trans (hbV.mono b_6.out.size))
      clear s_6 q_6 nb_6 ab_6 n_6 ar_6 b_6
      have bb_7 := Lib.hid hbx.2.1
      have p_7 := Lib.hid (ho.below hbx.1)
      clear he ho hb hbx hbV hCB
      cases hS : okS x.bs with
      | false =>
        have hS' := Lib.hid hS
        clear hS
        have hs' := Lib.hid (sb_S hS'.out)
        obtain rfl : CB = 150 := by rw [← hCB'.out]; unfold chkList; rw [hS'.out]; rfl
        obtain rfl : CE = 251 := by rw [← hCE'.out, hs'.out]; rfl
        have y0 : V5.cell? ⟨w.heap.size, 0, none⟩ = some (.slice xtq xtn xtc) := s_7.out.cell 0
        go_wp2_with fail
        clear y0
        try clear hV
        have hrt := right_any xtq xtn xtc x.bs V5 (hsch.out.below b_7.out (Nat.le_refl _))
        rw [hS'.out] at hrt
        refine hrt.mono ?_
        rintro e u7 ⟨rfl, hb⟩
        clear hrt
        have s_8 := Lib.hid (s_7.out.below hb)
        have q_8 := Lib.hid (q_7.out.below hb)
        have nb_8 := Lib.hid (nb_7.out.below hb)
        have ab_8 := Lib.hid (ab_7.out.below hb)
        have n_8 := Lib.hid (n_7.out.below hb)
        have ar_8 := Lib.hid (ar_7.out.below hb)
        have bb_8 := Lib.hid (bb_7.out.below hb)
        have p_8 := Lib.hid (p_7.out.below hb)
        have b_8 := Lib.hid (b_7.out.trans (hb.mono b_7.out.size))
        clear hb s_7 q_7 nb_7 ab_7 n_7 ar_7 bb_7 p_7 b_7
        have k0 : u7.cell? ⟨u5.heap.size, 0, none⟩ = some (.slice ptq ptn ptc) := bb_8.out.cell 0
        have k1 : u7.cell? ⟨u5.heap.size, 1, none⟩ = some (.slice prq prn prc) := bb_8.out.cell 1
        have k2 : u7.cell? ⟨u5.heap.size, 2, none⟩ = some (.slice pbq pbn pbc) := bb_8.out.cell 2
        have k3 : u7.cell? ⟨u5.heap.size, 3, none⟩ = some (.slice pmq pmn pmc) := bb_8.out.cell 3
        have k4 : u7.cell? ⟨u5.heap.size, 4, none⟩ = some (.bool po) := bb_8.out.cell 4
        go_wp2_with fail
        clear k0 k1 k2 k3 k4
        have hsm := refSer_any ptq ptn ptc prq prn prc pbq pbn pbc pmq pmn pmc po none 0 0 none 0 0 none 0 0 none 0 0 false (begS x.bs x.rows) ⟨[], [], [], [], false⟩ u7 p_8.out.reads ⟨SlOn.none_ _, (fun b hb => by cases hb), RowsOn.none_ _, RowsOn.none_ _, MksOn.none_ _, rfl⟩
        rw [serSame_iff.2 (show begS x.bs x.rows = ⟨[], [], [], [], false⟩ by unfold begS; rw [if_neg (by rw [hCB'.out]; decide)])] at hsm
        refine hsm.mono ?_
        rintro e u8 ⟨rfl, hb⟩
        clear hsm
        have s_9 := Lib.hid (s_8.out.below hb)
        have q_9 := Lib.hid (q_8.out.below hb)
        have nb_9 := Lib.hid (nb_8.out.below hb)
        have ab_9 := Lib.hid (ab_8.out.below hb)
        have n_9 := Lib.hid (n_8.out.below hb)
        have ar_9 := Lib.hid (ar_8.out.below hb)
        have bb_9 := Lib.hid (bb_8.out.below hb)
        have p_9 := Lib.hid (p_8.out.below hb)
        have b_9 := Lib.hid (b_8.out.trans (hb.mono b_8.out.size))
        clear hb s_8 q_8 nb_8 ab_8 n_8 ar_8 bb_8 p_8 b_8
        have y0 : u8.cell? ⟨w.heap.size, 0, none⟩ = some (.slice xtq xtn xtc) := s_9.out.cell 0
        have y1 : u8.cell? ⟨w.heap.size, 1, none⟩ = some (.slice xrq xrn xrc) := s_9.out.cell 1
        have y2 : u8.cell? ⟨w.heap.size, 2, none⟩ = some (.slice xbq xbn xbc) := s_9.out.cell 2
        have y3 : u8.cell? ⟨w.heap.size, 3, none⟩ = some (.slice xmq xmn xmc) := s_9.out.cell 3
        have y4 : u8.cell? ⟨w.heap.size, 4, none⟩ = some (.bool xo) := s_9.out.cell 4
        go_wp2_with fail
        clear y0 y1 y2 y3 y4
        have hrt := rightS_any xtq xtn xtc xrq xrn xrc xbq xbn xbc xmq xmn xmc xo x u8 (hx'.out.below b_9.out (Nat.le_refl _))
        rw [hs'.out] at hrt
        refine hrt.mono ?_
        rintro e u9 ⟨rfl, hb⟩
        clear hrt
        have s_10 := Lib.hid (s_9.out.below hb)
        have q_10 := Lib.hid (q_9.out.below hb)
        have nb_10 := Lib.hid (nb_9.out.below hb)
        have ab_10 := Lib.hid (ab_9.out.below hb)
        have n_10 := Lib.hid (n_9.out.below hb)
        have ar_10 := Lib.hid (ar_9.out.below hb)
        have bb_10 := Lib.hid (bb_9.out.below hb)
        have p_10 := Lib.hid (p_9.out.below hb)
        have b_10 := Lib.hid (b_9.out.trans (hb.mono b_9.out.size))
        clear hb s_9 q_9 nb_9 ab_9 n_9 ar_9 bb_9 p_9 b_9
        have hst : Hid (stpM x ⟨qk, ⟨kt, ki⟩, ⟨tt, ti⟩, qv, qs, qn⟩ = (x, errA 251)) := st251 hs'.out
        have k0 : u9.cell? ⟨u3.heap.size, 0, none⟩ = some (.slice ntq ntn ntc) := nb_10.out.cell 0
        have k1 : u9.cell? ⟨u3.heap.size, 1, none⟩ = some (.slice nrq nrn nrc) := nb_10.out.cell 1
        have k2 : u9.cell? ⟨u3.heap.size, 2, none⟩ = some (.slice nbq nbn nbc) := nb_10.out.cell 2
        have k3 : u9.cell? ⟨u3.heap.size, 3, none⟩ = some (.slice nmq nmn nmc) := nb_10.out.cell 3
        have k4 : u9.cell? ⟨u3.heap.size, 4, none⟩ = some (.bool no) := nb_10.out.cell 4
        have y0 : u9.cell? ⟨w.heap.size, 0, none⟩ = some (.slice xtq xtn xtc) := s_10.out.cell 0
        have y1 : u9.cell? ⟨w.heap.size, 1, none⟩ = some (.slice xrq xrn xrc) := s_10.out.cell 1
        have y2 : u9.cell? ⟨w.heap.size, 2, none⟩ = some (.slice xbq xbn xbc) := s_10.out.cell 2
        have y3 : u9.cell? ⟨w.heap.size, 3, none⟩ = some (.slice xmq xmn xmc) := s_10.out.cell 3
        have y4 : u9.cell? ⟨w.heap.size, 4, none⟩ = some (.bool xo) := s_10.out.cell 4
        go_wp2_with fail
        clear k0 y0 k1 y1 k2 y2 k3 y3 k4 y4
        have hsm := refSer_any ntq ntn ntc nrq nrn nrc nbq nbn nbc nmq nmn nmc no xtq xtn xtc xrq xrn xrc xbq xbn xbc xmq xmn xmc xo (stpM x ⟨qk, ⟨kt, ki⟩, ⟨tt, ti⟩, qv, qs, qn⟩).1 x u9 n_10.out.reads (hx'.out.below b_10.out (Nat.le_refl _))
        rw [serSame_iff.2 (show (stpM x ⟨qk, ⟨kt, ki⟩, ⟨tt, ti⟩, qv, qs, qn⟩).1 = x by rw [hst.out])] at hsm
        refine hsm.mono ?_
        rintro e x1 ⟨rfl, hb⟩
        clear hsm
        have s_11 := Lib.hid (s_10.out.below hb)
        have q_11 := Lib.hid (q_10.out.below hb)
        have nb_11 := Lib.hid (nb_10.out.below hb)
        have ab_11 := Lib.hid (ab_10.out.below hb)
        have n_11 := Lib.hid (n_10.out.below hb)
        have ar_11 := Lib.hid (ar_10.out.below hb)
        have bb_11 := Lib.hid (bb_10.out.below hb)
        have p_11 := Lib.hid (p_10.out.below hb)
        have b_11 := Lib.hid (b_10.out.trans (hb.mono b_10.out.size))
        clear hb s_10 q_10 nb_10 ab_10 n_10 ar_10 bb_10 p_10 b_10
        have c0 : x1.cell? ⟨u3.heap.size + 1, 0, none⟩ = some (.int .i64 ae) := ab_11.out.cell 0
        have c1 : x1.cell? ⟨u3.heap.size + 1, 1, none⟩ = some (.slice aq an ac) := ab_11.out.cell 1
        have c2 : x1.cell? ⟨u3.heap.size + 1, 2, none⟩ = some (.int .i64 ak) := ab_11.out.cell 2
        go_wp2_with fail
        clear c0 c1 c2
        have hsm := ansR_any ae aq an ac ak 251 none 0 0 0 (stpM x ⟨qk, ⟨kt, ki⟩, ⟨tt, ti⟩, qv, qs, qn⟩).2.rows [] x1 ar_11.out.reads (RowsOn.none_ _)
        rw [show ansB ae ak (stpM x ⟨qk, ⟨kt, ki⟩, ⟨tt, ti⟩, qv, qs, qn⟩).2.rows 251 0 [] = true from ansB_of (by rw [hae.out, hst.out]; rfl) (by rw [hak.out, hst.out]; rfl) (by rw [hst.out]; rfl)] at hsm
        refine hsm.mono ?_
        rintro e x2 ⟨rfl, hb⟩
        clear hsm
        have s_12 := Lib.hid (s_11.out.below hb)
        have q_12 := Lib.hid (q_11.out.below hb)
        have nb_12 := Lib.hid (nb_11.out.below hb)
        have ab_12 := Lib.hid (ab_11.out.below hb)
        have n_12 := Lib.hid (n_11.out.below hb)
        have ar_12 := Lib.hid (ar_11.out.below hb)
        have bb_12 := Lib.hid (bb_11.out.below hb)
        have p_12 := Lib.hid (p_11.out.below hb)
        have b_12 := Lib.hid (b_11.out.trans (hb.mono b_11.out.size))
        clear hb s_11 q_11 nb_11 ab_11 n_11 ar_11 bb_11 p_11 b_11
        go_wp2
        go_ret
        exact ⟨rfl, b_12.out⟩
      | true =>
        have hS' := Lib.hid hS
        clear hS
        have y0 : V5.cell? ⟨w.heap.size, 0, none⟩ = some (.slice xtq xtn xtc) := s_7.out.cell 0
        go_wp2_with fail
        clear y0
        try clear hV
        have hrt := right_any xtq xtn xtc x.bs V5 (hsch.out.below b_7.out (Nat.le_refl _))
        rw [hS'.out] at hrt
        refine hrt.mono ?_
        rintro e u7 ⟨rfl, hb⟩
        clear hrt
        have s_13 := Lib.hid (s_7.out.below hb)
        have q_13 := Lib.hid (q_7.out.below hb)
        have nb_13 := Lib.hid (nb_7.out.below hb)
        have ab_13 := Lib.hid (ab_7.out.below hb)
        have n_13 := Lib.hid (n_7.out.below hb)
        have ar_13 := Lib.hid (ar_7.out.below hb)
        have bb_13 := Lib.hid (bb_7.out.below hb)
        have p_13 := Lib.hid (p_7.out.below hb)
        have b_13 := Lib.hid (b_7.out.trans (hb.mono b_7.out.size))
        clear hb s_7 q_7 nb_7 ab_7 n_7 ar_7 bb_7 p_7 b_7
        cases hR : okL x.bs x.rows with
        | false =>
          have hR0 := Lib.hid hR
          clear hR
          have hs' := Lib.hid (sb_R hR0.out)
          obtain rfl : CB = 151 := by rw [← hCB'.out]; unfold chkList; rw [hS'.out, hR0.out]; rfl
          obtain rfl : CE = 251 := by rw [← hCE'.out, hs'.out]; rfl
          have y0 : u7.cell? ⟨w.heap.size, 0, none⟩ = some (.slice xtq xtn xtc) := s_13.out.cell 0
          have y1 : u7.cell? ⟨w.heap.size, 1, none⟩ = some (.slice xrq xrn xrc) := s_13.out.cell 1
          go_wp2_with fail
          clear y0 y1
          have hrt := rightList_any xtq xtn xtc x.bs xrq xrn xrc x.rows u7 (hsch.out.below b_13.out (Nat.le_refl _)) (hx'.out.below b_13.out (Nat.le_refl _)).rows
          rw [hR0.out] at hrt
          refine hrt.mono ?_
          rintro e u71 ⟨rfl, hb⟩
          clear hrt
          have s_14 := Lib.hid (s_13.out.below hb)
          have q_14 := Lib.hid (q_13.out.below hb)
          have nb_14 := Lib.hid (nb_13.out.below hb)
          have ab_14 := Lib.hid (ab_13.out.below hb)
          have n_14 := Lib.hid (n_13.out.below hb)
          have ar_14 := Lib.hid (ar_13.out.below hb)
          have bb_14 := Lib.hid (bb_13.out.below hb)
          have p_14 := Lib.hid (p_13.out.below hb)
          have b_14 := Lib.hid (b_13.out.trans (hb.mono b_13.out.size))
          clear hb s_13 q_13 nb_13 ab_13 n_13 ar_13 bb_13 p_13 b_13
          have k0 : u71.cell? ⟨u5.heap.size, 0, none⟩ = some (.slice ptq ptn ptc) := bb_14.out.cell 0
          have k1 : u71.cell? ⟨u5.heap.size, 1, none⟩ = some (.slice prq prn prc) := bb_14.out.cell 1
          have k2 : u71.cell? ⟨u5.heap.size, 2, none⟩ = some (.slice pbq pbn pbc) := bb_14.out.cell 2
          have k3 : u71.cell? ⟨u5.heap.size, 3, none⟩ = some (.slice pmq pmn pmc) := bb_14.out.cell 3
          have k4 : u71.cell? ⟨u5.heap.size, 4, none⟩ = some (.bool po) := bb_14.out.cell 4
          go_wp2_with fail
          clear k0 k1 k2 k3 k4
          have hsm := refSer_any ptq ptn ptc prq prn prc pbq pbn pbc pmq pmn pmc po none 0 0 none 0 0 none 0 0 none 0 0 false (begS x.bs x.rows) ⟨[], [], [], [], false⟩ u71 p_14.out.reads ⟨SlOn.none_ _, (fun b hb => by cases hb), RowsOn.none_ _, RowsOn.none_ _, MksOn.none_ _, rfl⟩
          rw [serSame_iff.2 (show begS x.bs x.rows = ⟨[], [], [], [], false⟩ by unfold begS; rw [if_neg (by rw [hCB'.out]; decide)])] at hsm
          refine hsm.mono ?_
          rintro e u8 ⟨rfl, hb⟩
          clear hsm
          have s_15 := Lib.hid (s_14.out.below hb)
          have q_15 := Lib.hid (q_14.out.below hb)
          have nb_15 := Lib.hid (nb_14.out.below hb)
          have ab_15 := Lib.hid (ab_14.out.below hb)
          have n_15 := Lib.hid (n_14.out.below hb)
          have ar_15 := Lib.hid (ar_14.out.below hb)
          have bb_15 := Lib.hid (bb_14.out.below hb)
          have p_15 := Lib.hid (p_14.out.below hb)
          have b_15 := Lib.hid (b_14.out.trans (hb.mono b_14.out.size))
          clear hb s_14 q_14 nb_14 ab_14 n_14 ar_14 bb_14 p_14 b_14
          have y0 : u8.cell? ⟨w.heap.size, 0, none⟩ = some (.slice xtq xtn xtc) := s_15.out.cell 0
          have y1 : u8.cell? ⟨w.heap.size, 1, none⟩ = some (.slice xrq xrn xrc) := s_15.out.cell 1
          have y2 : u8.cell? ⟨w.heap.size, 2, none⟩ = some (.slice xbq xbn xbc) := s_15.out.cell 2
          have y3 : u8.cell? ⟨w.heap.size, 3, none⟩ = some (.slice xmq xmn xmc) := s_15.out.cell 3
          have y4 : u8.cell? ⟨w.heap.size, 4, none⟩ = some (.bool xo) := s_15.out.cell 4
          go_wp2_with fail
          clear y0 y1 y2 y3 y4
          have hrt := rightS_any xtq xtn xtc xrq xrn xrc xbq xbn xbc xmq xmn xmc xo x u8 (hx'.out.below b_15.out (Nat.le_refl _))
          rw [hs'.out] at hrt
          refine hrt.mono ?_
          rintro e u9 ⟨rfl, hb⟩
          clear hrt
          have s_16 := Lib.hid (s_15.out.below hb)
          have q_16 := Lib.hid (q_15.out.below hb)
          have nb_16 := Lib.hid (nb_15.out.below hb)
          have ab_16 := Lib.hid (ab_15.out.below hb)
          have n_16 := Lib.hid (n_15.out.below hb)
          have ar_16 := Lib.hid (ar_15.out.below hb)
          have bb_16 := Lib.hid (bb_15.out.below hb)
          have p_16 := Lib.hid (p_15.out.below hb)
          have b_16 := Lib.hid (b_15.out.trans (hb.mono b_15.out.size))
          clear hb s_15 q_15 nb_15 ab_15 n_15 ar_15 bb_15 p_15 b_15
          have hst : Hid (stpM x ⟨qk, ⟨kt, ki⟩, ⟨tt, ti⟩, qv, qs, qn⟩ = (x, errA 251)) := st251 hs'.out
          have k0 : u9.cell? ⟨u3.heap.size, 0, none⟩ = some (.slice ntq ntn ntc) := nb_16.out.cell 0
          have k1 : u9.cell? ⟨u3.heap.size, 1, none⟩ = some (.slice nrq nrn nrc) := nb_16.out.cell 1
          have k2 : u9.cell? ⟨u3.heap.size, 2, none⟩ = some (.slice nbq nbn nbc) := nb_16.out.cell 2
          have k3 : u9.cell? ⟨u3.heap.size, 3, none⟩ = some (.slice nmq nmn nmc) := nb_16.out.cell 3
          have k4 : u9.cell? ⟨u3.heap.size, 4, none⟩ = some (.bool no) := nb_16.out.cell 4
          have y0 : u9.cell? ⟨w.heap.size, 0, none⟩ = some (.slice xtq xtn xtc) := s_16.out.cell 0
          have y1 : u9.cell? ⟨w.heap.size, 1, none⟩ = some (.slice xrq xrn xrc) := s_16.out.cell 1
          have y2 : u9.cell? ⟨w.heap.size, 2, none⟩ = some (.slice xbq xbn xbc) := s_16.out.cell 2
          have y3 : u9.cell? ⟨w.heap.size, 3, none⟩ = some (.slice xmq xmn xmc) := s_16.out.cell 3
          have y4 : u9.cell? ⟨w.heap.size, 4, none⟩ = some (.bool xo) := s_16.out.cell 4
          go_wp2_with fail
          clear k0 y0 k1 y1 k2 y2 k3 y3 k4 y4
          have hsm := refSer_any ntq ntn ntc nrq nrn nrc nbq nbn nbc nmq nmn nmc no xtq xtn xtc xrq xrn xrc xbq xbn xbc xmq xmn xmc xo (stpM x ⟨qk, ⟨kt, ki⟩, ⟨tt, ti⟩, qv, qs, qn⟩).1 x u9 n_16.out.reads (hx'.out.below b_16.out (Nat.le_refl _))
          rw [serSame_iff.2 (show (stpM x ⟨qk, ⟨kt, ki⟩, ⟨tt, ti⟩, qv, qs, qn⟩).1 = x by rw [hst.out])] at hsm
          refine hsm.mono ?_
          rintro e x1 ⟨rfl, hb⟩
          clear hsm
          have s_17 := Lib.hid (s_16.out.below hb)
          have q_17 := Lib.hid (q_16.out.below hb)
          have nb_17 := Lib.hid (nb_16.out.below hb)
          have ab_17 := Lib.hid (ab_16.out.below hb)
          have n_17 := Lib.hid (n_16.out.below hb)
          have ar_17 := Lib.hid (ar_16.out.below hb)
          have bb_17 := Lib.hid (bb_16.out.below hb)
          have p_17 := Lib.hid (p_16.out.below hb)
          have b_17 := Lib.hid (b_16.out.trans (hb.mono b_16.out.size))
          clear hb s_16 q_16 nb_16 ab_16 n_16 ar_16 bb_16 p_16 b_16
          have c0 : x1.cell? ⟨u3.heap.size + 1, 0, none⟩ = some (.int .i64 ae) := ab_17.out.cell 0
          have c1 : x1.cell? ⟨u3.heap.size + 1, 1, none⟩ = some (.slice aq an ac) := ab_17.out.cell 1
          have c2 : x1.cell? ⟨u3.heap.size + 1, 2, none⟩ = some (.int .i64 ak) := ab_17.out.cell 2
          go_wp2_with fail
          clear c0 c1 c2
          have hsm := ansR_any ae aq an ac ak 251 none 0 0 0 (stpM x ⟨qk, ⟨kt, ki⟩, ⟨tt, ti⟩, qv, qs, qn⟩).2.rows [] x1 ar_17.out.reads (RowsOn.none_ _)
          rw [show ansB ae ak (stpM x ⟨qk, ⟨kt, ki⟩, ⟨tt, ti⟩, qv, qs, qn⟩).2.rows 251 0 [] = true from ansB_of (by rw [hae.out, hst.out]; rfl) (by rw [hak.out, hst.out]; rfl) (by rw [hst.out]; rfl)] at hsm
          refine hsm.mono ?_
          rintro e x2 ⟨rfl, hb⟩
          clear hsm
          have s_18 := Lib.hid (s_17.out.below hb)
          have q_18 := Lib.hid (q_17.out.below hb)
          have nb_18 := Lib.hid (nb_17.out.below hb)
          have ab_18 := Lib.hid (ab_17.out.below hb)
          have n_18 := Lib.hid (n_17.out.below hb)
          have ar_18 := Lib.hid (ar_17.out.below hb)
          have bb_18 := Lib.hid (bb_17.out.below hb)
          have p_18 := Lib.hid (p_17.out.below hb)
          have b_18 := Lib.hid (b_17.out.trans (hb.mono b_17.out.size))
          clear hb s_17 q_17 nb_17 ab_17 n_17 ar_17 bb_17 p_17 b_17
          go_wp2
          go_ret
          exact ⟨rfl, b_18.out⟩
        | true =>
          have hR0 := Lib.hid hR
          clear hR
          obtain rfl : CB = 0 := by rw [← hCB'.out]; unfold chkList; rw [hS'.out, hR0.out]; rfl
          have y0 : u7.cell? ⟨w.heap.size, 0, none⟩ = some (.slice xtq xtn xtc) := s_13.out.cell 0
          have y1 : u7.cell? ⟨w.heap.size, 1, none⟩ = some (.slice xrq xrn xrc) := s_13.out.cell 1
          go_wp2_with fail
          clear y0 y1
          have hrt := rightList_any xtq xtn xtc x.bs xrq xrn xrc x.rows u7 (hsch.out.below b_13.out (Nat.le_refl _)) (hx'.out.below b_13.out (Nat.le_refl _)).rows
          rw [hR0.out] at hrt
          refine hrt.mono ?_
          rintro e u71 ⟨rfl, hb⟩
          clear hrt
          have s_19 := Lib.hid (s_13.out.below hb)
          have q_19 := Lib.hid (q_13.out.below hb)
          have nb_19 := Lib.hid (nb_13.out.below hb)
          have ab_19 := Lib.hid (ab_13.out.below hb)
          have n_19 := Lib.hid (n_13.out.below hb)
          have ar_19 := Lib.hid (ar_13.out.below hb)
          have bb_19 := Lib.hid (bb_13.out.below hb)
          have p_19 := Lib.hid (p_13.out.below hb)
          have b_19 := Lib.hid (b_13.out.trans (hb.mono b_13.out.size))
          clear hb s_13 q_13 nb_13 ab_13 n_13 ar_13 bb_13 p_13 b_13
          have k0 : u71.cell? ⟨u5.heap.size, 0, none⟩ = some (.slice ptq ptn ptc) := bb_19.out.cell 0
          have k1 : u71.cell? ⟨u5.heap.size, 1, none⟩ = some (.slice prq prn prc) := bb_19.out.cell 1
          have k2 : u71.cell? ⟨u5.heap.size, 2, none⟩ = some (.slice pbq pbn pbc) := bb_19.out.cell 2
          have k3 : u71.cell? ⟨u5.heap.size, 3, none⟩ = some (.slice pmq pmn pmc) := bb_19.out.cell 3
          have k4 : u71.cell? ⟨u5.heap.size, 4, none⟩ = some (.bool po) := bb_19.out.cell 4
          have y0 : u71.cell? ⟨w.heap.size, 0, none⟩ = some (.slice xtq xtn xtc) := s_19.out.cell 0
          have y1 : u71.cell? ⟨w.heap.size, 1, none⟩ = some (.slice xrq xrn xrc) := s_19.out.cell 1
          go_wp2_with fail
          clear k0 k1 k2 k3 k4 y0 y1
          have hsm := refSer_any ptq ptn ptc prq prn prc pbq pbn pbc pmq pmn pmc po xtq xtn xtc xrq xrn xrc xrq xrn xrc none 0 0 false (begS x.bs x.rows) ⟨x.bs, x.rows, x.rows, [], false⟩ u71 p_19.out.reads ⟨(hx'.out.below b_19.out (Nat.le_refl _)).sch, (hx'.out.below b_19.out (Nat.le_refl _)).sok, (hx'.out.below b_19.out (Nat.le_refl _)).rows, (hx'.out.below b_19.out (Nat.le_refl _)).rows, MksOn.none_ _, rfl⟩
          rw [serSame_iff.2 (show begS x.bs x.rows = ⟨x.bs, x.rows, x.rows, [], false⟩ by unfold begS; rw [if_pos hCB'.out])] at hsm
          refine hsm.mono ?_
          rintro e u8 ⟨rfl, hb⟩
          clear hsm
          have s_20 := Lib.hid (s_19.out.below hb)
          have q_20 := Lib.hid (q_19.out.below hb)
          have nb_20 := Lib.hid (nb_19.out.below hb)
          have ab_20 := Lib.hid (ab_19.out.below hb)
          have n_20 := Lib.hid (n_19.out.below hb)
          have ar_20 := Lib.hid (ar_19.out.below hb)
          have bb_20 := Lib.hid (bb_19.out.below hb)
          have p_20 := Lib.hid (p_19.out.below hb)
          have b_20 := Lib.hid (b_19.out.trans (hb.mono b_19.out.size))
          clear hb s_19 q_19 nb_19 ab_19 n_19 ar_19 bb_19 p_19 b_19
          cases hs : serB x with
          | false =>
            have hs' := Lib.hid hs
            clear hs
            obtain rfl : CE = 251 := by rw [← hCE'.out, hs'.out]; rfl
            have y0 : u8.cell? ⟨w.heap.size, 0, none⟩ = some (.slice xtq xtn xtc) := s_20.out.cell 0
            have y1 : u8.cell? ⟨w.heap.size, 1, none⟩ = some (.slice xrq xrn xrc) := s_20.out.cell 1
            have y2 : u8.cell? ⟨w.heap.size, 2, none⟩ = some (.slice xbq xbn xbc) := s_20.out.cell 2
            have y3 : u8.cell? ⟨w.heap.size, 3, none⟩ = some (.slice xmq xmn xmc) := s_20.out.cell 3
            have y4 : u8.cell? ⟨w.heap.size, 4, none⟩ = some (.bool xo) := s_20.out.cell 4
            go_wp2_with fail
            clear y0 y1 y2 y3 y4
            have hrt := rightS_any xtq xtn xtc xrq xrn xrc xbq xbn xbc xmq xmn xmc xo x u8 (hx'.out.below b_20.out (Nat.le_refl _))
            rw [hs'.out] at hrt
            refine hrt.mono ?_
            rintro e u9 ⟨rfl, hb⟩
            clear hrt
            have s_21 := Lib.hid (s_20.out.below hb)
            have q_21 := Lib.hid (q_20.out.below hb)
            have nb_21 := Lib.hid (nb_20.out.below hb)
            have ab_21 := Lib.hid (ab_20.out.below hb)
            have n_21 := Lib.hid (n_20.out.below hb)
            have ar_21 := Lib.hid (ar_20.out.below hb)
            have bb_21 := Lib.hid (bb_20.out.below hb)
            have p_21 := Lib.hid (p_20.out.below hb)
            have b_21 := Lib.hid (b_20.out.trans (hb.mono b_20.out.size))
            clear hb s_20 q_20 nb_20 ab_20 n_20 ar_20 bb_20 p_20 b_20
            have hst : Hid (stpM x ⟨qk, ⟨kt, ki⟩, ⟨tt, ti⟩, qv, qs, qn⟩ = (x, errA 251)) := st251 hs'.out
            have k0 : u9.cell? ⟨u3.heap.size, 0, none⟩ = some (.slice ntq ntn ntc) := nb_21.out.cell 0
            have k1 : u9.cell? ⟨u3.heap.size, 1, none⟩ = some (.slice nrq nrn nrc) := nb_21.out.cell 1
            have k2 : u9.cell? ⟨u3.heap.size, 2, none⟩ = some (.slice nbq nbn nbc) := nb_21.out.cell 2
            have k3 : u9.cell? ⟨u3.heap.size, 3, none⟩ = some (.slice nmq nmn nmc) := nb_21.out.cell 3
            have k4 : u9.cell? ⟨u3.heap.size, 4, none⟩ = some (.bool no) := nb_21.out.cell 4
            have y0 : u9.cell? ⟨w.heap.size, 0, none⟩ = some (.slice xtq xtn xtc) := s_21.out.cell 0
            have y1 : u9.cell? ⟨w.heap.size, 1, none⟩ = some (.slice xrq xrn xrc) := s_21.out.cell 1
            have y2 : u9.cell? ⟨w.heap.size, 2, none⟩ = some (.slice xbq xbn xbc) := s_21.out.cell 2
            have y3 : u9.cell? ⟨w.heap.size, 3, none⟩ = some (.slice xmq xmn xmc) := s_21.out.cell 3
            have y4 : u9.cell? ⟨w.heap.size, 4, none⟩ = some (.bool xo) := s_21.out.cell 4
            go_wp2_with fail
            clear k0 y0 k1 y1 k2 y2 k3 y3 k4 y4
            have hsm := refSer_any ntq ntn ntc nrq nrn nrc nbq nbn nbc nmq nmn nmc no xtq xtn xtc xrq xrn xrc xbq xbn xbc xmq xmn xmc xo (stpM x ⟨qk, ⟨kt, ki⟩, ⟨tt, ti⟩, qv, qs, qn⟩).1 x u9 n_21.out.reads (hx'.out.below b_21.out (Nat.le_refl _))
            rw [serSame_iff.2 (show (stpM x ⟨qk, ⟨kt, ki⟩, ⟨tt, ti⟩, qv, qs, qn⟩).1 = x by rw [hst.out])] at hsm
            refine hsm.mono ?_
            rintro e x1 ⟨rfl, hb⟩
            clear hsm
            have s_22 := Lib.hid (s_21.out.below hb)
            have q_22 := Lib.hid (q_21.out.below hb)
            have nb_22 := Lib.hid (nb_21.out.below hb)
            have ab_22 := Lib.hid (ab_21.out.below hb)
            have n_22 := Lib.hid (n_21.out.below hb)
            have ar_22 := Lib.hid (ar_21.out.below hb)
            have bb_22 := Lib.hid (bb_21.out.below hb)
            have p_22 := Lib.hid (p_21.out.below hb)
            have b_22 := Lib.hid (b_21.out.trans (hb.mono b_21.out.size))
            clear hb s_21 q_21 nb_21 ab_21 n_21 ar_21 bb_21 p_21 b_21
            have c0 : x1.cell? ⟨u3.heap.size + 1, 0, none⟩ = some (.int .i64 ae) := ab_22.out.cell 0
            have c1 : x1.cell? ⟨u3.heap.size + 1, 1, none⟩ = some (.slice aq an ac) := ab_22.out.cell 1
            have c2 : x1.cell? ⟨u3.heap.size + 1, 2, none⟩ = some (.int .i64 ak) := ab_22.out.cell 2
            go_wp2_with fail
            clear c0 c1 c2
            have hsm := ansR_any ae aq an ac ak 251 none 0 0 0 (stpM x ⟨qk, ⟨kt, ki⟩, ⟨tt, ti⟩, qv, qs, qn⟩).2.rows [] x1 ar_22.out.reads (RowsOn.none_ _)
            rw [show ansB ae ak (stpM x ⟨qk, ⟨kt, ki⟩, ⟨tt, ti⟩, qv, qs, qn⟩).2.rows 251 0 [] = true from ansB_of (by rw [hae.out, hst.out]; rfl) (by rw [hak.out, hst.out]; rfl) (by rw [hst.out]; rfl)] at hsm
            refine hsm.mono ?_
            rintro e x2 ⟨rfl, hb⟩
            clear hsm
            have s_23 := Lib.hid (s_22.out.below hb)
            have q_23 := Lib.hid (q_22.out.below hb)
            have nb_23 := Lib.hid (nb_22.out.below hb)
            have ab_23 := Lib.hid (ab_22.out.below hb)
            have n_23 := Lib.hid (n_22.out.below hb)
            have ar_23 := Lib.hid (ar_22.out.below hb)
            have bb_23 := Lib.hid (bb_22.out.below hb)
            have p_23 := Lib.hid (p_22.out.below hb)
            have b_23 := Lib.hid (b_22.out.trans (hb.mono b_22.out.size))
            clear hb s_22 q_22 nb_22 ab_22 n_22 ar_22 bb_22 p_22 b_22
            go_wp2
            go_ret
            exact ⟨rfl, b_23.out⟩
          | true =>
            have hs' := Lib.hid hs
            clear hs
            obtain rfl : CE = 0 := by rw [← hCE'.out, hs'.out]; rfl
            have y0 : u8.cell? ⟨w.heap.size, 0, none⟩ = some (.slice xtq xtn xtc) := s_20.out.cell 0
            have y1 : u8.cell? ⟨w.heap.size, 1, none⟩ = some (.slice xrq xrn xrc) := s_20.out.cell 1
            have y2 : u8.cell? ⟨w.heap.size, 2, none⟩ = some (.slice xbq xbn xbc) := s_20.out.cell 2
            have y3 : u8.cell? ⟨w.heap.size, 3, none⟩ = some (.slice xmq xmn xmc) := s_20.out.cell 3
            have y4 : u8.cell? ⟨w.heap.size, 4, none⟩ = some (.bool xo) := s_20.out.cell 4
            go_wp2_with fail
            clear y0 y1 y2 y3 y4
            have hrt := rightS_any xtq xtn xtc xrq xrn xrc xbq xbn xbc xmq xmn xmc xo x u8 (hx'.out.below b_20.out (Nat.le_refl _))
            rw [hs'.out] at hrt
            refine hrt.mono ?_
            rintro e u9 ⟨rfl, hb⟩
            clear hrt
            have s_24 := Lib.hid (s_20.out.below hb)
            have q_24 := Lib.hid (q_20.out.below hb)
            have nb_24 := Lib.hid (nb_20.out.below hb)
            have ab_24 := Lib.hid (ab_20.out.below hb)
            have n_24 := Lib.hid (n_20.out.below hb)
            have ar_24 := Lib.hid (ar_20.out.below hb)
            have bb_24 := Lib.hid (bb_20.out.below hb)
            have p_24 := Lib.hid (p_20.out.below hb)
            have b_24 := Lib.hid (b_20.out.trans (hb.mono b_20.out.size))
            clear hb s_20 q_20 nb_20 ab_20 n_20 ar_20 bb_20 p_20 b_20
            have y4 : u9.cell? ⟨w.heap.size, 4, none⟩ = some (.bool xo) := s_24.out.cell 4
            cases xo with
            | true =>
              skip
              have ho' : Hid (x.over = true) := hov.out.symm
              have hst : Hid (stpM x ⟨qk, ⟨kt, ki⟩, ⟨tt, ti⟩, qv, qs, qn⟩ = (x, errA 252)) := st252 hs'.out ho'.out
              have k0 : u9.cell? ⟨u3.heap.size, 0, none⟩ = some (.slice ntq ntn ntc) := nb_24.out.cell 0
              have k1 : u9.cell? ⟨u3.heap.size, 1, none⟩ = some (.slice nrq nrn nrc) := nb_24.out.cell 1
              have k2 : u9.cell? ⟨u3.heap.size, 2, none⟩ = some (.slice nbq nbn nbc) := nb_24.out.cell 2
              have k3 : u9.cell? ⟨u3.heap.size, 3, none⟩ = some (.slice nmq nmn nmc) := nb_24.out.cell 3
              have k4 : u9.cell? ⟨u3.heap.size, 4, none⟩ = some (.bool no) := nb_24.out.cell 4
              have y0 : u9.cell? ⟨w.heap.size, 0, none⟩ = some (.slice xtq xtn xtc) := s_24.out.cell 0
              have y1 : u9.cell? ⟨w.heap.size, 1, none⟩ = some (.slice xrq xrn xrc) := s_24.out.cell 1
              have y2 : u9.cell? ⟨w.heap.size, 2, none⟩ = some (.slice xbq xbn xbc) := s_24.out.cell 2
              have y3 : u9.cell? ⟨w.heap.size, 3, none⟩ = some (.slice xmq xmn xmc) := s_24.out.cell 3
              have y4 : u9.cell? ⟨w.heap.size, 4, none⟩ = some (.bool true) := s_24.out.cell 4
              go_wp2_with fail
              clear k0 y0 k1 y1 k2 y2 k3 y3 k4 y4
              have hsm := refSer_any ntq ntn ntc nrq nrn nrc nbq nbn nbc nmq nmn nmc no xtq xtn xtc xrq xrn xrc xbq xbn xbc xmq xmn xmc true (stpM x ⟨qk, ⟨kt, ki⟩, ⟨tt, ti⟩, qv, qs, qn⟩).1 x u9 n_24.out.reads (hx'.out.below b_24.out (Nat.le_refl _))
              rw [serSame_iff.2 (show (stpM x ⟨qk, ⟨kt, ki⟩, ⟨tt, ti⟩, qv, qs, qn⟩).1 = x by rw [hst.out])] at hsm
              refine hsm.mono ?_
              rintro e x1 ⟨rfl, hb⟩
              clear hsm
              have s_25 := Lib.hid (s_24.out.below hb)
              have q_25 := Lib.hid (q_24.out.below hb)
              have nb_25 := Lib.hid (nb_24.out.below hb)
              have ab_25 := Lib.hid (ab_24.out.below hb)
              have n_25 := Lib.hid (n_24.out.below hb)
              have ar_25 := Lib.hid (ar_24.out.below hb)
              have bb_25 := Lib.hid (bb_24.out.below hb)
              have p_25 := Lib.hid (p_24.out.below hb)
              have b_25 := Lib.hid (b_24.out.trans (hb.mono b_24.out.size))
              clear hb s_24 q_24 nb_24 ab_24 n_24 ar_24 bb_24 p_24 b_24
              have c0 : x1.cell? ⟨u3.heap.size + 1, 0, none⟩ = some (.int .i64 ae) := ab_25.out.cell 0
              have c1 : x1.cell? ⟨u3.heap.size + 1, 1, none⟩ = some (.slice aq an ac) := ab_25.out.cell 1
              have c2 : x1.cell? ⟨u3.heap.size + 1, 2, none⟩ = some (.int .i64 ak) := ab_25.out.cell 2
              go_wp2_with fail
              clear c0 c1 c2
              have hsm := ansR_any ae aq an ac ak 252 none 0 0 0 (stpM x ⟨qk, ⟨kt, ki⟩, ⟨tt, ti⟩, qv, qs, qn⟩).2.rows [] x1 ar_25.out.reads (RowsOn.none_ _)
              rw [show ansB ae ak (stpM x ⟨qk, ⟨kt, ki⟩, ⟨tt, ti⟩, qv, qs, qn⟩).2.rows 252 0 [] = true from ansB_of (by rw [hae.out, hst.out]; rfl) (by rw [hak.out, hst.out]; rfl) (by rw [hst.out]; rfl)] at hsm
              refine hsm.mono ?_
              rintro e x2 ⟨rfl, hb⟩
              clear hsm
              have s_26 := Lib.hid (s_25.out.below hb)
              have q_26 := Lib.hid (q_25.out.below hb)
              have nb_26 := Lib.hid (nb_25.out.below hb)
              have ab_26 := Lib.hid (ab_25.out.below hb)
              have n_26 := Lib.hid (n_25.out.below hb)
              have ar_26 := Lib.hid (ar_25.out.below hb)
              have bb_26 := Lib.hid (bb_25.out.below hb)
              have p_26 := Lib.hid (p_25.out.below hb)
              have b_26 := Lib.hid (b_25.out.trans (hb.mono b_25.out.size))
              clear hb s_25 q_25 nb_25 ab_25 n_25 ar_25 bb_25 p_25 b_25
              go_wp2
              go_ret
              exact ⟨rfl, b_26.out⟩
            | false =>
              have ho' : Hid (x.over = false) := hov.out.symm
              obtain ⟨R, hR⟩ : ∃ b, reqB x.bs ⟨qk, ⟨kt, ki⟩, ⟨tt, ti⟩, qv, qs, qn⟩ = b := ⟨_, rfl⟩
              have hrq := rightReq_any qk kt ki tt ti qv qs qn xtq xtn xtc x.bs u9 (hsch.out.below b_24.out (Nat.le_refl _)) hS'.out hsq'.out
              rw [hR] at hrq
              have hrq := Lib.hid hrq
              have hR' := Lib.hid hR
              clear hR
              have y0 : u9.cell? ⟨w.heap.size, 0, none⟩ = some (.slice xtq xtn xtc) := s_24.out.cell 0
              have d0 : u9.cell? ⟨w.heap.size + 1, 0, none⟩ = some (.int .i64 qk) := q_24.out.cell 0
              have d1 : u9.cell? ⟨w.heap.size + 1, 1, none⟩ = some (.int .i64 kt) := q_24.out.cell 1
              have d2 : u9.cell? ⟨w.heap.size + 1, 2, none⟩ = some (.int .u16 ki) := q_24.out.cell 2
              have d3 : u9.cell? ⟨w.heap.size + 1, 3, none⟩ = some (.int .i64 tt) := q_24.out.cell 3
              have d4 : u9.cell? ⟨w.heap.size + 1, 4, none⟩ = some (.int .u16 ti) := q_24.out.cell 4
              have d5 : u9.cell? ⟨w.heap.size + 1, 5, none⟩ = some (.int .i64 qv) := q_24.out.cell 5
              have d6 : u9.cell? ⟨w.heap.size + 1, 6, none⟩ = some (.string qs) := q_24.out.cell 6
              have d7 : u9.cell? ⟨w.heap.size + 1, 7, none⟩ = some (.int .i64 qn) := q_24.out.cell 7
              go_wp2_with fail
              clear y0 y4 d0 d1 d2 d3 d4 d5 d6 d7
              refine hrq.out.mono ?_
              rintro e u10 ⟨rfl, hb⟩
              clear hrq
              have s_27 := Lib.hid (s_24.out.below hb)
              have q_27 := Lib.hid (q_24.out.below hb)
              have nb_27 := Lib.hid (nb_24.out.below hb)
              have ab_27 := Lib.hid (ab_24.out.below hb)
              have n_27 := Lib.hid (n_24.out.below hb)
              have ar_27 := Lib.hid (ar_24.out.below hb)
              have bb_27 := Lib.hid (bb_24.out.below hb)
              have p_27 := Lib.hid (p_24.out.below hb)
              have b_27 := Lib.hid (b_24.out.trans (hb.mono b_24.out.size))
              clear hb s_24 q_24 nb_24 ab_24 n_24 ar_24 bb_24 p_24 b_24
              cases R with
              | false =>
                have hst : Hid (stpM x ⟨qk, ⟨kt, ki⟩, ⟨tt, ti⟩, qv, qs, qn⟩ = (x, errA 250)) := st250 hs'.out ho'.out hR'.out
                have k0 : u10.cell? ⟨u3.heap.size, 0, none⟩ = some (.slice ntq ntn ntc) := nb_27.out.cell 0
                have k1 : u10.cell? ⟨u3.heap.size, 1, none⟩ = some (.slice nrq nrn nrc) := nb_27.out.cell 1
                have k2 : u10.cell? ⟨u3.heap.size, 2, none⟩ = some (.slice nbq nbn nbc) := nb_27.out.cell 2
                have k3 : u10.cell? ⟨u3.heap.size, 3, none⟩ = some (.slice nmq nmn nmc) := nb_27.out.cell 3
                have k4 : u10.cell? ⟨u3.heap.size, 4, none⟩ = some (.bool no) := nb_27.out.cell 4
                have y0 : u10.cell? ⟨w.heap.size, 0, none⟩ = some (.slice xtq xtn xtc) := s_27.out.cell 0
                have y1 : u10.cell? ⟨w.heap.size, 1, none⟩ = some (.slice xrq xrn xrc) := s_27.out.cell 1
                have y2 : u10.cell? ⟨w.heap.size, 2, none⟩ = some (.slice xbq xbn xbc) := s_27.out.cell 2
                have y3 : u10.cell? ⟨w.heap.size, 3, none⟩ = some (.slice xmq xmn xmc) := s_27.out.cell 3
                have y4 : u10.cell? ⟨w.heap.size, 4, none⟩ = some (.bool false) := s_27.out.cell 4
                go_wp2_with fail
                clear k0 y0 k1 y1 k2 y2 k3 y3 k4 y4
                have hsm := refSer_any ntq ntn ntc nrq nrn nrc nbq nbn nbc nmq nmn nmc no xtq xtn xtc xrq xrn xrc xbq xbn xbc xmq xmn xmc false (stpM x ⟨qk, ⟨kt, ki⟩, ⟨tt, ti⟩, qv, qs, qn⟩).1 x u10 n_27.out.reads (hx'.out.below b_27.out (Nat.le_refl _))
                rw [serSame_iff.2 (show (stpM x ⟨qk, ⟨kt, ki⟩, ⟨tt, ti⟩, qv, qs, qn⟩).1 = x by rw [hst.out])] at hsm
                refine hsm.mono ?_
                rintro e x1 ⟨rfl, hb⟩
                clear hsm
                have s_28 := Lib.hid (s_27.out.below hb)
                have q_28 := Lib.hid (q_27.out.below hb)
                have nb_28 := Lib.hid (nb_27.out.below hb)
                have ab_28 := Lib.hid (ab_27.out.below hb)
                have n_28 := Lib.hid (n_27.out.below hb)
                have ar_28 := Lib.hid (ar_27.out.below hb)
                have bb_28 := Lib.hid (bb_27.out.below hb)
                have p_28 := Lib.hid (p_27.out.below hb)
                have b_28 := Lib.hid (b_27.out.trans (hb.mono b_27.out.size))
                clear hb s_27 q_27 nb_27 ab_27 n_27 ar_27 bb_27 p_27 b_27
                have c0 : x1.cell? ⟨u3.heap.size + 1, 0, none⟩ = some (.int .i64 ae) := ab_28.out.cell 0
                have c1 : x1.cell? ⟨u3.heap.size + 1, 1, none⟩ = some (.slice aq an ac) := ab_28.out.cell 1
                have c2 : x1.cell? ⟨u3.heap.size + 1, 2, none⟩ = some (.int .i64 ak) := ab_28.out.cell 2
                go_wp2_with fail
                clear c0 c1 c2
                have hsm := ansR_any ae aq an ac ak 250 none 0 0 0 (stpM x ⟨qk, ⟨kt, ki⟩, ⟨tt, ti⟩, qv, qs, qn⟩).2.rows [] x1 ar_28.out.reads (RowsOn.none_ _)
                rw [show ansB ae ak (stpM x ⟨qk, ⟨kt, ki⟩, ⟨tt, ti⟩, qv, qs, qn⟩).2.rows 250 0 [] = true from ansB_of (by rw [hae.out, hst.out]; rfl) (by rw [hak.out, hst.out]; rfl) (by rw [hst.out]; rfl)] at hsm
                refine hsm.mono ?_
                rintro e x2 ⟨rfl, hb⟩
                clear hsm
                have s_29 := Lib.hid (s_28.out.below hb)
                have q_29 := Lib.hid (q_28.out.below hb)
                have nb_29 := Lib.hid (nb_28.out.below hb)
                have ab_29 := Lib.hid (ab_28.out.below hb)
                have n_29 := Lib.hid (n_28.out.below hb)
                have ar_29 := Lib.hid (ar_28.out.below hb)
                have bb_29 := Lib.hid (bb_28.out.below hb)
                have p_29 := Lib.hid (p_28.out.below hb)
                have b_29 := Lib.hid (b_28.out.trans (hb.mono b_28.out.size))
                clear hb s_28 q_28 nb_28 ab_28 n_28 ar_28 bb_28 p_28 b_28
                go_wp2
                go_ret
                exact ⟨rfl, b_29.out⟩
              | true =>
                have hst : Hid (stpM x ⟨qk, ⟨kt, ki⟩, ⟨tt, ti⟩, qv, qs, qn⟩ = stepW x ⟨qk, ⟨kt, ki⟩, ⟨tt, ti⟩, qv, qs, qn⟩) := st0 hs'.out ho'.out hR'.out
                have y0 : u10.cell? ⟨w.heap.size, 0, none⟩ = some (.slice xtq xtn xtc) := s_27.out.cell 0
                have y1 : u10.cell? ⟨w.heap.size, 1, none⟩ = some (.slice xrq xrn xrc) := s_27.out.cell 1
                have y2 : u10.cell? ⟨w.heap.size, 2, none⟩ = some (.slice xbq xbn xbc) := s_27.out.cell 2
                have y3 : u10.cell? ⟨w.heap.size, 3, none⟩ = some (.slice xmq xmn xmc) := s_27.out.cell 3
                have y4 : u10.cell? ⟨w.heap.size, 4, none⟩ = some (.bool false) := s_27.out.cell 4
                have d0 : u10.cell? ⟨w.heap.size + 1, 0, none⟩ = some (.int .i64 qk) := q_27.out.cell 0
                have d1 : u10.cell? ⟨w.heap.size + 1, 1, none⟩ = some (.int .i64 kt) := q_27.out.cell 1
                have d2 : u10.cell? ⟨w.heap.size + 1, 2, none⟩ = some (.int .u16 ki) := q_27.out.cell 2
                have d3 : u10.cell? ⟨w.heap.size + 1, 3, none⟩ = some (.int .i64 tt) := q_27.out.cell 3
                have d4 : u10.cell? ⟨w.heap.size + 1, 4, none⟩ = some (.int .u16 ti) := q_27.out.cell 4
                have d5 : u10.cell? ⟨w.heap.size + 1, 5, none⟩ = some (.int .i64 qv) := q_27.out.cell 5
                have d6 : u10.cell? ⟨w.heap.size + 1, 6, none⟩ = some (.string qs) := q_27.out.cell 6
                have d7 : u10.cell? ⟨w.heap.size + 1, 7, none⟩ = some (.int .i64 qn) := q_27.out.cell 7
                go_wp2_with fail
                clear y0 y1 y2 y3 y4 d0 d1 d2 d3 d4 d5 d6 d7
                refine (refStep_any xtq xtn xtc xrq xrn xrc xbq xbn xbc xmq xmn xmc false qk kt ki tt ti qv qs qn x u10 (hx'.out.below b_27.out (Nat.le_refl _)) hs'.out hq'.out hR'.out).mono ?_
                rintro e x1 ⟨⟨gtq, gtn, gtc, grq, grn, grc, gbq, gbn, gbc, gmq, gmn, gmc, go⟩, ⟨ce, cq, cn, cc, ck⟩, he, hv, hce, hck, hcr, hb⟩
                have he' : e = .returned (.tuple #[.agg #[.slice gtq gtn gtc, .slice grq grn grc, .slice gbq gbn gbc, .slice gmq gmn gmc, .bool go], .agg #[.int .i64 ce, .slice cq cn cc, .int .i64 ck]]) := he
                subst he'
                obtain ⟨V7, hV⟩ : ∃ V, (x1.alloc (.cells #[.slice none 0 0, .slice none 0 0, .slice none 0 0, .slice none 0 0, .bool false] 46)).alloc (.cells #[.int .i64 0, .slice none 0 0, .int .i64 0] 35) = V := ⟨_, rfl⟩
                have hbx := two_rowsI (xs := [.slice none 0 0, .slice none 0 0, .slice none 0 0, .slice none 0 0, .bool false]) (ys := [.int .i64 0, .slice none 0 0, .int .i64 0]) hV
                have hbV := hb.trans (hbx.1.mono hb.size)
                have hx1 : u3.heap.size + 2 ≤ x1.heap.size := by have h1 := ab_27.out.lt; have h2 := hb.size; omega
                have hx2 : u5.heap.size + 1 ≤ x1.heap.size := by have h1 := bb_27.out.lt; have h2 := hb.size; omega
                have s_30 := Lib.hid (s_27.out.below hbV)
                have q_30 := Lib.hid (q_27.out.below hbV)
                have nb_30 := Lib.hid (nb_27.out.below hbV)
                have ab_30 := Lib.hid (ab_27.out.below hbV)
                have n_30 := Lib.hid (n_27.out.below hbV)
                have ar_30 := Lib.hid (ar_27.out.below hbV)
                have bb_30 := Lib.hid (bb_27.out.below hbV)
                have p_30 := Lib.hid (p_27.out.below hbV)
                have b_30 := Lib.hid (b_27.out.trans (hbV.mono b_27.out.size))
                clear s_27 q_27 nb_27 ab_27 n_27 ar_27 bb_27 p_27 b_27
                have wb_30 := Lib.hid hbx.2.1
                have cb_30 := Lib.hid hbx.2.2.1
                have bx_30 := Lib.hid hbx.1
                have hv' := Lib.hid hv
                have hcr' := Lib.hid hcr
                have hce' := Lib.hid hce
                have hck' := Lib.hid hck
                clear he hv hce hck hcr hb hbx hbV
                go_wp2_with (first
                  | ((with_reducible refine wpList_store_at rfl 46 (.tmp 11) (.tmp 123) rfl (o := 0) (vs := [.slice gtq gtn gtc, .slice grq grn grc, .slice gbq gbn gbc, .slice gmq gmn gmc, .bool go]) rfl rfl wb_30.out (sizeSer _ _ _ _ _) (Nat.le_refl _) (ser_one' _ _ _ _ _ _ _ _ _ _ _ _ _) ?_)
                     intro g31 h9 hg9
                     have s_31 := Lib.hid (s_30.out.kept hg9 (by omega))
                     have q_31 := Lib.hid (q_30.out.kept hg9 (by omega))
                     have nb_31 := Lib.hid (nb_30.out.kept hg9 (by omega))
                     have ab_31 := Lib.hid (ab_30.out.kept hg9 (by omega))
                     have n_31 := Lib.hid (n_30.out.gt hg9 wb_30.out (by decide) (by decide) (by decide))
                     have ar_31 := Lib.hid (ar_30.out.gt hg9 wb_30.out (by decide))
                     have wb_31 : Hid (RowV 46 g31 (x1.heap.size) [.slice gtq gtn gtc, .slice grq grn grc, .slice gbq gbn gbc, .slice gmq gmn gmc, .bool go]) := h9
                     have cb_31 := Lib.hid (cb_30.out.kept hg9 (by omega))
                     have bx_31 := Lib.hid (bx_30.out.grown hg9 bx_30.out.size (fun k hk => by cases hk; omega))
                     have b_31 := Lib.hid (b_30.out.grown hg9 b_30.out.size (fun k hk => by cases hk; omega))
                     clear h9 hg9 b_30 s_30 q_30 nb_30 ab_30 n_30 ar_30 wb_30 cb_30 bx_30)
                  | ((with_reducible refine wpList_store_at rfl 35 (.tmp 12) (.tmp 124) rfl (o := 0) (vs := [.int .i64 ce, .slice cq cn cc, .int .i64 ck]) rfl rfl cb_31.out (sizeAns _ _ _) (Nat.le_refl _) (ans_one _ _ _ _ _) ?_)
                     intro g32 h9 hg9
                     have s_32 := Lib.hid (s_31.out.kept hg9 (by omega))
                     have q_32 := Lib.hid (q_31.out.kept hg9 (by omega))
                     have nb_32 := Lib.hid (nb_31.out.kept hg9 (by omega))
                     have ab_32 := Lib.hid (ab_31.out.kept hg9 (by omega))
                     have n_32 := Lib.hid (n_31.out.gt hg9 cb_31.out (by decide) (by decide) (by decide))
                     have ar_32 := Lib.hid (ar_31.out.gt hg9 cb_31.out (by decide))
                     have wb_32 := Lib.hid (wb_31.out.kept hg9 (by omega))
                     have cb_32 : Hid (RowV 35 g32 (x1.heap.size + 1) [.int .i64 ce, .slice cq cn cc, .int .i64 ck]) := h9
                     have bx_32 := Lib.hid (bx_31.out.grown hg9 bx_31.out.size (fun k hk => by cases hk; omega))
                     have b_32 := Lib.hid (b_31.out.grown hg9 b_31.out.size (fun k hk => by cases hk; omega))
                     clear h9 hg9 b_31 s_31 q_31 nb_31 ab_31 n_31 ar_31 wb_31 cb_31 bx_31
                     have k0 : g32.cell? ⟨u3.heap.size, 0, none⟩ = some (.slice ntq ntn ntc) := nb_32.out.cell 0
                     have k1 : g32.cell? ⟨u3.heap.size, 1, none⟩ = some (.slice nrq nrn nrc) := nb_32.out.cell 1
                     have k2 : g32.cell? ⟨u3.heap.size, 2, none⟩ = some (.slice nbq nbn nbc) := nb_32.out.cell 2
                     have k3 : g32.cell? ⟨u3.heap.size, 3, none⟩ = some (.slice nmq nmn nmc) := nb_32.out.cell 3
                     have k4 : g32.cell? ⟨u3.heap.size, 4, none⟩ = some (.bool no) := nb_32.out.cell 4
                     have l0 : g32.cell? ⟨x1.heap.size, 0, none⟩ = some (.slice gtq gtn gtc) := wb_32.out.cell 0
                     have l1 : g32.cell? ⟨x1.heap.size, 1, none⟩ = some (.slice grq grn grc) := wb_32.out.cell 1
                     have l2 : g32.cell? ⟨x1.heap.size, 2, none⟩ = some (.slice gbq gbn gbc) := wb_32.out.cell 2
                     have l3 : g32.cell? ⟨x1.heap.size, 3, none⟩ = some (.slice gmq gmn gmc) := wb_32.out.cell 3
                     have l4 : g32.cell? ⟨x1.heap.size, 4, none⟩ = some (.bool go) := wb_32.out.cell 4))
                have v_32 := Lib.hid (hv'.out.below bx_32.out (Nat.le_refl _))
                have cr_32 := Lib.hid (hcr'.out.below bx_32.out (Nat.le_refl _))
                clear bx_32
                try clear hV
                clear k0 l0 k1 l1 k2 l2 k3 l3 k4 l4
                have hsm := refSer_any ntq ntn ntc nrq nrn nrc nbq nbn nbc nmq nmn nmc no gtq gtn gtc grq grn grc gbq gbn gbc gmq gmn gmc go (stpM x ⟨qk, ⟨kt, ki⟩, ⟨tt, ti⟩, qv, qs, qn⟩).1 (stepW x ⟨qk, ⟨kt, ki⟩, ⟨tt, ti⟩, qv, qs, qn⟩).1 g32 n_32.out.reads v_32.out
                rw [serSame_iff.2 (show (stpM x ⟨qk, ⟨kt, ki⟩, ⟨tt, ti⟩, qv, qs, qn⟩).1 = (stepW x ⟨qk, ⟨kt, ki⟩, ⟨tt, ti⟩, qv, qs, qn⟩).1 by rw [hst.out])] at hsm
                refine hsm.mono ?_
                rintro e x2 ⟨rfl, hb⟩
                clear hsm
                have s_33 := Lib.hid (s_32.out.below hb)
                have q_33 := Lib.hid (q_32.out.below hb)
                have nb_33 := Lib.hid (nb_32.out.below hb)
                have ab_33 := Lib.hid (ab_32.out.below hb)
                have n_33 := Lib.hid (n_32.out.below hb)
                have ar_33 := Lib.hid (ar_32.out.below hb)
                have wb_33 := Lib.hid (wb_32.out.below hb)
                have cb_33 := Lib.hid (cb_32.out.below hb)
                have v_33 := Lib.hid (v_32.out.below hb (Nat.le_refl _))
                have cr_33 := Lib.hid (cr_32.out.below hb (Nat.le_refl _))
                have b_33 := Lib.hid (b_32.out.trans (hb.mono b_32.out.size))
                clear hb s_32 q_32 nb_32 ab_32 n_32 ar_32 wb_32 cb_32 v_32 cr_32 b_32
                have c0 : x2.cell? ⟨u3.heap.size + 1, 0, none⟩ = some (.int .i64 ae) := ab_33.out.cell 0
                have c1 : x2.cell? ⟨u3.heap.size + 1, 1, none⟩ = some (.slice aq an ac) := ab_33.out.cell 1
                have c2 : x2.cell? ⟨u3.heap.size + 1, 2, none⟩ = some (.int .i64 ak) := ab_33.out.cell 2
                have m0 : x2.cell? ⟨x1.heap.size + 1, 0, none⟩ = some (.int .i64 ce) := cb_33.out.cell 0
                have m1 : x2.cell? ⟨x1.heap.size + 1, 1, none⟩ = some (.slice cq cn cc) := cb_33.out.cell 1
                have m2 : x2.cell? ⟨x1.heap.size + 1, 2, none⟩ = some (.int .i64 ck) := cb_33.out.cell 2
                go_wp2_with fail
                clear c0 c1 c2 m0 m1 m2
                have hsm := ansR_any ae aq an ac ak ce cq cn cc ck (stpM x ⟨qk, ⟨kt, ki⟩, ⟨tt, ti⟩, qv, qs, qn⟩).2.rows (stepW x ⟨qk, ⟨kt, ki⟩, ⟨tt, ti⟩, qv, qs, qn⟩).2.rows x2 ar_33.out.reads cr_33.out
                rw [show ansB ae ak (stpM x ⟨qk, ⟨kt, ki⟩, ⟨tt, ti⟩, qv, qs, qn⟩).2.rows ce ck (stepW x ⟨qk, ⟨kt, ki⟩, ⟨tt, ti⟩, qv, qs, qn⟩).2.rows = true from ansB_of (by rw [hae.out, hst.out]; exact hce'.out.symm) (by rw [hak.out, hst.out]; exact hck'.out.symm) (by rw [hst.out])] at hsm
                refine hsm.mono ?_
                rintro e x3 ⟨rfl, hb⟩
                clear hsm
                have s_34 := Lib.hid (s_33.out.below hb)
                have q_34 := Lib.hid (q_33.out.below hb)
                have nb_34 := Lib.hid (nb_33.out.below hb)
                have ab_34 := Lib.hid (ab_33.out.below hb)
                have n_34 := Lib.hid (n_33.out.below hb)
                have ar_34 := Lib.hid (ar_33.out.below hb)
                have wb_34 := Lib.hid (wb_33.out.below hb)
                have cb_34 := Lib.hid (cb_33.out.below hb)
                have v_34 := Lib.hid (v_33.out.below hb (Nat.le_refl _))
                have cr_34 := Lib.hid (cr_33.out.below hb (Nat.le_refl _))
                have b_34 := Lib.hid (b_33.out.trans (hb.mono b_33.out.size))
                clear hb s_33 q_33 nb_33 ab_33 n_33 ar_33 wb_33 cb_33 v_33 cr_33 b_33
                go_wp2
                go_ret
                exact ⟨rfl, b_34.out⟩

set_option maxRecDepth 1000000 in
theorem steps_lifted (os : Os) (started : os.Started) (H : Type) (enc : TypeId × Value → H) :
    ReturnsInHanded {} Try.checked os 4 .any (Rows.idealStepsSpec.pre6 enc Try.prog Try.f4 Rows.idealStepsRow.domain false) (Rows.idealStepsSpec.post enc Try.prog Try.f4 false true false false) := by
  refine returnsInHanded_of_change (C := Try.checked) own started (by kernel_rfl) Try.func4
    (ChangeSpec.witness6 (enc := enc) (C := Try.checked) false ⟨#[], #[.agg #[.slice none 0 0, .slice none 0 0, .slice none 0 0, .slice none 0 0, .bool false], .agg #[.int .i64 0, .int .i64 0, .int .u16 0, .int .i64 0, .int .u16 0, .int .i64 0, .string ⟨#[]⟩, .int .i64 0]], []⟩ 8 (by kernel_rfl) (by kernel_rfl) (by kernel_rfl) (by kernel_rfl)) ?_
  intro W base args ds gs before hval0 hW _ _
  have hval : ∀ (j : Nat) t v, Try.f4.params[j]? = some t → args[j]? = some v → Value.okWide Try.prog W .any base t v := hval0
  have hW' := hW
  obtain ⟨p, q, hA0, hV, rfl, _, _⟩ := hW
  have hA : DataW.TrodAll enc Try.prog W 0 (fun _ => true) true Try.f4.params.toList args.toList ds p := hA0
  rw [Try.params4] at hA hval
  obtain ⟨v0, v1, d0, d1, p0, p1, rfl, rfl, rfl, h0, h1⟩ := trodAll_two hA
  obtain ⟨rfl, rfl⟩ := trodVars_none hV
  obtain ⟨y0, x0, rfl, hc0⟩ := open_ser (hval 0 46 v0 rfl rfl) h0
  obtain ⟨a1, rfl, ha1⟩ := open_req (hval 1 30 v1 rfl rfl) h1
  refine (steps_law y0 x0 a1 W hc0 ha1).mono fun e W' ⟨he, hb⟩ => ?_
  subst he
  exact ⟨_, rfl, law_post laidOut (of_decide_eq_true (by kernel_rfl)) rfl (by kernel_rfl) Try.underlying4 hW' ⟨rfl, rfl, rfl⟩ hb⟩

set_option maxRecDepth 1000000 in
theorem steps_holds : Rows.IdealStepsSaid :=
  OpenClaim.holds_of_wide 4 Try.f4 rfl rfl rfl rfl rfl rfl rfl ⟨rfl, rfl, rfl, rfl, rfl⟩ rfl rfl rfl rfl rfl (by kernel_rfl) Try.func4 (by kernel_rfl)
    (of_decide_eq_true (by kernel_rfl)) (by unfold Func.isWrapper; first | (rw [if_pos (by decide +kernel)]; kernel_rfl) | (rw [if_neg (by decide +kernel)]; exact ⟨rfl, rfl⟩))
    (fun os started H enc _ => steps_lifted os started H enc)
end Go.Proofs.Ytkdkncbccofpdaa
