/- IdealAdds: for every schema, rows and two requests the law returns true, and its arguments read as_ they did. No condition. -/
import Derived.Test.YtkdkncbccofpdaaIMd
namespace Go.Proofs.Ytkdkncbccofpdaa
open Go.ChangeShapes Go.WideShapes Go.ChangeAt Go.RowKit Go.Deep Go.Joins
set_option maxRecDepth 100000

theorem cellsReq2 : Try.prog.cellsOf 61 = 16 := by kernel_rfl
section
variable {H : Type} {enc : TypeId × Value → H} {W : World}
theorem open_req2 {r : Reach} {b0 : Nat} {v : Value} {d : DataW H} {p : List MemPlace} (hv : Value.okWide Try.prog W r b0 61 v) (h : DataW.Trod enc Try.prog W 0 (fun _ => true) true 61 v d p) :
    ∃ a b : ReqD, v = .agg (a.cells ++ b.cells).toArray ∧ ReqOk a ∧ ReqOk b := by
  have hv2 : ∃ cs, v = .agg cs ∧ cs.size = 16 := by
    simp only [Value.okWide, Try.underlying61] at hv
    obtain ⟨cs, h1, h2, _⟩ := hv
    exact ⟨cs, h1, h2.trans cellsReq2⟩
  clear hv
  obtain ⟨cs, rfl, hsz⟩ := hv2
  obtain ⟨fuel, hf⟩ := h
  obtain ⟨xs, n, rfl, _, hlen, hxl, hg⟩ := DataW.trod_array Try.underlying61 hf
  have hx2 : xs.length = 2 := hxl
  obtain ⟨l⟩ := cs
  have hl : l.length = 16 := hsz
  have g0 : DataW.trod enc Try.prog W 0 (fun _ => true) true n 30 ((l.drop (0 * Try.prog.cellsOf 30)).take (Try.prog.cellsOf 30)) = xs[0]? := hg 0 (by omega)
  have g1 : DataW.trod enc Try.prog W 0 (fun _ => true) true n 30 ((l.drop (1 * Try.prog.cellsOf 30)).take (Try.prog.cellsOf 30)) = xs[1]? := hg 1 (by omega)
  obtain ⟨y0, e0⟩ := get_some (l := xs) (i := 0) (by omega)
  obtain ⟨y1, e1⟩ := get_some (l := xs) (i := 1) (by omega)
  rw [e0, cellsReq] at g0
  rw [e1, cellsReq] at g1
  obtain ⟨a, ha, oka⟩ := req_cells g0
  obtain ⟨b, hb, okb⟩ := req_cells g1
  refine ⟨a, b, ?_, oka, okb⟩
  rw [← ha, ← hb, Nat.zero_mul, Nat.one_mul, List.drop_zero, List.take_of_length_le (show (l.drop 8).length ≤ 8 by rw [List.length_drop]; omega), List.take_append_drop]
end
def blindB (k : Int) : Bool := k == 7 || k == 8
theorem blindB_iff {k : Int} (h : blindB k = true) : k = 7 ∨ k = 8 := by unfold blindB at h; simpa using h
set_option maxHeartbeats 2000000 in
theorem blind_any (ak akt aki att ati av : Int) (as_ : ByteArray) (an : Int) (w : World) :
    Calls Try.prog 30 #[.agg #[.int .i64 ak, .int .i64 akt, .int .u16 aki, .int .i64 att, .int .u16 ati, .int .i64 av, .string as_, .int .i64 an]] w (RqPost (blindB ak) w) := by
  obtain ⟨W, hW⟩ : ∃ W, w.alloc (.cells #[.int .i64 ak, .int .i64 akt, .int .u16 aki, .int .i64 att, .int .u16 ati, .int .i64 av, .string as_, .int .i64 an] 30) = W := ⟨_, rfl⟩
  have hbx := Lib.hid (one_rowI (xs := [.int .i64 ak, .int .i64 akt, .int .u16 aki, .int .i64 att, .int .u16 ati, .int .i64 av, .string as_, .int .i64 an]) hW)
  have b0 := Lib.hid hbx.out.1
  have y0 : W.cell? ⟨w.heap.size, 0, none⟩ = some (.int .i64 ak) := hbx.out.2.1.cell 0
  by_cases h7 : ak = 7
  · subst h7
    go_enter Try.func30, Try.ntmps30
    go_wp2
    go_ret
    exact ⟨rfl, b0.out⟩
  · have d7 : (ak == 7) = false := by simpa using h7
    have hr : Hid (blindB ak = (ak == 8)) := by show _ = _; unfold blindB; rw [d7]; rfl
    clear h7
    go_enter Try.func30, Try.ntmps30
    go_wp2
    go_ret
    exact ⟨by rw [hr.out]; rfl, b0.out⟩
theorem plus_of {a b c d : Int} (h : a + b = c + d) : plusN a b = plusN c d ∧ fits a b = fits c d := by unfold plusN fits; rw [h]; exact ⟨rfl, rfl⟩

set_option maxHeartbeats 8000000 in
theorem adds_law (tq : Option Addr) (tn tc : Nat) (bs : List BdD) (lq : Option Addr) (ln lc : Nat) (l : List RowD) (qa qb : ReqD) (w : World)
    (hs : SlOn w tq tn tc bs ∧ ∀ b ∈ bs, I64 b.lo ∧ I64 b.hi) (hr : RowsOn w lq ln lc l) (ha : ReqOk qa) (hb : ReqOk qb) :
    Calls Try.prog 8 #[.agg #[.slice tq tn tc], .slice lq ln lc, .agg (qa.cells ++ qb.cells).toArray] w (LwPost w) := by
  obtain ⟨ak, ⟨akt, aki⟩, ⟨att, ati⟩, av, as_, an⟩ := qa
  obtain ⟨bk, ⟨bkt, bki⟩, ⟨btt, bti⟩, bv, bs_, bn⟩ := qb
  show Calls _ _ #[.agg #[.slice tq tn tc], .slice lq ln lc, .agg #[.int .i64 ak, .int .i64 akt, .int .u16 aki, .int .i64 att, .int .u16 ati, .int .i64 av, .string as_, .int .i64 an, .int .i64 bk, .int .i64 bkt, .int .u16 bki, .int .i64 btt, .int .u16 bti, .int .i64 bv, .string bs_, .int .i64 bn]] _ _
  obtain ⟨W, hW⟩ : ∃ W, (w.alloc (.cells #[.slice tq tn tc] 24)).alloc (.cells #[.int .i64 ak, .int .i64 akt, .int .u16 aki, .int .i64 att, .int .u16 ati, .int .i64 av, .string as_, .int .i64 an, .int .i64 bk, .int .i64 bkt, .int .u16 bki, .int .i64 btt, .int .u16 bti, .int .i64 bv, .string bs_, .int .i64 bn] 61) = W := ⟨_, rfl⟩
  have hbx := Lib.hid (two_rowsI (xs := [.slice tq tn tc]) (ys := [.int .i64 ak, .int .i64 akt, .int .u16 aki, .int .i64 att, .int .u16 ati, .int .i64 av, .string as_, .int .i64 an, .int .i64 bk, .int .i64 bkt, .int .u16 bki, .int .i64 btt, .int .u16 bti, .int .i64 bv, .string bs_, .int .i64 bn]) hW)
  have b_0 := Lib.hid hbx.out.1
  have s_0 := Lib.hid hbx.out.2.1
  have a_0 := Lib.hid hbx.out.2.2.1
  have hs' := Lib.hid hs.1
  have hsk' := Lib.hid hs.2
  have hr' := Lib.hid hr
  have hqa' := Lib.hid ha
  have hqb' := Lib.hid hb
  have htm : tn ≤ maxLen := Nat.le_trans hs.1.le hs.1.cap
  have hlm := Nat.le_trans hr.le hr.cap
  unfold maxLen at hlm
  have hll : Hid (l.length = ln) := hr.len
  have hsa : as_.size ≤ maxLen := ha.note
  have hsb : bs_.size ≤ maxLen := hb.note
  unfold maxLen at hsa hsb
  clear hs hr ha hb hbx
  go_enter Try.func8, Try.ntmps8
  go_wp2_with fail
  clear hW
  refine (wakes_any W).mono ?_
  rintro e u1 ⟨rfl, hb⟩
  have s_1 := Lib.hid (s_0.out.below hb)
  have a_1 := Lib.hid (a_0.out.below hb)
  have b_1 := Lib.hid (b_0.out.trans (hb.mono b_0.out.size))
  clear hb s_0 a_0 b_0
  have y0 : u1.cell? ⟨w.heap.size, 0, none⟩ = some (.slice tq tn tc) := s_1.out.cell 0
  go_wp2_with fail
  clear y0
  refine (over_any tq tn tc lq ln lc l u1 htm (hr'.out.below b_1.out (Nat.le_refl _))).mono ?_
  rintro e u2 ⟨B, rfl, hB, hb⟩
  have s_2 := Lib.hid (s_1.out.below hb)
  have a_2 := Lib.hid (a_1.out.below hb)
  have b_2 := Lib.hid (b_1.out.trans (hb.mono b_1.out.size))
  clear hb s_1 a_1 b_1
  cases B with
  | true =>
    go_wp2
    go_ret
    exact ⟨rfl, b_2.out⟩
  | false =>
    have hln : ln ≤ 100 := (hB rfl).2
    clear hB
    have y6 : u2.cell? ⟨w.heap.size + 1, 6, none⟩ = some (.string as_) := a_2.out.cell 6
    have y14 : u2.cell? ⟨w.heap.size + 1, 14, none⟩ = some (.string bs_) := a_2.out.cell 14
    have y0 : u2.cell? ⟨w.heap.size, 0, none⟩ = some (.slice tq tn tc) := s_2.out.cell 0
    by_cases h1 : 100 < as_.size
    · have d1 : decide ((100 : Int) < as_.size) = true := decide_eq_true (by omega)
      go_wp2
      go_ret
      exact ⟨rfl, b_2.out⟩
    · have d1 : decide ((100 : Int) < as_.size) = false := decide_eq_false (by omega)
      clear h1
      by_cases h1 : 100 < bs_.size
      · have d2 : decide ((100 : Int) < bs_.size) = true := decide_eq_true (by omega)
        go_wp2
        go_ret
        exact ⟨rfl, b_2.out⟩
      · have d2 : decide ((100 : Int) < bs_.size) = false := decide_eq_false (by omega)
        clear h1
        go_wp2_with fail
        clear y0 y6 y14 d1 d2 hsa hsb
        refine (checkList_any tq tn tc bs lq ln lc l u2 ((hs'.out.sch hsk'.out).below b_2.out (Nat.le_refl _)) (hr'.out.below b_2.out (Nat.le_refl _))).mono ?_
        rintro e u3 ⟨rfl, hb⟩
        have s_3 := Lib.hid (s_2.out.below hb)
        have a_3 := Lib.hid (a_2.out.below hb)
        have b_3 := Lib.hid (b_2.out.trans (hb.mono b_2.out.size))
        clear hb s_2 a_2 b_2
        obtain ⟨er, her⟩ : ∃ er, chkList bs l = er := ⟨_, rfl⟩
        rw [her]
        clear her
        by_cases hz : er = 0
        case neg =>
          have e1 : (er != 0) = true := by simpa using hz
          go_wp2
          go_ret
          exact ⟨rfl, b_3.out⟩
        subst hz
        have d0 : u3.cell? ⟨w.heap.size + 1, 0, none⟩ = some (.int .i64 ak) := a_3.out.cell 0
        have d1 : u3.cell? ⟨w.heap.size + 1, 1, none⟩ = some (.int .i64 akt) := a_3.out.cell 1
        have d2 : u3.cell? ⟨w.heap.size + 1, 2, none⟩ = some (.int .u16 aki) := a_3.out.cell 2
        have d3 : u3.cell? ⟨w.heap.size + 1, 3, none⟩ = some (.int .i64 att) := a_3.out.cell 3
        have d4 : u3.cell? ⟨w.heap.size + 1, 4, none⟩ = some (.int .u16 ati) := a_3.out.cell 4
        have d5 : u3.cell? ⟨w.heap.size + 1, 5, none⟩ = some (.int .i64 av) := a_3.out.cell 5
        have d6 : u3.cell? ⟨w.heap.size + 1, 6, none⟩ = some (.string as_) := a_3.out.cell 6
        have d7 : u3.cell? ⟨w.heap.size + 1, 7, none⟩ = some (.int .i64 an) := a_3.out.cell 7
        go_wp2_with fail
        clear d0 d1 d2 d3 d4 d5 d6 d7
        refine (blind_any ak akt aki att ati av as_ an u3).mono ?_
        rintro e u4 ⟨rfl, hb⟩
        have s_4 := Lib.hid (s_3.out.below hb)
        have a_4 := Lib.hid (a_3.out.below hb)
        have b_4 := Lib.hid (b_3.out.trans (hb.mono b_3.out.size))
        clear hb s_3 a_3 b_3
        obtain ⟨C, hC⟩ : ∃ C, blindB ak = C := ⟨_, rfl⟩
        rw [hC]
        have hka := Lib.hid hC
        clear hC
        cases C with
        | false =>
          go_wp2
          go_ret
          exact ⟨rfl, b_4.out⟩
        | true =>
          have d0 : u4.cell? ⟨w.heap.size + 1, 8, none⟩ = some (.int .i64 bk) := a_4.out.cell 8
          have d1 : u4.cell? ⟨w.heap.size + 1, 9, none⟩ = some (.int .i64 bkt) := a_4.out.cell 9
          have d2 : u4.cell? ⟨w.heap.size + 1, 10, none⟩ = some (.int .u16 bki) := a_4.out.cell 10
          have d3 : u4.cell? ⟨w.heap.size + 1, 11, none⟩ = some (.int .i64 btt) := a_4.out.cell 11
          have d4 : u4.cell? ⟨w.heap.size + 1, 12, none⟩ = some (.int .u16 bti) := a_4.out.cell 12
          have d5 : u4.cell? ⟨w.heap.size + 1, 13, none⟩ = some (.int .i64 bv) := a_4.out.cell 13
          have d6 : u4.cell? ⟨w.heap.size + 1, 14, none⟩ = some (.string bs_) := a_4.out.cell 14
          have d7 : u4.cell? ⟨w.heap.size + 1, 15, none⟩ = some (.int .i64 bn) := a_4.out.cell 15
          go_wp2_with fail
          clear d0 d1 d2 d3 d4 d5 d6 d7
          refine (blind_any bk bkt bki btt bti bv bs_ bn u4).mono ?_
          rintro e u5 ⟨rfl, hb⟩
          have s_5 := Lib.hid (s_4.out.below hb)
          have a_5 := Lib.hid (a_4.out.below hb)
          have b_5 := Lib.hid (b_4.out.trans (hb.mono b_4.out.size))
          clear hb s_4 a_4 b_4
          obtain ⟨C, hC⟩ : ∃ C, blindB bk = C := ⟨_, rfl⟩
          rw [hC]
          have hkb := Lib.hid hC
          clear hC
          cases C with
          | false =>
            go_wp2
            go_ret
            exact ⟨rfl, b_5.out⟩
          | true =>
            have y0 : u5.cell? ⟨w.heap.size, 0, none⟩ = some (.slice tq tn tc) := s_5.out.cell 0
            have d0 : u5.cell? ⟨w.heap.size + 1, 0, none⟩ = some (.int .i64 ak) := a_5.out.cell 0
            have d1 : u5.cell? ⟨w.heap.size + 1, 1, none⟩ = some (.int .i64 akt) := a_5.out.cell 1
            have d2 : u5.cell? ⟨w.heap.size + 1, 2, none⟩ = some (.int .u16 aki) := a_5.out.cell 2
            have d3 : u5.cell? ⟨w.heap.size + 1, 3, none⟩ = some (.int .i64 att) := a_5.out.cell 3
            have d4 : u5.cell? ⟨w.heap.size + 1, 4, none⟩ = some (.int .u16 ati) := a_5.out.cell 4
            have d5 : u5.cell? ⟨w.heap.size + 1, 5, none⟩ = some (.int .i64 av) := a_5.out.cell 5
            have d6 : u5.cell? ⟨w.heap.size + 1, 6, none⟩ = some (.string as_) := a_5.out.cell 6
            have d7 : u5.cell? ⟨w.heap.size + 1, 7, none⟩ = some (.int .i64 an) := a_5.out.cell 7
            go_wp2_with fail
            clear y0 d0 d1 d2 d3 d4 d5 d6 d7
            refine (do_any tq tn tc lq ln lc ak akt aki att ati av as_ an bs l u5 (hs'.out.below b_5.out (Nat.le_refl _)) hsk'.out (hr'.out.below b_5.out (Nat.le_refl _)) (by omega) hqa'.out).mono ?_
            rintro e u6 ⟨xq, xn, xc, ⟨ze, zq, zn, zc, zk⟩, he, ho, hz, hb⟩
            have he' : e = .returned (.tuple #[.slice xq xn xc, .agg #[.int .i64 ze, .slice zq zn zc, .int .i64 zk]]) := he
            subst he'
            obtain ⟨V0, hV0⟩ : ∃ V, u6.alloc (.cells #[.int .i64 ze, .slice zq zn zc, .int .i64 zk] 35) = V := ⟨_, rfl⟩
            have hb1 := (one_rowI (xs := [.int .i64 ze, .slice zq zn zc, .int .i64 zk]) hV0).1
            have aV := Lib.hid (a_5.out.below (hb.trans (hb1.mono hb.size)))
            have d0 : (u6.alloc (.cells #[.int .i64 ze, .slice zq zn zc, .int .i64 zk] 35)).cell? ⟨w.heap.size + 1, 0, none⟩ = some (.int .i64 ak) := by rw [hV0]; exact aV.out.cell 0
            have d1 : (u6.alloc (.cells #[.int .i64 ze, .slice zq zn zc, .int .i64 zk] 35)).cell? ⟨w.heap.size + 1, 1, none⟩ = some (.int .i64 akt) := by rw [hV0]; exact aV.out.cell 1
            have d2 : (u6.alloc (.cells #[.int .i64 ze, .slice zq zn zc, .int .i64 zk] 35)).cell? ⟨w.heap.size + 1, 2, none⟩ = some (.int .u16 aki) := by rw [hV0]; exact aV.out.cell 2
            have d3 : (u6.alloc (.cells #[.int .i64 ze, .slice zq zn zc, .int .i64 zk] 35)).cell? ⟨w.heap.size + 1, 3, none⟩ = some (.int .i64 att) := by rw [hV0]; exact aV.out.cell 3
            have d4 : (u6.alloc (.cells #[.int .i64 ze, .slice zq zn zc, .int .i64 zk] 35)).cell? ⟨w.heap.size + 1, 4, none⟩ = some (.int .u16 ati) := by rw [hV0]; exact aV.out.cell 4
            have d5 : (u6.alloc (.cells #[.int .i64 ze, .slice zq zn zc, .int .i64 zk] 35)).cell? ⟨w.heap.size + 1, 5, none⟩ = some (.int .i64 av) := by rw [hV0]; exact aV.out.cell 5
            have d6 : (u6.alloc (.cells #[.int .i64 ze, .slice zq zn zc, .int .i64 zk] 35)).cell? ⟨w.heap.size + 1, 6, none⟩ = some (.string as_) := by rw [hV0]; exact aV.out.cell 6
            have d7 : (u6.alloc (.cells #[.int .i64 ze, .slice zq zn zc, .int .i64 zk] 35)).cell? ⟨w.heap.size + 1, 7, none⟩ = some (.int .i64 an) := by rw [hV0]; exact aV.out.cell 7
            clear aV hb1 hV0
            obtain ⟨V6, hV⟩ : ∃ V, (u6.alloc (.cells #[.int .i64 ze, .slice zq zn zc, .int .i64 zk] 35)).alloc (.cells #[.int .i64 ak, .int .i64 akt, .int .u16 aki, .int .i64 att, .int .u16 ati, .int .i64 av, .string as_, .int .i64 an] 30) = V := ⟨_, rfl⟩
            have hbx := two_rowsI (xs := [.int .i64 ze, .slice zq zn zc, .int .i64 zk]) (ys := [.int .i64 ak, .int .i64 akt, .int .u16 aki, .int .i64 att, .int .u16 ati, .int .i64 av, .string as_, .int .i64 an]) hV
            have hbV := hb.trans (hbx.1.mono hb.size)
            have s_6 := Lib.hid (s_5.out.below hbV)
            have a_6 := Lib.hid (a_5.out.below hbV)
            have b_6 := Lib.hid (b_5.out.trans (hbV.mono b_5.out.size))
            have zb_6 := Lib.hid hbx.2.1
            have rq_6 := Lib.hid hbx.2.2.1
            have xo_6 := Lib.hid (ho.below hbx.1)
            have hz : Hid (ze = (doM bs l (⟨ak, ⟨akt, aki⟩, ⟨att, ati⟩, av, as_, an⟩ : ReqD)).2.e) := hz.e
            clear he ho hb hbx hbV s_5 a_5 b_5
            have hxl : Hid (xn = ln) := by
              show _ = _
              have h1 := xo_6.out.reads.len
              rw [do_len (blindB_iff hka.out), hll.out] at h1
              exact h1.symm
            have cz : V6.cell? ⟨u6.heap.size, 0, none⟩ = some (.int .i64 ze) := zb_6.out.cell 0
            have c0 : V6.cell? ⟨u6.heap.size + 1, 0, none⟩ = some (.int .i64 ak) := rq_6.out.cell 0
            by_cases h1 : ze = 0
            case neg =>
              have d1 : (ze == 0) = false := by simpa using h1
              clear h1
              have hd : Hid True := trivial
              have y0 : V6.cell? ⟨w.heap.size, 0, none⟩ = some (.slice tq tn tc) := s_6.out.cell 0
              have d0 : V6.cell? ⟨w.heap.size + 1, 8, none⟩ = some (.int .i64 bk) := a_6.out.cell 8
              have d1 : V6.cell? ⟨w.heap.size + 1, 9, none⟩ = some (.int .i64 bkt) := a_6.out.cell 9
              have d2 : V6.cell? ⟨w.heap.size + 1, 10, none⟩ = some (.int .u16 bki) := a_6.out.cell 10
              have d3 : V6.cell? ⟨w.heap.size + 1, 11, none⟩ = some (.int .i64 btt) := a_6.out.cell 11
              have d4 : V6.cell? ⟨w.heap.size + 1, 12, none⟩ = some (.int .u16 bti) := a_6.out.cell 12
              have d5 : V6.cell? ⟨w.heap.size + 1, 13, none⟩ = some (.int .i64 bv) := a_6.out.cell 13
              have d6 : V6.cell? ⟨w.heap.size + 1, 14, none⟩ = some (.string bs_) := a_6.out.cell 14
              have d7 : V6.cell? ⟨w.heap.size + 1, 15, none⟩ = some (.int .i64 bn) := a_6.out.cell 15
              go_wp2_with fail
              clear y0 d0 d1 d2 d3 d4 d5 d6 d7
              try clear hV
              refine (do_any tq tn tc xq xn xc bk bkt bki btt bti bv bs_ bn bs (doM bs l (⟨ak, ⟨akt, aki⟩, ⟨att, ati⟩, av, as_, an⟩ : ReqD)).1 V6 (hs'.out.below b_6.out (Nat.le_refl _)) hsk'.out xo_6.out.reads (by have := hxl.out; omega) hqb'.out).mono ?_
              rintro e u7 ⟨mq, mn, mc, ⟨fe, fq, fn, fc, fk⟩, he, ho, hz, hb⟩
              have he' : e = .returned (.tuple #[.slice mq mn mc, .agg #[.int .i64 fe, .slice fq fn fc, .int .i64 fk]]) := he
              subst he'
              obtain ⟨Vu7, hV⟩ : ∃ V, u7.alloc (.cells #[.int .i64 fe, .slice fq fn fc, .int .i64 fk] 35) = V := ⟨_, rfl⟩
              have hbx := one_rowI (xs := [.int .i64 fe, .slice fq fn fc, .int .i64 fk]) hV
              have hbV := hb.trans (hbx.1.mono hb.size)
              have s_7 := Lib.hid (s_6.out.below hbV)
              have a_7 := Lib.hid (a_6.out.below hbV)
              have zb_7 := Lib.hid (zb_6.out.below hbV)
              have rq_7 := Lib.hid (rq_6.out.below hbV)
              have xo_7 := Lib.hid (xo_6.out.below hbV)
              have b_7 := Lib.hid (b_6.out.trans (hbV.mono b_6.out.size))
              have fb_7 := Lib.hid hbx.2.1
              have mo_7 := Lib.hid (ho.below hbx.1)
              have hf : Hid (fe = (doM bs (doM bs l (⟨ak, ⟨akt, aki⟩, ⟨att, ati⟩, av, as_, an⟩ : ReqD)).1 (⟨bk, ⟨bkt, bki⟩, ⟨btt, bti⟩, bv, bs_, bn⟩ : ReqD)).2.e) := hz.e
              clear he ho hz hb hbx hbV s_6 a_6 zb_6 rq_6 xo_6 b_6
              have y0 : Vu7.cell? ⟨w.heap.size, 0, none⟩ = some (.slice tq tn tc) := s_7.out.cell 0
              have d0 : Vu7.cell? ⟨w.heap.size + 1, 8, none⟩ = some (.int .i64 bk) := a_7.out.cell 8
              have d1 : Vu7.cell? ⟨w.heap.size + 1, 9, none⟩ = some (.int .i64 bkt) := a_7.out.cell 9
              have d2 : Vu7.cell? ⟨w.heap.size + 1, 10, none⟩ = some (.int .u16 bki) := a_7.out.cell 10
              have d3 : Vu7.cell? ⟨w.heap.size + 1, 11, none⟩ = some (.int .i64 btt) := a_7.out.cell 11
              have d4 : Vu7.cell? ⟨w.heap.size + 1, 12, none⟩ = some (.int .u16 bti) := a_7.out.cell 12
              have d5 : Vu7.cell? ⟨w.heap.size + 1, 13, none⟩ = some (.int .i64 bv) := a_7.out.cell 13
              have d6 : Vu7.cell? ⟨w.heap.size + 1, 14, none⟩ = some (.string bs_) := a_7.out.cell 14
              have d7 : Vu7.cell? ⟨w.heap.size + 1, 15, none⟩ = some (.int .i64 bn) := a_7.out.cell 15
              go_wp2_with fail
              clear y0 d0 d1 d2 d3 d4 d5 d6 d7
              try clear hV
              refine (do_any tq tn tc lq ln lc bk bkt bki btt bti bv bs_ bn bs l Vu7 (hs'.out.below b_7.out (Nat.le_refl _)) hsk'.out (hr'.out.below b_7.out (Nat.le_refl _)) (by omega) hqb'.out).mono ?_
              rintro e u8 ⟨yq, yn, yc, ⟨ge, gq, gn, gc, gk⟩, he, ho, hz, hb⟩
              have he' : e = .returned (.tuple #[.slice yq yn yc, .agg #[.int .i64 ge, .slice gq gn gc, .int .i64 gk]]) := he
              subst he'
              obtain ⟨Vu8, hV⟩ : ∃ V, u8.alloc (.cells #[.int .i64 ge, .slice gq gn gc, .int .i64 gk] 35) = V := ⟨_, rfl⟩
              have hbx := one_rowI (xs := [.int .i64 ge, .slice gq gn gc, .int .i64 gk]) hV
              have hbV := hb.trans (hbx.1.mono hb.size)
              have s_8 := Lib.hid (s_7.out.below hbV)
              have a_8 := Lib.hid (a_7.out.below hbV)
              have zb_8 := Lib.hid (zb_7.out.below hbV)
              have rq_8 := Lib.hid (rq_7.out.below hbV)
              have xo_8 := Lib.hid (xo_7.out.below hbV)
              have fb_8 := Lib.hid (fb_7.out.below hbV)
              have mo_8 := Lib.hid (mo_7.out.below hbV)
              have b_8 := Lib.hid (b_7.out.trans (hbV.mono b_7.out.size))
              have gb_8 := Lib.hid hbx.2.1
              have yo_8 := Lib.hid (ho.below hbx.1)
              have hg : Hid (ge = (doM bs l (⟨bk, ⟨bkt, bki⟩, ⟨btt, bti⟩, bv, bs_, bn⟩ : ReqD)).2.e) := hz.e
              clear he ho hz hb hbx hbV s_7 a_7 zb_7 rq_7 xo_7 fb_7 mo_7 b_7
              have hyl : Hid (yn = ln) := by
                show _ = _
                have h1 := yo_8.out.reads.len
                rw [do_len (blindB_iff hkb.out), hll.out] at h1
                exact h1.symm
              have y0 : Vu8.cell? ⟨w.heap.size, 0, none⟩ = some (.slice tq tn tc) := s_8.out.cell 0
              have d0 : Vu8.cell? ⟨w.heap.size + 1, 0, none⟩ = some (.int .i64 ak) := a_8.out.cell 0
              have d1 : Vu8.cell? ⟨w.heap.size + 1, 1, none⟩ = some (.int .i64 akt) := a_8.out.cell 1
              have d2 : Vu8.cell? ⟨w.heap.size + 1, 2, none⟩ = some (.int .u16 aki) := a_8.out.cell 2
              have d3 : Vu8.cell? ⟨w.heap.size + 1, 3, none⟩ = some (.int .i64 att) := a_8.out.cell 3
              have d4 : Vu8.cell? ⟨w.heap.size + 1, 4, none⟩ = some (.int .u16 ati) := a_8.out.cell 4
              have d5 : Vu8.cell? ⟨w.heap.size + 1, 5, none⟩ = some (.int .i64 av) := a_8.out.cell 5
              have d6 : Vu8.cell? ⟨w.heap.size + 1, 6, none⟩ = some (.string as_) := a_8.out.cell 6
              have d7 : Vu8.cell? ⟨w.heap.size + 1, 7, none⟩ = some (.int .i64 an) := a_8.out.cell 7
              go_wp2_with fail
              clear y0 d0 d1 d2 d3 d4 d5 d6 d7
              try clear hV
              refine (do_any tq tn tc yq yn yc ak akt aki att ati av as_ an bs (doM bs l (⟨bk, ⟨bkt, bki⟩, ⟨btt, bti⟩, bv, bs_, bn⟩ : ReqD)).1 Vu8 (hs'.out.below b_8.out (Nat.le_refl _)) hsk'.out yo_8.out.reads (by have := hyl.out; omega) hqa'.out).mono ?_
              rintro e u9 ⟨rq, rn, rc, ⟨je, jq, jn, jc, jk⟩, he, ho, hz, hb⟩
              have he' : e = .returned (.tuple #[.slice rq rn rc, .agg #[.int .i64 je, .slice jq jn jc, .int .i64 jk]]) := he
              subst he'
              obtain ⟨Vu9, hV⟩ : ∃ V, u9.alloc (.cells #[.int .i64 je, .slice jq jn jc, .int .i64 jk] 35) = V := ⟨_, rfl⟩
              have hbx := one_rowI (xs := [.int .i64 je, .slice jq jn jc, .int .i64 jk]) hV
              have hbV := hb.trans (hbx.1.mono hb.size)
              have s_9 := Lib.hid (s_8.out.below hbV)
              have a_9 := Lib.hid (a_8.out.below hbV)
              have zb_9 := Lib.hid (zb_8.out.below hbV)
              have rq_9 := Lib.hid (rq_8.out.below hbV)
              have xo_9 := Lib.hid (xo_8.out.below hbV)
              have fb_9 := Lib.hid (fb_8.out.below hbV)
              have mo_9 := Lib.hid (mo_8.out.below hbV)
              have gb_9 := Lib.hid (gb_8.out.below hbV)
              have yo_9 := Lib.hid (yo_8.out.below hbV)
              have b_9 := Lib.hid (b_8.out.trans (hbV.mono b_8.out.size))
              have jb_9 := Lib.hid hbx.2.1
              have ro_9 := Lib.hid (ho.below hbx.1)
              have hj : Hid (je = (doM bs (doM bs l (⟨bk, ⟨bkt, bki⟩, ⟨btt, bti⟩, bv, bs_, bn⟩ : ReqD)).1 (⟨ak, ⟨akt, aki⟩, ⟨att, ati⟩, av, as_, an⟩ : ReqD)).2.e) := hz.e
              clear he ho hz hb hbx hbV s_8 a_8 zb_8 rq_8 xo_8 fb_8 mo_8 gb_8 yo_8 b_8
              have cz : Vu9.cell? ⟨u6.heap.size, 0, none⟩ = some (.int .i64 ze) := zb_9.out.cell 0
              have cf : Vu9.cell? ⟨u7.heap.size, 0, none⟩ = some (.int .i64 fe) := fb_9.out.cell 0
              have cg : Vu9.cell? ⟨u8.heap.size, 0, none⟩ = some (.int .i64 ge) := gb_9.out.cell 0
              have cj : Vu9.cell? ⟨u9.heap.size, 0, none⟩ = some (.int .i64 je) := jb_9.out.cell 0
              by_cases h1 : ze = 0
              case neg =>
                have d1 : (ze != 0) = true := by simpa using h1
                go_wp2
                go_ret
                exact ⟨rfl, b_9.out⟩
              have dz : (ze != 0) = false := by simpa using h1
              have nz := Lib.hid h1
              clear h1
              by_cases h1 : fe = 0
              case neg =>
                have d1 : (fe != 0) = true := by simpa using h1
                go_wp2
                go_ret
                exact ⟨rfl, b_9.out⟩
              have df : (fe != 0) = false := by simpa using h1
              have nf := Lib.hid h1
              clear h1
              by_cases h1 : ge = 0
              case neg =>
                have d1 : (ge != 0) = true := by simpa using h1
                go_wp2
                go_ret
                exact ⟨rfl, b_9.out⟩
              have dg : (ge != 0) = false := by simpa using h1
              have ng := Lib.hid h1
              clear h1
              by_cases h1 : je = 0
              case neg =>
                have d1 : (je != 0) = true := by simpa using h1
                go_wp2
                go_ret
                exact ⟨rfl, b_9.out⟩
              have dj : (je != 0) = false := by simpa using h1
              have nj := Lib.hid h1
              clear h1
              go_wp2_with fail
              clear cz cf cg cj
              refine (same_any mq mn mc (doM bs (doM bs l (⟨ak, ⟨akt, aki⟩, ⟨att, ati⟩, av, as_, an⟩ : ReqD)).1 (⟨bk, ⟨bkt, bki⟩, ⟨btt, bti⟩, bv, bs_, bn⟩ : ReqD)).1 rq rn rc (doM bs (doM bs l (⟨bk, ⟨bkt, bki⟩, ⟨btt, bti⟩, bv, bs_, bn⟩ : ReqD)).1 (⟨ak, ⟨akt, aki⟩, ⟨att, ati⟩, av, as_, an⟩ : ReqD)).1 Vu9 mo_9.out.reads ro_9.out.reads).mono ?_
              rintro e v1 ⟨rfl, hb⟩
              have b9 := Lib.hid (b_9.out.trans (hb.mono b_9.out.size))
              clear hb
              have hsame : Hid (sameL (doM bs (doM bs l (⟨ak, ⟨akt, aki⟩, ⟨att, ati⟩, av, as_, an⟩ : ReqD)).1 (⟨bk, ⟨bkt, bki⟩, ⟨btt, bti⟩, bv, bs_, bn⟩ : ReqD)).1 (doM bs (doM bs l (⟨bk, ⟨bkt, bki⟩, ⟨btt, bti⟩, bv, bs_, bn⟩ : ReqD)).1 (⟨ak, ⟨akt, aki⟩, ⟨att, ati⟩, av, as_, an⟩ : ReqD)).1 = true) := by
                show _ = _
                rw [sameL_iff]
                exact adds_comm (blindB_iff hka.out) (blindB_iff hkb.out) (by rw [← hz.out]; exact nz.out) (by rw [← hf.out]; exact nf.out) (by rw [← hg.out]; exact ng.out) (by rw [← hj.out]; exact nj.out)
              rw [hsame.out]
              go_wp2
              go_ret
              exact ⟨rfl, b9.out⟩
            have d1 : (ze == 0) = true := by simpa using h1
            have nz0 := Lib.hid h1
            clear h1
            by_cases h8 : ak = 8
            case neg =>
              have d8 : (ak == 8) = false := by simpa using h8
              clear h8
              have y0 : V6.cell? ⟨w.heap.size, 0, none⟩ = some (.slice tq tn tc) := s_6.out.cell 0
              have d0 : V6.cell? ⟨w.heap.size + 1, 8, none⟩ = some (.int .i64 bk) := a_6.out.cell 8
              have d1 : V6.cell? ⟨w.heap.size + 1, 9, none⟩ = some (.int .i64 bkt) := a_6.out.cell 9
              have d2 : V6.cell? ⟨w.heap.size + 1, 10, none⟩ = some (.int .u16 bki) := a_6.out.cell 10
              have d3 : V6.cell? ⟨w.heap.size + 1, 11, none⟩ = some (.int .i64 btt) := a_6.out.cell 11
              have d4 : V6.cell? ⟨w.heap.size + 1, 12, none⟩ = some (.int .u16 bti) := a_6.out.cell 12
              have d5 : V6.cell? ⟨w.heap.size + 1, 13, none⟩ = some (.int .i64 bv) := a_6.out.cell 13
              have d6 : V6.cell? ⟨w.heap.size + 1, 14, none⟩ = some (.string bs_) := a_6.out.cell 14
              have d7 : V6.cell? ⟨w.heap.size + 1, 15, none⟩ = some (.int .i64 bn) := a_6.out.cell 15
              go_wp2_with fail
              clear y0 d0 d1 d2 d3 d4 d5 d6 d7
              try clear hV
              refine (do_any tq tn tc xq xn xc bk bkt bki btt bti bv bs_ bn bs (doM bs l (⟨ak, ⟨akt, aki⟩, ⟨att, ati⟩, av, as_, an⟩ : ReqD)).1 V6 (hs'.out.below b_6.out (Nat.le_refl _)) hsk'.out xo_6.out.reads (by have := hxl.out; omega) hqb'.out).mono ?_
              rintro e u7 ⟨mq, mn, mc, ⟨fe, fq, fn, fc, fk⟩, he, ho, hz, hb⟩
              have he' : e = .returned (.tuple #[.slice mq mn mc, .agg #[.int .i64 fe, .slice fq fn fc, .int .i64 fk]]) := he
              subst he'
              obtain ⟨Vu7, hV⟩ : ∃ V, u7.alloc (.cells #[.int .i64 fe, .slice fq fn fc, .int .i64 fk] 35) = V := ⟨_, rfl⟩
              have hbx := one_rowI (xs := [.int .i64 fe, .slice fq fn fc, .int .i64 fk]) hV
              have hbV := hb.trans (hbx.1.mono hb.size)
              have s_10 := Lib.hid (s_6.out.below hbV)
              have a_10 := Lib.hid (a_6.out.below hbV)
              have zb_10 := Lib.hid (zb_6.out.below hbV)
              have rq_10 := Lib.hid (rq_6.out.below hbV)
              have xo_10 := Lib.hid (xo_6.out.below hbV)
              have b_10 := Lib.hid (b_6.out.trans (hbV.mono b_6.out.size))
              have fb_10 := Lib.hid hbx.2.1
              have mo_10 := Lib.hid (ho.below hbx.1)
              have hf : Hid (fe = (doM bs (doM bs l (⟨ak, ⟨akt, aki⟩, ⟨att, ati⟩, av, as_, an⟩ : ReqD)).1 (⟨bk, ⟨bkt, bki⟩, ⟨btt, bti⟩, bv, bs_, bn⟩ : ReqD)).2.e) := hz.e
              clear he ho hz hb hbx hbV s_6 a_6 zb_6 rq_6 xo_6 b_6
              have y0 : Vu7.cell? ⟨w.heap.size, 0, none⟩ = some (.slice tq tn tc) := s_10.out.cell 0
              have d0 : Vu7.cell? ⟨w.heap.size + 1, 8, none⟩ = some (.int .i64 bk) := a_10.out.cell 8
              have d1 : Vu7.cell? ⟨w.heap.size + 1, 9, none⟩ = some (.int .i64 bkt) := a_10.out.cell 9
              have d2 : Vu7.cell? ⟨w.heap.size + 1, 10, none⟩ = some (.int .u16 bki) := a_10.out.cell 10
              have d3 : Vu7.cell? ⟨w.heap.size + 1, 11, none⟩ = some (.int .i64 btt) := a_10.out.cell 11
              have d4 : Vu7.cell? ⟨w.heap.size + 1, 12, none⟩ = some (.int .u16 bti) := a_10.out.cell 12
              have d5 : Vu7.cell? ⟨w.heap.size + 1, 13, none⟩ = some (.int .i64 bv) := a_10.out.cell 13
              have d6 : Vu7.cell? ⟨w.heap.size + 1, 14, none⟩ = some (.string bs_) := a_10.out.cell 14
              have d7 : Vu7.cell? ⟨w.heap.size + 1, 15, none⟩ = some (.int .i64 bn) := a_10.out.cell 15
              go_wp2_with fail
              clear y0 d0 d1 d2 d3 d4 d5 d6 d7
              try clear hV
              refine (do_any tq tn tc lq ln lc bk bkt bki btt bti bv bs_ bn bs l Vu7 (hs'.out.below b_10.out (Nat.le_refl _)) hsk'.out (hr'.out.below b_10.out (Nat.le_refl _)) (by omega) hqb'.out).mono ?_
              rintro e u8 ⟨yq, yn, yc, ⟨ge, gq, gn, gc, gk⟩, he, ho, hz, hb⟩
              have he' : e = .returned (.tuple #[.slice yq yn yc, .agg #[.int .i64 ge, .slice gq gn gc, .int .i64 gk]]) := he
              subst he'
              obtain ⟨Vu8, hV⟩ : ∃ V, u8.alloc (.cells #[.int .i64 ge, .slice gq gn gc, .int .i64 gk] 35) = V := ⟨_, rfl⟩
              have hbx := one_rowI (xs := [.int .i64 ge, .slice gq gn gc, .int .i64 gk]) hV
              have hbV := hb.trans (hbx.1.mono hb.size)
              have s_11 := Lib.hid (s_10.out.below hbV)
              have a_11 := Lib.hid (a_10.out.below hbV)
              have zb_11 := Lib.hid (zb_10.out.below hbV)
              have rq_11 := Lib.hid (rq_10.out.below hbV)
              have xo_11 := Lib.hid (xo_10.out.below hbV)
              have fb_11 := Lib.hid (fb_10.out.below hbV)
              have mo_11 := Lib.hid (mo_10.out.below hbV)
              have b_11 := Lib.hid (b_10.out.trans (hbV.mono b_10.out.size))
              have gb_11 := Lib.hid hbx.2.1
              have yo_11 := Lib.hid (ho.below hbx.1)
              have hg : Hid (ge = (doM bs l (⟨bk, ⟨bkt, bki⟩, ⟨btt, bti⟩, bv, bs_, bn⟩ : ReqD)).2.e) := hz.e
              clear he ho hz hb hbx hbV s_10 a_10 zb_10 rq_10 xo_10 fb_10 mo_10 b_10
              have hyl : Hid (yn = ln) := by
                show _ = _
                have h1 := yo_11.out.reads.len
                rw [do_len (blindB_iff hkb.out), hll.out] at h1
                exact h1.symm
              have y0 : Vu8.cell? ⟨w.heap.size, 0, none⟩ = some (.slice tq tn tc) := s_11.out.cell 0
              have d0 : Vu8.cell? ⟨w.heap.size + 1, 0, none⟩ = some (.int .i64 ak) := a_11.out.cell 0
              have d1 : Vu8.cell? ⟨w.heap.size + 1, 1, none⟩ = some (.int .i64 akt) := a_11.out.cell 1
              have d2 : Vu8.cell? ⟨w.heap.size + 1, 2, none⟩ = some (.int .u16 aki) := a_11.out.cell 2
              have d3 : Vu8.cell? ⟨w.heap.size + 1, 3, none⟩ = some (.int .i64 att) := a_11.out.cell 3
              have d4 : Vu8.cell? ⟨w.heap.size + 1, 4, none⟩ = some (.int .u16 ati) := a_11.out.cell 4
              have d5 : Vu8.cell? ⟨w.heap.size + 1, 5, none⟩ = some (.int .i64 av) := a_11.out.cell 5
              have d6 : Vu8.cell? ⟨w.heap.size + 1, 6, none⟩ = some (.string as_) := a_11.out.cell 6
              have d7 : Vu8.cell? ⟨w.heap.size + 1, 7, none⟩ = some (.int .i64 an) := a_11.out.cell 7
              go_wp2_with fail
              clear y0 d0 d1 d2 d3 d4 d5 d6 d7
              try clear hV
              refine (do_any tq tn tc yq yn yc ak akt aki att ati av as_ an bs (doM bs l (⟨bk, ⟨bkt, bki⟩, ⟨btt, bti⟩, bv, bs_, bn⟩ : ReqD)).1 Vu8 (hs'.out.below b_11.out (Nat.le_refl _)) hsk'.out yo_11.out.reads (by have := hyl.out; omega) hqa'.out).mono ?_
              rintro e u9 ⟨rq, rn, rc, ⟨je, jq, jn, jc, jk⟩, he, ho, hz, hb⟩
              have he' : e = .returned (.tuple #[.slice rq rn rc, .agg #[.int .i64 je, .slice jq jn jc, .int .i64 jk]]) := he
              subst he'
              obtain ⟨Vu9, hV⟩ : ∃ V, u9.alloc (.cells #[.int .i64 je, .slice jq jn jc, .int .i64 jk] 35) = V := ⟨_, rfl⟩
              have hbx := one_rowI (xs := [.int .i64 je, .slice jq jn jc, .int .i64 jk]) hV
              have hbV := hb.trans (hbx.1.mono hb.size)
              have s_12 := Lib.hid (s_11.out.below hbV)
              have a_12 := Lib.hid (a_11.out.below hbV)
              have zb_12 := Lib.hid (zb_11.out.below hbV)
              have rq_12 := Lib.hid (rq_11.out.below hbV)
              have xo_12 := Lib.hid (xo_11.out.below hbV)
              have fb_12 := Lib.hid (fb_11.out.below hbV)
              have mo_12 := Lib.hid (mo_11.out.below hbV)
              have gb_12 := Lib.hid (gb_11.out.below hbV)
              have yo_12 := Lib.hid (yo_11.out.below hbV)
              have b_12 := Lib.hid (b_11.out.trans (hbV.mono b_11.out.size))
              have jb_12 := Lib.hid hbx.2.1
              have ro_12 := Lib.hid (ho.below hbx.1)
              have hj : Hid (je = (doM bs (doM bs l (⟨bk, ⟨bkt, bki⟩, ⟨btt, bti⟩, bv, bs_, bn⟩ : ReqD)).1 (⟨ak, ⟨akt, aki⟩, ⟨att, ati⟩, av, as_, an⟩ : ReqD)).2.e) := hz.e
              clear he ho hz hb hbx hbV s_11 a_11 zb_11 rq_11 xo_11 fb_11 mo_11 gb_11 yo_11 b_11
              have cz : Vu9.cell? ⟨u6.heap.size, 0, none⟩ = some (.int .i64 ze) := zb_12.out.cell 0
              have cf : Vu9.cell? ⟨u7.heap.size, 0, none⟩ = some (.int .i64 fe) := fb_12.out.cell 0
              have cg : Vu9.cell? ⟨u8.heap.size, 0, none⟩ = some (.int .i64 ge) := gb_12.out.cell 0
              have cj : Vu9.cell? ⟨u9.heap.size, 0, none⟩ = some (.int .i64 je) := jb_12.out.cell 0
              by_cases h1 : ze = 0
              case neg =>
                have d1 : (ze != 0) = true := by simpa using h1
                go_wp2
                go_ret
                exact ⟨rfl, b_12.out⟩
              have dz : (ze != 0) = false := by simpa using h1
              have nz := Lib.hid h1
              clear h1
              by_cases h1 : fe = 0
              case neg =>
                have d1 : (fe != 0) = true := by simpa using h1
                go_wp2
                go_ret
                exact ⟨rfl, b_12.out⟩
              have df : (fe != 0) = false := by simpa using h1
              have nf := Lib.hid h1
              clear h1
              by_cases h1 : ge = 0
              case neg =>
                have d1 : (ge != 0) = true := by simpa using h1
                go_wp2
                go_ret
                exact ⟨rfl, b_12.out⟩
              have dg : (ge != 0) = false := by simpa using h1
              have ng := Lib.hid h1
              clear h1
              by_cases h1 : je = 0
              case neg =>
                have d1 : (je != 0) = true := by simpa using h1
                go_wp2
                go_ret
                exact ⟨rfl, b_12.out⟩
              have dj : (je != 0) = false := by simpa using h1
              have nj := Lib.hid h1
              clear h1
              go_wp2_with fail
              clear cz cf cg cj
              refine (same_any mq mn mc (doM bs (doM bs l (⟨ak, ⟨akt, aki⟩, ⟨att, ati⟩, av, as_, an⟩ : ReqD)).1 (⟨bk, ⟨bkt, bki⟩, ⟨btt, bti⟩, bv, bs_, bn⟩ : ReqD)).1 rq rn rc (doM bs (doM bs l (⟨bk, ⟨bkt, bki⟩, ⟨btt, bti⟩, bv, bs_, bn⟩ : ReqD)).1 (⟨ak, ⟨akt, aki⟩, ⟨att, ati⟩, av, as_, an⟩ : ReqD)).1 Vu9 mo_12.out.reads ro_12.out.reads).mono ?_
              rintro e v1 ⟨rfl, hb⟩
              have b9 := Lib.hid (b_12.out.trans (hb.mono b_12.out.size))
              clear hb
              have hsame : Hid (sameL (doM bs (doM bs l (⟨ak, ⟨akt, aki⟩, ⟨att, ati⟩, av, as_, an⟩ : ReqD)).1 (⟨bk, ⟨bkt, bki⟩, ⟨btt, bti⟩, bv, bs_, bn⟩ : ReqD)).1 (doM bs (doM bs l (⟨bk, ⟨bkt, bki⟩, ⟨btt, bti⟩, bv, bs_, bn⟩ : ReqD)).1 (⟨ak, ⟨akt, aki⟩, ⟨att, ati⟩, av, as_, an⟩ : ReqD)).1 = true) := by
                show _ = _
                rw [sameL_iff]
                exact adds_comm (blindB_iff hka.out) (blindB_iff hkb.out) (by rw [← hz.out]; exact nz.out) (by rw [← hf.out]; exact nf.out) (by rw [← hg.out]; exact ng.out) (by rw [← hj.out]; exact nj.out)
              rw [hsame.out]
              go_wp2
              go_ret
              exact ⟨rfl, b9.out⟩
            subst h8
            obtain ⟨hxm, hfs⟩ := do_blind (q := ⟨8, ⟨akt, aki⟩, ⟨att, ati⟩, av, as_, an⟩) (.inr rfl) (by rw [← hz.out]; exact nz0.out)
            obtain ⟨hf1, hf2⟩ := hfs rfl
            obtain ⟨i, ri, hi, hri, hki⟩ := find_at hf1
            obtain ⟨k, rk, hk, hrk, hkk⟩ := find_at hf2
            have e1 : V6.cell? ⟨u6.heap.size + 1, 1, none⟩ = some (.int .i64 akt) := rq_6.out.cell 1
            have e2 : V6.cell? ⟨u6.heap.size + 1, 2, none⟩ = some (.int .u16 aki) := rq_6.out.cell 2
            have hfd := find_any lq ln lc l akt aki V6 (hr'.out.below b_6.out (Nat.le_refl _)) (by omega)
            rw [show findN l ⟨akt, aki⟩ = i from hi] at hfd
            have hfd := Lib.hid hfd
            go_wp2_with fail
            clear e1 e2 hV cz c0 d0 d1 d2 d3 d4 d5 d6 d7
            refine hfd.out.mono ?_
            rintro e u61 ⟨rfl, hb⟩
            clear hfd
            have s_13 := Lib.hid (s_6.out.below hb)
            have a_13 := Lib.hid (a_6.out.below hb)
            have zb_13 := Lib.hid (zb_6.out.below hb)
            have rq_13 := Lib.hid (rq_6.out.below hb)
            have xo_13 := Lib.hid (xo_6.out.below hb)
            have b_13 := Lib.hid (b_6.out.trans (hb.mono b_6.out.size))
            clear hb s_6 a_6 zb_6 rq_6 xo_6 b_6
            have e1 : u61.cell? ⟨u6.heap.size + 1, 3, none⟩ = some (.int .i64 att) := rq_13.out.cell 3
            have e2 : u61.cell? ⟨u6.heap.size + 1, 4, none⟩ = some (.int .u16 ati) := rq_13.out.cell 4
            have hfd := find_any lq ln lc l att ati u61 (hr'.out.below b_13.out (Nat.le_refl _)) (by omega)
            rw [show findN l ⟨att, ati⟩ = k from hk] at hfd
            have hfd := Lib.hid hfd
            go_wp2_with fail
            clear e1 e2
            refine hfd.out.mono ?_
            rintro e u62 ⟨rfl, hb⟩
            clear hfd
            have s_14 := Lib.hid (s_13.out.below hb)
            have a_14 := Lib.hid (a_13.out.below hb)
            have zb_14 := Lib.hid (zb_13.out.below hb)
            have rq_14 := Lib.hid (rq_13.out.below hb)
            have xo_14 := Lib.hid (xo_13.out.below hb)
            have b_14 := Lib.hid (b_13.out.trans (hb.mono b_13.out.size))
            clear hb s_13 a_13 zb_13 rq_13 xo_13 b_13
            have hil : i < ln := by have := (List.getElem?_eq_some_iff.1 hri).1; have := hll.out; omega
            have hkl : k < ln := by have := (List.getElem?_eq_some_iff.1 hrk).1; have := hll.out; omega
            have i0 : (0 : Int) ≤ i := by omega
            have i1 : (i : Int) < ln := by omega
            have k0 : (0 : Int) ≤ k := by omega
            have k1 : (k : Int) < ln := by omega
            obtain ⟨LA, r1, hqA, hx1, ok1, hc1⟩ := (hr'.out.below b_14.out (Nat.le_refl _)).at hil
            obtain ⟨LA', r2, hqB, hx2, ok2, hc2⟩ := (hr'.out.below b_14.out (Nat.le_refl _)).at hkl
            rw [hri] at hx1
            rw [hrk] at hx2
            cases hx1
            cases hx2
            subst hqA
            obtain rfl : LA = LA' := by injection hqB
            have p0 : u62.cell? ⟨(LA.add (i * 4)).block, (LA.add (i * 4)).off + 2, none⟩ = some (.int .i64 ri.val) := hc1 2 _ rfl
            have p1 : u62.cell? ⟨(LA.add (k * 4)).block, (LA.add (k * 4)).off + 2, none⟩ = some (.int .i64 rk.val) := hc2 2 _ rfl
            have hpl : Hid (∀ u, Below u62.heap.size u62 u → Calls Try.prog 32 #[.int .i64 ri.val, .int .i64 rk.val] u (fun e w' => e = .returned (.tuple #[.int .i64 (plusN ri.val rk.val), .bool (fits ri.val rk.val)]) ∧ Below u.heap.size u w')) := fun u _ => plus_any _ _ u (by have h := ok1.val; unfold I64 at h; omega) (by have h := ok2.val; unfold I64 at h; omega)
            clear hc1 hc2 ok1 ok2 hqB
            go_wp2_with fail
            go_region_held3 (fun u => u.cell? ⟨(LA.add (i * 4)).block, (LA.add (i * 4)).off + 2, none⟩ = some (.int .i64 ri.val) ∧ u.cell? ⟨(LA.add (k * 4)).block, (LA.add (k * 4)).off + 2, none⟩ = some (.int .i64 rk.val) ∧ Below u62.heap.size u62 u)
              (first | exact ⟨p0, p1, below_drew _⟩ | (go_split_ands; exact ⟨cell_keeps hq0.out (Nat.le_refl _) (by assumption), cell_keeps hq0.out (Nat.le_refl _) (by assumption), below_step hq0.out (by assumption)⟩) | go_keep)
              (first | (go_at_call 32; refine (hpl.out _ (by go_split_ands; first | assumption | exact below_drew _)).mono ?_; rintro e u63 ⟨rfl, hb⟩; have hq0 := Lib.hid hb; clear hb))
            have hv : Hid (Below u62.heap.size u62 u63) := by
              show Below _ _ _
              go_split_ands
              assumption
            clear p0 p1 hpl
            have s_15 := Lib.hid (s_14.out.below hv.out)
            have a_15 := Lib.hid (a_14.out.below hv.out)
            have zb_15 := Lib.hid (zb_14.out.below hv.out)
            have rq_15 := Lib.hid (rq_14.out.below hv.out)
            have xo_15 := Lib.hid (xo_14.out.below hv.out)
            have b_15 := Lib.hid (b_14.out.trans (hv.out.mono b_14.out.size))
            clear s_14 a_14 zb_14 rq_14 xo_14 b_14 hv
            have hri2 : (doM bs l ⟨8, ⟨akt, aki⟩, ⟨att, ati⟩, av, as_, an⟩).1[i]? = some (blindOf ⟨8, ⟨akt, aki⟩, ⟨att, ati⟩, av, as_, an⟩ ri) := by rw [hxm, List.getElem?_map, hri]; rfl
            have hrk2 : (doM bs l ⟨8, ⟨akt, aki⟩, ⟨att, ati⟩, av, as_, an⟩).1[k]? = some (blindOf ⟨8, ⟨akt, aki⟩, ⟨att, ati⟩, av, as_, an⟩ rk) := by rw [hxm, List.getElem?_map, hrk]; rfl
            obtain ⟨si, hsi⟩ : ∃ s, blindOf ⟨8, ⟨akt, aki⟩, ⟨att, ati⟩, av, as_, an⟩ ri = s := ⟨_, rfl⟩
            obtain ⟨sk, hsk⟩ : ∃ s, blindOf ⟨8, ⟨akt, aki⟩, ⟨att, ati⟩, av, as_, an⟩ rk = s := ⟨_, rfl⟩
            have hsum : si.val + sk.val = ri.val + rk.val := by
              rw [← hsi, ← hsk]
              refine move_sum rfl hki hkk fun e => ?_
              have e : (⟨akt, aki⟩ : KeyD) = ⟨att, ati⟩ := e
              rw [e] at hi
              have : i = k := by have h1 := hi.symm.trans hk; omega
              subst this
              rw [hri] at hrk
              exact Option.some.inj hrk
            rw [hsi] at hri2
            rw [hsk] at hrk2
            have hsum := Lib.hid (plus_of hsum)
            clear hsi hsk
            have hix : i < xn := by have := hxl.out; omega
            have hkx : k < xn := by have := hxl.out; omega
            have i2 : (i : Int) < xn := by omega
            have k2 : (k : Int) < xn := by omega
            obtain ⟨XA, r1, hqA, hx1, ok1, hc1⟩ := (xo_15.out.reads).at hix
            obtain ⟨XA', r2, hqB, hx2, ok2, hc2⟩ := (xo_15.out.reads).at hkx
            rw [hri2] at hx1
            rw [hrk2] at hx2
            cases hx1
            cases hx2
            subst hqA
            obtain rfl : XA = XA' := by injection hqB
            have p0 : u63.cell? ⟨(XA.add (i * 4)).block, (XA.add (i * 4)).off + 2, none⟩ = some (.int .i64 si.val) := hc1 2 _ rfl
            have p1 : u63.cell? ⟨(XA.add (k * 4)).block, (XA.add (k * 4)).off + 2, none⟩ = some (.int .i64 sk.val) := hc2 2 _ rfl
            have hpl : Hid (∀ u, Below u63.heap.size u63 u → Calls Try.prog 32 #[.int .i64 si.val, .int .i64 sk.val] u (fun e w' => e = .returned (.tuple #[.int .i64 (plusN si.val sk.val), .bool (fits si.val sk.val)]) ∧ Below u.heap.size u w')) := fun u _ => plus_any _ _ u (by have h := ok1.val; unfold I64 at h; omega) (by have h := ok2.val; unfold I64 at h; omega)
            clear hc1 hc2 ok1 ok2 hqB
            go_wp2_with fail
            go_region_held3 (fun u => u.cell? ⟨(XA.add (i * 4)).block, (XA.add (i * 4)).off + 2, none⟩ = some (.int .i64 si.val) ∧ u.cell? ⟨(XA.add (k * 4)).block, (XA.add (k * 4)).off + 2, none⟩ = some (.int .i64 sk.val) ∧ Below u63.heap.size u63 u)
              (first | exact ⟨p0, p1, below_drew _⟩ | (go_split_ands; exact ⟨cell_keeps hq0.out (Nat.le_refl _) (by assumption), cell_keeps hq0.out (Nat.le_refl _) (by assumption), below_step hq0.out (by assumption)⟩) | go_keep)
              (first | (go_at_call 32; refine (hpl.out _ (by go_split_ands; first | assumption | exact below_drew _)).mono ?_; rintro e u64 ⟨rfl, hb⟩; have hq0 := Lib.hid hb; clear hb))
            have hv : Hid (Below u63.heap.size u63 u64) := by
              show Below _ _ _
              go_split_ands
              assumption
            clear p0 p1 hpl
            have s_16 := Lib.hid (s_15.out.below hv.out)
            have a_16 := Lib.hid (a_15.out.below hv.out)
            have zb_16 := Lib.hid (zb_15.out.below hv.out)
            have rq_16 := Lib.hid (rq_15.out.below hv.out)
            have xo_16 := Lib.hid (xo_15.out.below hv.out)
            have b_16 := Lib.hid (b_15.out.trans (hv.out.mono b_15.out.size))
            clear s_15 a_15 zb_15 rq_15 xo_15 b_15 hv
            rw [hsum.out.1, hsum.out.2]
            obtain ⟨PV, hPV⟩ : ∃ x, plusN ri.val rk.val = x := ⟨_, rfl⟩
            obtain ⟨FV, hFV⟩ : ∃ x, fits ri.val rk.val = x := ⟨_, rfl⟩
            rw [hPV, hFV]
            clear hPV hFV hsum hri2 hrk2 hri hrk hi hk hki hkk hf1 hf2 hfs hxm i0 i1 i2 k0 k1 k2 hil hkl hix hkx
            have ff : (FV != FV) = false := by simp
            have pp : (PV != PV) = false := by simp
            generalize h8g : (8 : Int) = ak at *
            have h8' := Lib.hid h8g
            clear h8g
            have y0 : u64.cell? ⟨w.heap.size, 0, none⟩ = some (.slice tq tn tc) := s_16.out.cell 0
            have d0 : u64.cell? ⟨w.heap.size + 1, 8, none⟩ = some (.int .i64 bk) := a_16.out.cell 8
            have d1 : u64.cell? ⟨w.heap.size + 1, 9, none⟩ = some (.int .i64 bkt) := a_16.out.cell 9
            have d2 : u64.cell? ⟨w.heap.size + 1, 10, none⟩ = some (.int .u16 bki) := a_16.out.cell 10
            have d3 : u64.cell? ⟨w.heap.size + 1, 11, none⟩ = some (.int .i64 btt) := a_16.out.cell 11
            have d4 : u64.cell? ⟨w.heap.size + 1, 12, none⟩ = some (.int .u16 bti) := a_16.out.cell 12
            have d5 : u64.cell? ⟨w.heap.size + 1, 13, none⟩ = some (.int .i64 bv) := a_16.out.cell 13
            have d6 : u64.cell? ⟨w.heap.size + 1, 14, none⟩ = some (.string bs_) := a_16.out.cell 14
            have d7 : u64.cell? ⟨w.heap.size + 1, 15, none⟩ = some (.int .i64 bn) := a_16.out.cell 15
            go_wp2_with fail
            clear y0 d0 d1 d2 d3 d4 d5 d6 d7
            try clear hV
            refine (do_any tq tn tc (some XA) xn xc bk bkt bki btt bti bv bs_ bn bs (doM bs l (⟨ak, ⟨akt, aki⟩, ⟨att, ati⟩, av, as_, an⟩ : ReqD)).1 u64 (hs'.out.below b_16.out (Nat.le_refl _)) hsk'.out xo_16.out.reads (by have := hxl.out; omega) hqb'.out).mono ?_
            rintro e u7 ⟨mq, mn, mc, ⟨fe, fq, fn, fc, fk⟩, he, ho, hz, hb⟩
            have he' : e = .returned (.tuple #[.slice mq mn mc, .agg #[.int .i64 fe, .slice fq fn fc, .int .i64 fk]]) := he
            subst he'
            obtain ⟨Vu7, hV⟩ : ∃ V, u7.alloc (.cells #[.int .i64 fe, .slice fq fn fc, .int .i64 fk] 35) = V := ⟨_, rfl⟩
            have hbx := one_rowI (xs := [.int .i64 fe, .slice fq fn fc, .int .i64 fk]) hV
            have hbV := hb.trans (hbx.1.mono hb.size)
            have s_17 := Lib.hid (s_16.out.below hbV)
            have a_17 := Lib.hid (a_16.out.below hbV)
            have zb_17 := Lib.hid (zb_16.out.below hbV)
            have rq_17 := Lib.hid (rq_16.out.below hbV)
            have xo_17 := Lib.hid (xo_16.out.below hbV)
            have b_17 := Lib.hid (b_16.out.trans (hbV.mono b_16.out.size))
            have fb_17 := Lib.hid hbx.2.1
            have mo_17 := Lib.hid (ho.below hbx.1)
            have hf : Hid (fe = (doM bs (doM bs l (⟨ak, ⟨akt, aki⟩, ⟨att, ati⟩, av, as_, an⟩ : ReqD)).1 (⟨bk, ⟨bkt, bki⟩, ⟨btt, bti⟩, bv, bs_, bn⟩ : ReqD)).2.e) := hz.e
            clear he ho hz hb hbx hbV s_16 a_16 zb_16 rq_16 xo_16 b_16
            have y0 : Vu7.cell? ⟨w.heap.size, 0, none⟩ = some (.slice tq tn tc) := s_17.out.cell 0
            have d0 : Vu7.cell? ⟨w.heap.size + 1, 8, none⟩ = some (.int .i64 bk) := a_17.out.cell 8
            have d1 : Vu7.cell? ⟨w.heap.size + 1, 9, none⟩ = some (.int .i64 bkt) := a_17.out.cell 9
            have d2 : Vu7.cell? ⟨w.heap.size + 1, 10, none⟩ = some (.int .u16 bki) := a_17.out.cell 10
            have d3 : Vu7.cell? ⟨w.heap.size + 1, 11, none⟩ = some (.int .i64 btt) := a_17.out.cell 11
            have d4 : Vu7.cell? ⟨w.heap.size + 1, 12, none⟩ = some (.int .u16 bti) := a_17.out.cell 12
            have d5 : Vu7.cell? ⟨w.heap.size + 1, 13, none⟩ = some (.int .i64 bv) := a_17.out.cell 13
            have d6 : Vu7.cell? ⟨w.heap.size + 1, 14, none⟩ = some (.string bs_) := a_17.out.cell 14
            have d7 : Vu7.cell? ⟨w.heap.size + 1, 15, none⟩ = some (.int .i64 bn) := a_17.out.cell 15
            go_wp2_with fail
            clear y0 d0 d1 d2 d3 d4 d5 d6 d7
            try clear hV
            refine (do_any tq tn tc (some LA) ln lc bk bkt bki btt bti bv bs_ bn bs l Vu7 (hs'.out.below b_17.out (Nat.le_refl _)) hsk'.out (hr'.out.below b_17.out (Nat.le_refl _)) (by omega) hqb'.out).mono ?_
            rintro e u8 ⟨yq, yn, yc, ⟨ge, gq, gn, gc, gk⟩, he, ho, hz, hb⟩
            have he' : e = .returned (.tuple #[.slice yq yn yc, .agg #[.int .i64 ge, .slice gq gn gc, .int .i64 gk]]) := he
            subst he'
            obtain ⟨Vu8, hV⟩ : ∃ V, u8.alloc (.cells #[.int .i64 ge, .slice gq gn gc, .int .i64 gk] 35) = V := ⟨_, rfl⟩
            have hbx := one_rowI (xs := [.int .i64 ge, .slice gq gn gc, .int .i64 gk]) hV
            have hbV := hb.trans (hbx.1.mono hb.size)
            have s_18 := Lib.hid (s_17.out.below hbV)
            have a_18 := Lib.hid (a_17.out.below hbV)
            have zb_18 := Lib.hid (zb_17.out.below hbV)
            have rq_18 := Lib.hid (rq_17.out.below hbV)
            have xo_18 := Lib.hid (xo_17.out.below hbV)
            have fb_18 := Lib.hid (fb_17.out.below hbV)
            have mo_18 := Lib.hid (mo_17.out.below hbV)
            have b_18 := Lib.hid (b_17.out.trans (hbV.mono b_17.out.size))
            have gb_18 := Lib.hid hbx.2.1
            have yo_18 := Lib.hid (ho.below hbx.1)
            have hg : Hid (ge = (doM bs l (⟨bk, ⟨bkt, bki⟩, ⟨btt, bti⟩, bv, bs_, bn⟩ : ReqD)).2.e) := hz.e
            clear he ho hz hb hbx hbV s_17 a_17 zb_17 rq_17 xo_17 fb_17 mo_17 b_17
            have hyl : Hid (yn = ln) := by
              show _ = _
              have h1 := yo_18.out.reads.len
              rw [do_len (blindB_iff hkb.out), hll.out] at h1
              exact h1.symm
            have y0 : Vu8.cell? ⟨w.heap.size, 0, none⟩ = some (.slice tq tn tc) := s_18.out.cell 0
            have d0 : Vu8.cell? ⟨w.heap.size + 1, 0, none⟩ = some (.int .i64 ak) := a_18.out.cell 0
            have d1 : Vu8.cell? ⟨w.heap.size + 1, 1, none⟩ = some (.int .i64 akt) := a_18.out.cell 1
            have d2 : Vu8.cell? ⟨w.heap.size + 1, 2, none⟩ = some (.int .u16 aki) := a_18.out.cell 2
            have d3 : Vu8.cell? ⟨w.heap.size + 1, 3, none⟩ = some (.int .i64 att) := a_18.out.cell 3
            have d4 : Vu8.cell? ⟨w.heap.size + 1, 4, none⟩ = some (.int .u16 ati) := a_18.out.cell 4
            have d5 : Vu8.cell? ⟨w.heap.size + 1, 5, none⟩ = some (.int .i64 av) := a_18.out.cell 5
            have d6 : Vu8.cell? ⟨w.heap.size + 1, 6, none⟩ = some (.string as_) := a_18.out.cell 6
            have d7 : Vu8.cell? ⟨w.heap.size + 1, 7, none⟩ = some (.int .i64 an) := a_18.out.cell 7
            go_wp2_with fail
            clear y0 d0 d1 d2 d3 d4 d5 d6 d7
            try clear hV
            refine (do_any tq tn tc yq yn yc ak akt aki att ati av as_ an bs (doM bs l (⟨bk, ⟨bkt, bki⟩, ⟨btt, bti⟩, bv, bs_, bn⟩ : ReqD)).1 Vu8 (hs'.out.below b_18.out (Nat.le_refl _)) hsk'.out yo_18.out.reads (by have := hyl.out; omega) hqa'.out).mono ?_
            rintro e u9 ⟨rq, rn, rc, ⟨je, jq, jn, jc, jk⟩, he, ho, hz, hb⟩
            have he' : e = .returned (.tuple #[.slice rq rn rc, .agg #[.int .i64 je, .slice jq jn jc, .int .i64 jk]]) := he
            subst he'
            obtain ⟨Vu9, hV⟩ : ∃ V, u9.alloc (.cells #[.int .i64 je, .slice jq jn jc, .int .i64 jk] 35) = V := ⟨_, rfl⟩
            have hbx := one_rowI (xs := [.int .i64 je, .slice jq jn jc, .int .i64 jk]) hV
            have hbV := hb.trans (hbx.1.mono hb.size)
            have s_19 := Lib.hid (s_18.out.below hbV)
            have a_19 := Lib.hid (a_18.out.below hbV)
            have zb_19 := Lib.hid (zb_18.out.below hbV)
            have rq_19 := Lib.hid (rq_18.out.below hbV)
            have xo_19 := Lib.hid (xo_18.out.below hbV)
            have fb_19 := Lib.hid (fb_18.out.below hbV)
            have mo_19 := Lib.hid (mo_18.out.below hbV)
            have gb_19 := Lib.hid (gb_18.out.below hbV)
            have yo_19 := Lib.hid (yo_18.out.below hbV)
            have b_19 := Lib.hid (b_18.out.trans (hbV.mono b_18.out.size))
            have jb_19 := Lib.hid hbx.2.1
            have ro_19 := Lib.hid (ho.below hbx.1)
            have hj : Hid (je = (doM bs (doM bs l (⟨bk, ⟨bkt, bki⟩, ⟨btt, bti⟩, bv, bs_, bn⟩ : ReqD)).1 (⟨ak, ⟨akt, aki⟩, ⟨att, ati⟩, av, as_, an⟩ : ReqD)).2.e) := hz.e
            clear he ho hz hb hbx hbV s_18 a_18 zb_18 rq_18 xo_18 fb_18 mo_18 gb_18 yo_18 b_18
            have cz : Vu9.cell? ⟨u6.heap.size, 0, none⟩ = some (.int .i64 ze) := zb_19.out.cell 0
            have cf : Vu9.cell? ⟨u7.heap.size, 0, none⟩ = some (.int .i64 fe) := fb_19.out.cell 0
            have cg : Vu9.cell? ⟨u8.heap.size, 0, none⟩ = some (.int .i64 ge) := gb_19.out.cell 0
            have cj : Vu9.cell? ⟨u9.heap.size, 0, none⟩ = some (.int .i64 je) := jb_19.out.cell 0
            by_cases h1 : ze = 0
            case neg =>
              have d1 : (ze != 0) = true := by simpa using h1
              go_wp2
              go_ret
              exact ⟨rfl, b_19.out⟩
            have dz : (ze != 0) = false := by simpa using h1
            have nz := Lib.hid h1
            clear h1
            by_cases h1 : fe = 0
            case neg =>
              have d1 : (fe != 0) = true := by simpa using h1
              go_wp2
              go_ret
              exact ⟨rfl, b_19.out⟩
            have df : (fe != 0) = false := by simpa using h1
            have nf := Lib.hid h1
            clear h1
            by_cases h1 : ge = 0
            case neg =>
              have d1 : (ge != 0) = true := by simpa using h1
              go_wp2
              go_ret
              exact ⟨rfl, b_19.out⟩
            have dg : (ge != 0) = false := by simpa using h1
            have ng := Lib.hid h1
            clear h1
            by_cases h1 : je = 0
            case neg =>
              have d1 : (je != 0) = true := by simpa using h1
              go_wp2
              go_ret
              exact ⟨rfl, b_19.out⟩
            have dj : (je != 0) = false := by simpa using h1
            have nj := Lib.hid h1
            clear h1
            go_wp2_with fail
            clear cz cf cg cj
            refine (same_any mq mn mc (doM bs (doM bs l (⟨ak, ⟨akt, aki⟩, ⟨att, ati⟩, av, as_, an⟩ : ReqD)).1 (⟨bk, ⟨bkt, bki⟩, ⟨btt, bti⟩, bv, bs_, bn⟩ : ReqD)).1 rq rn rc (doM bs (doM bs l (⟨bk, ⟨bkt, bki⟩, ⟨btt, bti⟩, bv, bs_, bn⟩ : ReqD)).1 (⟨ak, ⟨akt, aki⟩, ⟨att, ati⟩, av, as_, an⟩ : ReqD)).1 Vu9 mo_19.out.reads ro_19.out.reads).mono ?_
            rintro e v1 ⟨rfl, hb⟩
            have b9 := Lib.hid (b_19.out.trans (hb.mono b_19.out.size))
            clear hb
            have hsame : Hid (sameL (doM bs (doM bs l (⟨ak, ⟨akt, aki⟩, ⟨att, ati⟩, av, as_, an⟩ : ReqD)).1 (⟨bk, ⟨bkt, bki⟩, ⟨btt, bti⟩, bv, bs_, bn⟩ : ReqD)).1 (doM bs (doM bs l (⟨bk, ⟨bkt, bki⟩, ⟨btt, bti⟩, bv, bs_, bn⟩ : ReqD)).1 (⟨ak, ⟨akt, aki⟩, ⟨att, ati⟩, av, as_, an⟩ : ReqD)).1 = true) := by
              show _ = _
              rw [sameL_iff]
              exact adds_comm (blindB_iff hka.out) (blindB_iff hkb.out) (by rw [← hz.out]; exact nz.out) (by rw [← hf.out]; exact nf.out) (by rw [← hg.out]; exact ng.out) (by rw [← hj.out]; exact nj.out)
            rw [hsame.out]
            go_wp2
            go_ret
            exact ⟨rfl, b9.out⟩

set_option maxRecDepth 1000000 in
theorem adds_lifted (os : Os) (started : os.Started) (H : Type) (enc : TypeId × Value → H) :
    ReturnsInHanded {} Try.checked os 8 .any (Rows.idealAddsSpec.pre6 enc Try.prog Try.f8 Rows.idealAddsRow.domain false) (Rows.idealAddsSpec.post enc Try.prog Try.f8 false true false false) := by
  refine returnsInHanded_of_change (C := Try.checked) own started (by kernel_rfl) Try.func8
    (ChangeSpec.witness6 (enc := enc) (C := Try.checked) false ⟨#[], #[.agg #[.slice none 0 0], .slice none 0 0, .agg #[.int .i64 0, .int .i64 0, .int .u16 0, .int .i64 0, .int .u16 0, .int .i64 0, .string ⟨#[]⟩, .int .i64 0, .int .i64 0, .int .i64 0, .int .u16 0, .int .i64 0, .int .u16 0, .int .i64 0, .string ⟨#[]⟩, .int .i64 0]], []⟩ 8 (by kernel_rfl) (by kernel_rfl) (by kernel_rfl) (by kernel_rfl)) ?_
  intro W base args ds gs before hval0 hW _ _
  have hval : ∀ (j : Nat) t v, Try.f8.params[j]? = some t → args[j]? = some v → Value.okWide Try.prog W .any base t v := hval0
  have hW' := hW
  obtain ⟨p, q, hA0, hV, rfl, _, _⟩ := hW
  have hA : DataW.TrodAll enc Try.prog W 0 (fun _ => true) true Try.f8.params.toList args.toList ds p := hA0
  rw [Try.params8] at hA hval
  obtain ⟨v0, v1, v2, d0, d1, d2, p0, p1, p2, rfl, rfl, rfl, h0, h1, h2⟩ := trodAll_three hA
  obtain ⟨rfl, rfl⟩ := trodVars_none hV
  obtain ⟨q0, n0, c0, bs0, rfl, hs0⟩ := open_schS (hval 0 24 v0 rfl rfl) h0
  obtain ⟨a1, len1, cap1, rfl⟩ := okWide_slice Try.underlying25 (hval 1 25 v1 rfl rfl)
  obtain ⟨l1, hl1⟩ := open_rows h1
  obtain ⟨a2, b2, rfl, ha2, hb2⟩ := open_req2 (hval 2 61 v2 rfl rfl) h2
  refine (adds_law q0 n0 c0 bs0 a1 len1 cap1 l1 a2 b2 W hs0 hl1 ha2 hb2).mono fun e W' ⟨he, hb⟩ => ?_
  subst he
  exact ⟨_, rfl, law_post laidOut (of_decide_eq_true (by kernel_rfl)) rfl (by kernel_rfl) Try.underlying4 hW' ⟨rfl, rfl, rfl⟩ hb⟩

set_option maxRecDepth 1000000 in
theorem adds_holds : Rows.IdealAddsSaid :=
  OpenClaim.holds_of_wide 8 Try.f8 rfl rfl rfl rfl rfl rfl rfl ⟨rfl, rfl, rfl, rfl, rfl⟩ rfl rfl rfl rfl rfl (by kernel_rfl) Try.func8 (by kernel_rfl)
    (of_decide_eq_true (by kernel_rfl)) (by unfold Func.isWrapper; first | (rw [if_pos (by decide +kernel)]; kernel_rfl) | (rw [if_neg (by decide +kernel)]; exact ⟨rfl, rfl⟩))
    (fun os started H enc _ => adds_lifted os started H enc)
end Go.Proofs.Ytkdkncbccofpdaa
