/- IdealDoes: for every schema, rows and request the law returns true, and its arguments read as they did. No condition. -/
import Derived.Test.YtkdkncbccofpdaaQ24
import Derived.Test.YtkdkncbccofpdaaQ25
import Derived.Test.YtkdkncbccofpdaaQ26
namespace Go.Proofs.Ytkdkncbccofpdaa
open Go.ChangeShapes Go.WideShapes Go.ChangeAt Go.RowKit Go.Deep Go.Joins
set_option maxRecDepth 100000
def chkQ (bs : List BdD) (q : ReqD) : Int := if okS bs = true then (if reqB bs q = true then 0 else 250) else 150
set_option maxHeartbeats 2000000 in
theorem checkReq_any (tq : Option Addr) (tn tc : Nat) (bs : List BdD) (qk kt ki tt ti qv : Int) (qs : ByteArray) (qn : Int) (w : World) (h : SchOn w tq tn tc bs) (hqs : qs.size ≤ maxLen) :
 Calls Try.prog 12 #[.agg #[.slice tq tn tc], .agg #[.int .i64 qk, .int .i64 kt, .int .u16 ki, .int .i64 tt, .int .u16 ti, .int .i64 qv, .string qs, .int .i64 qn]] w (fun e w' => e = .returned (.int .i64 (chkQ bs ⟨qk, ⟨kt, ki⟩, ⟨tt, ti⟩, qv, qs, qn⟩)) ∧ Below w.heap.size w w') := by
 obtain ⟨W, hW⟩ : ∃ W, (w.alloc (.cells #[.slice tq tn tc] 24)).alloc (.cells #[.int .i64 qk, .int .i64 kt, .int .u16 ki, .int .i64 tt, .int .u16 ti, .int .i64 qv, .string qs, .int .i64 qn] 30) = W := ⟨_, rfl⟩
 have hbx := Lib.hid (two_rowsI (xs := [.slice tq tn tc]) (ys := [.int .i64 qk, .int .i64 kt, .int .u16 ki, .int .i64 tt, .int .u16 ti, .int .i64 qv, .string qs, .int .i64 qn]) hW)
 have b_0 := Lib.hid hbx.out.1
 have s_0 := Lib.hid hbx.out.2.1
 have q_0 := Lib.hid hbx.out.2.2.1
 have hh := Lib.hid h
 have hqs' := Lib.hid hqs
 have hck := Lib.hid (check_any tq tn tc bs W (h.below b_0.out (Nat.le_refl _)))
 clear hbx h hqs
 have y0 : W.cell? ⟨w.heap.size, 0, none⟩ = some (.slice tq tn tc) := s_0.out.cell 0
 go_enter Try.func12, Try.ntmps12
 go_wp2_with fail
 clear hW y0
 obtain ⟨SE, hSE⟩ : ∃ x, schE bs = x := ⟨_, rfl⟩
 rw [hSE] at hck
 have hSE' := Lib.hid hSE
 clear hSE
 refine hck.out.mono ?_
 rintro e u1 ⟨rfl, hb⟩
 clear hck
 have s_1 := Lib.hid (s_0.out.below hb)
 have q_1 := Lib.hid (q_0.out.below hb)
 have b_1 := Lib.hid (b_0.out.trans (hb.mono b_0.out.size))
 clear hb s_0 q_0 b_0
 cases hS : okS bs with
 | false =>
   obtain rfl : SE = 150 := by rw [← hSE'.out]; unfold schE; rw [hS]; rfl
   have hq : Hid (chkQ bs ⟨qk, ⟨kt, ki⟩, ⟨tt, ti⟩, qv, qs, qn⟩ = 150) := by show _ = _; unfold chkQ; rw [hS]; rfl
   clear hS
   go_wp2
   go_ret
   exact ⟨by rw [hq.out]; rfl, b_1.out⟩
 | true =>
   obtain rfl : SE = 0 := by rw [← hSE'.out]; unfold schE; rw [hS]; rfl
   obtain ⟨R, hR⟩ : ∃ b, reqB bs ⟨qk, ⟨kt, ki⟩, ⟨tt, ti⟩, qv, qs, qn⟩ = b := ⟨_, rfl⟩
   have hq : Hid (chkQ bs ⟨qk, ⟨kt, ki⟩, ⟨tt, ti⟩, qv, qs, qn⟩ = if R = true then 0 else 250) := by show _ = _; unfold chkQ; rw [hS, hR]; rfl
   have hrq := isReq_any qk kt ki tt ti qv qs qn bs u1 tq tn tc (hh.out.below b_1.out (Nat.le_refl _)) hqs'.out
   rw [hR] at hrq
   have hrq := Lib.hid hrq
   clear hS hR
   have y0 : u1.cell? ⟨w.heap.size, 0, none⟩ = some (.slice tq tn tc) := s_1.out.cell 0
   have d0 : u1.cell? ⟨w.heap.size + 1, 0, none⟩ = some (.int .i64 qk) := q_1.out.cell 0
   have d1 : u1.cell? ⟨w.heap.size + 1, 1, none⟩ = some (.int .i64 kt) := q_1.out.cell 1
   have d2 : u1.cell? ⟨w.heap.size + 1, 2, none⟩ = some (.int .u16 ki) := q_1.out.cell 2
   have d3 : u1.cell? ⟨w.heap.size + 1, 3, none⟩ = some (.int .i64 tt) := q_1.out.cell 3
   have d4 : u1.cell? ⟨w.heap.size + 1, 4, none⟩ = some (.int .u16 ti) := q_1.out.cell 4
   have d5 : u1.cell? ⟨w.heap.size + 1, 5, none⟩ = some (.int .i64 qv) := q_1.out.cell 5
   have d6 : u1.cell? ⟨w.heap.size + 1, 6, none⟩ = some (.string qs) := q_1.out.cell 6
   have d7 : u1.cell? ⟨w.heap.size + 1, 7, none⟩ = some (.int .i64 qn) := q_1.out.cell 7
   go_wp2_with fail
   clear y0 d0 d1 d2 d3 d4 d5 d6 d7
   refine hrq.out.mono ?_
   rintro e u2 ⟨rfl, hb⟩
   clear hrq
   have s_2 := Lib.hid (s_1.out.below hb)
   have q_2 := Lib.hid (q_1.out.below hb)
   have b_2 := Lib.hid (b_1.out.trans (hb.mono b_1.out.size))
   clear hb s_1 q_1 b_1
   cases R with
   | true =>
     go_wp2
     go_ret
     exact ⟨by rw [hq.out]; rfl, b_2.out⟩
   | false =>
     go_wp2
     go_ret
     exact ⟨by rw [hq.out]; rfl, b_2.out⟩
section
variable {bs : List BdD} {l : List RowD} {q : ReqD}
theorem dm150 (hS : okS bs = false) : doM bs l q = (l, errA 150) := by
 have h : chkList bs l = 150 := by unfold chkList; rw [hS]; rfl
 unfold doM
 rw [if_pos (by rw [h]; decide), h]
theorem dm151 (hS : okS bs = true) (hL : okL bs l = false) : doM bs l q = (l, errA 151) := by
 have h : chkList bs l = 151 := by unfold chkList; rw [hS, hL]; rfl
 unfold doM
 rw [if_pos (by rw [h]; decide), h]
theorem dm250 (hS : okS bs = true) (hL : okL bs l = true) (hq : (reqB bs q && decide (q.k ≤ 8)) = false) : doM bs l q = (l, errA 250) := by
 have h : chkList bs l = 0 := by unfold chkList; rw [hS, hL]; rfl
 unfold doM
 rw [if_neg (by rw [h]; decide), if_pos hq]
theorem ansB_of {e1 k1 e2 k2 : Int} {a b : List RowD} (he : e1 = e2) (hk : k1 = k2) (h : a = b) : ansB e1 k1 a e2 k2 b = true := by
 subst he hk h
 unfold ansB
 rw [sameL_iff.2 rfl]
 simp
variable {H : Type} {enc : TypeId × Value → H} {W : World}
theorem open_req {r : Reach} {b0 : Nat} {v : Value} {d : DataW H} {p : List MemPlace} (hv : Value.okWide Try.prog W r b0 30 v) (h : DataW.Trod enc Try.prog W 0 (fun _ => true) true 30 v d p) :
 ∃ a : ReqD, v = .agg a.cells.toArray ∧ ReqOk a := by
 obtain ⟨cs, rfl, hsz⟩ := okWide_struct Try.underlying30 hv
 obtain ⟨fuel, hf⟩ := h
 obtain ⟨a, ha, oka⟩ := req_cells hf
 refine ⟨a, ?_, oka⟩
 have ha' : cs.toList = a.cells := ha
 rw [← ha']
end
theorem OwnR.empty {T : TypeId} (w : World) : OwnR T (w.alloc (.cells #[] T)) w.heap.size (.slice (some ⟨w.heap.size, 0, none⟩) 0 0) [] :=
 ⟨rfl, .inr ⟨_, 0, #[], rfl, Nat.le_refl _, heap_alloc_new w _, Nat.le_refl _, Nat.zero_le _, rfl, rfl⟩⟩
set_option maxHeartbeats 8000000 in
theorem does_law (tq : Option Addr) (tn tc : Nat) (bs : List BdD) (lq : Option Addr) (ln lc : Nat) (l : List RowD) (qa : ReqD) (w : World)
 (hs : SlOn w tq tn tc bs ∧ ∀ b ∈ bs, I64 b.lo ∧ I64 b.hi) (hr : RowsOn w lq ln lc l) (hq : ReqOk qa) :
 Calls Try.prog 3 #[.agg #[.slice tq tn tc], .slice lq ln lc, .agg qa.cells.toArray] w (LwPost w) := by
 obtain ⟨qk, ⟨kt, ki⟩, ⟨tt, ti⟩, qv, qs, qn⟩ := qa
 show Calls _ _ #[.agg #[.slice tq tn tc], .slice lq ln lc, .agg #[.int .i64 qk, .int .i64 kt, .int .u16 ki, .int .i64 tt, .int .u16 ti, .int .i64 qv, .string qs, .int .i64 qn]] _ _
 obtain ⟨W, hW⟩ : ∃ W, (w.alloc (.cells #[.slice tq tn tc] 24)).alloc (.cells #[.int .i64 qk, .int .i64 kt, .int .u16 ki, .int .i64 tt, .int .u16 ti, .int .i64 qv, .string qs, .int .i64 qn] 30) = W := ⟨_, rfl⟩
 have hbx := Lib.hid (two_rowsI (xs := [.slice tq tn tc]) (ys := [.int .i64 qk, .int .i64 kt, .int .u16 ki, .int .i64 tt, .int .u16 ti, .int .i64 qv, .string qs, .int .i64 qn]) hW)
 have b_i := Lib.hid hbx.out.1
 have s_i := Lib.hid hbx.out.2.1
 have q_i := Lib.hid hbx.out.2.2.1
 have hs' := Lib.hid hs.1
 have hsk' := Lib.hid hs.2
 have hr' := Lib.hid hr
 have hq' := Lib.hid hq
 have htm : tn ≤ maxLen := Nat.le_trans hs.1.le hs.1.cap
 have hlm := Nat.le_trans hr.le hr.cap
 have hsq : qs.size ≤ maxLen := hq.note
 have hsq' := Lib.hid hsq
 unfold maxLen at hlm hsq
 clear hs hr hq hbx
 go_enter Try.func3, Try.ntmps3
 go_wp2_with fail
 clear hW
 refine (wakes_any W).mono ?_
 rintro e u1 ⟨rfl, hb⟩
 have s_3 := Lib.hid (s_i.out.below hb)
 have q_3 := Lib.hid (q_i.out.below hb)
 have b_3 := Lib.hid (b_i.out.trans (hb.mono b_i.out.size))
 clear hb s_i q_i b_i
 have y0 : u1.cell? ⟨w.heap.size, 0, none⟩ = some (.slice tq tn tc) := s_3.out.cell 0
 go_wp2_with fail
 clear y0
 refine (over_any tq tn tc lq ln lc l u1 htm (hr'.out.below b_3.out (Nat.le_refl _))).mono ?_
 rintro e u2 ⟨B, rfl, hB, hb⟩
 have s_4 := Lib.hid (s_3.out.below hb)
 have q_4 := Lib.hid (q_3.out.below hb)
 have b_4 := Lib.hid (b_3.out.trans (hb.mono b_3.out.size))
 clear hb s_3 q_3 b_3
 cases B with
 | true =>
   go_wp2
   go_ret
   exact ⟨rfl, b_4.out⟩
 | false =>
   have hln : ln ≤ 100 := (hB rfl).2
   clear hB
   have y6 : u2.cell? ⟨w.heap.size + 1, 6, none⟩ = some (.string qs) := q_4.out.cell 6
   by_cases h1 : 100 < qs.size
   · have d1 : decide ((100 : Int) < qs.size) = true := decide_eq_true (by omega)
     go_wp2
     go_ret
     exact ⟨rfl, b_4.out⟩
   · have d1 : decide ((100 : Int) < qs.size) = false := decide_eq_false (by omega)
     clear h1
     obtain ⟨W3, hW3⟩ : ∃ W3, u2.alloc (.cells #[] 68) = W3 := ⟨_, rfl⟩
     have hb3 : Hid (Below u2.heap.size u2 W3) := by rw [← hW3]; exact (Below.refl _ _).alloc (Nat.le_refl _) _
     have hown : Hid (OwnR 68 W3 u2.heap.size (.slice (some ⟨u2.heap.size, 0, none⟩) 0 0) []) := by
      rw [← hW3]
      exact OwnR.empty u2
     have hr3 := Lib.hid ((hr'.out.below b_4.out (Nat.le_refl _)).below hb3.out (Nat.le_refl _))
     have h40 : Hid ((0 + ln) * 40 ≤ 140737488355328) := by show _ ≤ _; omega
     have h41 : Hid (0 + ln ≤ 140737488355328) := by show _ ≤ _; omega
     have hsz3 := Lib.hid hb3.out.size
     go_wp2_with (first
      | (at_builtin
         refine wpList_append_r Try.underlying25 infoRow rfl rfl (.tmp 26) (.tmp 27) rfl rfl rfl hown.out hr3.out h40.out h41.out hsz3.out ?_
         intro oq oc u3 h1 h2 h3
         rw [Nat.zero_add, List.nil_append] at h1
         have hbo : Hid (Below u2.heap.size u2 u3) := hb3.out.trans (grown_belowN h2 hb3.out.size (fun j hj => by cases hj; exact Nat.le_refl _))
         rw [Nat.zero_add]
         have hoo : Hid (RowsOn u3 oq ln oc l) := h1.reads hr'.out.ok
         clear h1 h2 h3
         have s_a := Lib.hid (s_4.out.below hbo.out)
         have q_a := Lib.hid (q_4.out.below hbo.out)
         have b_a := Lib.hid (b_4.out.trans (hbo.out.mono b_4.out.size))
         have y0 : u3.cell? ⟨w.heap.size, 0, none⟩ = some (.slice tq tn tc) := s_a.out.cell 0
         have d0 : u3.cell? ⟨w.heap.size + 1, 0, none⟩ = some (.int .i64 qk) := q_a.out.cell 0
         have d1 : u3.cell? ⟨w.heap.size + 1, 1, none⟩ = some (.int .i64 kt) := q_a.out.cell 1
         have d2 : u3.cell? ⟨w.heap.size + 1, 2, none⟩ = some (.int .u16 ki) := q_a.out.cell 2
         have d3 : u3.cell? ⟨w.heap.size + 1, 3, none⟩ = some (.int .i64 tt) := q_a.out.cell 3
         have d4 : u3.cell? ⟨w.heap.size + 1, 4, none⟩ = some (.int .u16 ti) := q_a.out.cell 4
         have d5 : u3.cell? ⟨w.heap.size + 1, 5, none⟩ = some (.int .i64 qv) := q_a.out.cell 5
         have d6 : u3.cell? ⟨w.heap.size + 1, 6, none⟩ = some (.string qs) := q_a.out.cell 6
         have d7 : u3.cell? ⟨w.heap.size + 1, 7, none⟩ = some (.int .i64 qn) := q_a.out.cell 7))
     try clear d1 y6
     try clear hown hb3 hr3 h40 h41 hsz3
     try clear hW3
     clear y0 d0 d1 d2 d3 d4 d5 d6 d7 s_4 q_4 b_4 hbo
     have o_a := hoo
     clear hoo
     refine (do_any tq tn tc oq ln oc qk kt ki tt ti qv qs qn bs l u3 (hs'.out.below b_a.out (Nat.le_refl _)) hsk'.out o_a.out (by omega) hq'.out).mono ?_
     rintro e u4 ⟨mq, mn, mc, ⟨ze, zq, zn, zc, zk⟩, he, ho, hz, hb⟩
     have he' : e = .returned (.tuple #[.slice mq mn mc, .agg #[.int .i64 ze, .slice zq zn zc, .int .i64 zk]]) := he
     subst he'
     obtain ⟨V4, hV⟩ : ∃ V, u4.alloc (.cells #[.int .i64 ze, .slice zq zn zc, .int .i64 zk] 35) = V := ⟨_, rfl⟩
     have hbx := one_rowI (xs := [.int .i64 ze, .slice zq zn zc, .int .i64 zk]) hV
     have hbV := hb.trans (hbx.1.mono hb.size)
     have s_5 := Lib.hid (s_a.out.below hbV)
     have q_5 := Lib.hid (q_a.out.below hbV)
     have o_5 := Lib.hid (o_a.out.below hbV (Nat.le_refl _))
     have b_5 := Lib.hid (b_a.out.trans (hbV.mono b_a.out.size))
     clear s_a q_a o_a b_a
     have zb_5 := Lib.hid hbx.2.1
     have m_5 := Lib.hid (ho.below hbx.1)
     have zr_5 := Lib.hid (hz.rows.below hbx.1)
     have hze : Hid (ze = (doM bs l ⟨qk, ⟨kt, ki⟩, ⟨tt, ti⟩, qv, qs, qn⟩).2.e) := hz.e
     have hzk : Hid (zk = (doM bs l ⟨qk, ⟨kt, ki⟩, ⟨tt, ti⟩, qv, qs, qn⟩).2.n) := hz.n
     clear he ho hz hb hbx hbV
     have y0 : V4.cell? ⟨w.heap.size, 0, none⟩ = some (.slice tq tn tc) := s_5.out.cell 0
     have d0 : V4.cell? ⟨w.heap.size + 1, 0, none⟩ = some (.int .i64 qk) := q_5.out.cell 0
     have d1 : V4.cell? ⟨w.heap.size + 1, 1, none⟩ = some (.int .i64 kt) := q_5.out.cell 1
     have d2 : V4.cell? ⟨w.heap.size + 1, 2, none⟩ = some (.int .u16 ki) := q_5.out.cell 2
     have d3 : V4.cell? ⟨w.heap.size + 1, 3, none⟩ = some (.int .i64 tt) := q_5.out.cell 3
     have d4 : V4.cell? ⟨w.heap.size + 1, 4, none⟩ = some (.int .u16 ti) := q_5.out.cell 4
     have d5 : V4.cell? ⟨w.heap.size + 1, 5, none⟩ = some (.int .i64 qv) := q_5.out.cell 5
     have d6 : V4.cell? ⟨w.heap.size + 1, 6, none⟩ = some (.string qs) := q_5.out.cell 6
     have d7 : V4.cell? ⟨w.heap.size + 1, 7, none⟩ = some (.int .i64 qn) := q_5.out.cell 7
     go_wp2_with fail
     clear y0 d0 d1 d2 d3 d4 d5 d6 d7
     try clear hV
     obtain ⟨CQ, hCQ⟩ : ∃ x, chkQ bs ⟨qk, ⟨kt, ki⟩, ⟨tt, ti⟩, qv, qs, qn⟩ = x := ⟨_, rfl⟩
     have hcr := checkReq_any tq tn tc bs qk kt ki tt ti qv qs qn V4 ((hs'.out.sch hsk'.out).below b_5.out (Nat.le_refl _)) hsq'.out
     rw [hCQ] at hcr
     refine hcr.mono ?_
     rintro e u5 ⟨rfl, hb⟩
     have hCQ' := Lib.hid hCQ
     clear hcr hCQ
     have s_6 := Lib.hid (s_5.out.below hb)
     have q_6 := Lib.hid (q_5.out.below hb)
     have o_6 := Lib.hid (o_5.out.below hb (Nat.le_refl _))
     have zb_6 := Lib.hid (zb_5.out.below hb)
     have m_6 := Lib.hid (m_5.out.below hb)
     have zr_6 := Lib.hid (zr_5.out.below hb)
     have b_6 := Lib.hid (b_5.out.trans (hb.mono b_5.out.size))
     clear hb s_5 q_5 o_5 zb_5 m_5 zr_5 b_5
     go_wp2_with fail
     refine (refSame_any oq ln oc l lq ln lc l u5 o_6.out (hr'.out.below b_6.out (Nat.le_refl _))).mono ?_
     rintro e u6 ⟨rfl, hb⟩
     rw [sameL_iff.2 (rfl : l = l)]
     have s_7 := Lib.hid (s_6.out.below hb)
     have q_7 := Lib.hid (q_6.out.below hb)
     have o_7 := Lib.hid (o_6.out.below hb (Nat.le_refl _))
     have zb_7 := Lib.hid (zb_6.out.below hb)
     have m_7 := Lib.hid (m_6.out.below hb)
     have zr_7 := Lib.hid (zr_6.out.below hb)
     have b_7 := Lib.hid (b_6.out.trans (hb.mono b_6.out.size))
     clear hb s_6 q_6 o_6 zb_6 m_6 zr_6 b_6
     cases hS : okS bs with
     | false =>
       obtain rfl : CQ = 150 := by rw [← hCQ'.out]; unfold chkQ; rw [hS]; rfl
       have hS' := Lib.hid hS
       clear hS
       have y0 : u6.cell? ⟨w.heap.size, 0, none⟩ = some (.slice tq tn tc) := s_7.out.cell 0
       go_wp2_with fail
       clear y0
       have hrt := right_any tq tn tc bs u6 ((hs'.out.sch hsk'.out).below b_7.out (Nat.le_refl _))
       rw [hS'.out] at hrt
       refine hrt.mono ?_
       rintro e u7 ⟨rfl, hb⟩
       clear hrt
       have s_8 := Lib.hid (s_7.out.below hb)
       have q_8 := Lib.hid (q_7.out.below hb)
       have o_8 := Lib.hid (o_7.out.below hb (Nat.le_refl _))
       have zb_8 := Lib.hid (zb_7.out.below hb)
       have m_8 := Lib.hid (m_7.out.below hb)
       have zr_8 := Lib.hid (zr_7.out.below hb)
       have b_8 := Lib.hid (b_7.out.trans (hb.mono b_7.out.size))
       clear hb s_7 q_7 o_7 zb_7 m_7 zr_7 b_7
       have y0 : u7.cell? ⟨w.heap.size, 0, none⟩ = some (.slice tq tn tc) := s_8.out.cell 0
       go_wp2_with fail
       clear y0
       have hrt := right_any tq tn tc bs u7 ((hs'.out.sch hsk'.out).below b_8.out (Nat.le_refl _))
       rw [hS'.out] at hrt
       refine hrt.mono ?_
       rintro e u8 ⟨rfl, hb⟩
       clear hrt
       have s_9 := Lib.hid (s_8.out.below hb)
       have q_9 := Lib.hid (q_8.out.below hb)
       have o_9 := Lib.hid (o_8.out.below hb (Nat.le_refl _))
       have zb_9 := Lib.hid (zb_8.out.below hb)
       have m_9 := Lib.hid (m_8.out.below hb)
       have zr_9 := Lib.hid (zr_8.out.below hb)
       have b_9 := Lib.hid (b_8.out.trans (hb.mono b_8.out.size))
       clear hb s_8 q_8 o_8 zb_8 m_8 zr_8 b_8
       have hdm : Hid (doM bs l ⟨qk, ⟨kt, ki⟩, ⟨tt, ti⟩, qv, qs, qn⟩ = (l, errA 150)) := dm150 hS'.out
       go_wp2_with fail
       have hsm := refSame_any mq mn mc (doM bs l ⟨qk, ⟨kt, ki⟩, ⟨tt, ti⟩, qv, qs, qn⟩).1 lq ln lc l u8 m_9.out.reads (hr'.out.below b_9.out (Nat.le_refl _))
       rw [show sameL (doM bs l ⟨qk, ⟨kt, ki⟩, ⟨tt, ti⟩, qv, qs, qn⟩).1 l = true by rw [hdm.out]; exact sameL_iff.2 rfl] at hsm
       refine hsm.mono ?_
       rintro e x1 ⟨rfl, hb⟩
       clear hsm
       have s_10 := Lib.hid (s_9.out.below hb)
       have q_10 := Lib.hid (q_9.out.below hb)
       have o_10 := Lib.hid (o_9.out.below hb (Nat.le_refl _))
       have zb_10 := Lib.hid (zb_9.out.below hb)
       have m_10 := Lib.hid (m_9.out.below hb)
       have zr_10 := Lib.hid (zr_9.out.below hb)
       have b_10 := Lib.hid (b_9.out.trans (hb.mono b_9.out.size))
       clear hb s_9 q_9 o_9 zb_9 m_9 zr_9 b_9
       have c0 : x1.cell? ⟨u4.heap.size, 0, none⟩ = some (.int .i64 ze) := zb_10.out.cell 0
       have c1 : x1.cell? ⟨u4.heap.size, 1, none⟩ = some (.slice zq zn zc) := zb_10.out.cell 1
       have c2 : x1.cell? ⟨u4.heap.size, 2, none⟩ = some (.int .i64 zk) := zb_10.out.cell 2
       go_wp2_with fail
       clear c0 c1 c2
       have hsm := ansR_any ze zq zn zc zk 150 none 0 0 0 (doM bs l ⟨qk, ⟨kt, ki⟩, ⟨tt, ti⟩, qv, qs, qn⟩).2.rows [] x1 zr_10.out.reads (RowsOn.none_ _)
       rw [show ansB ze zk (doM bs l ⟨qk, ⟨kt, ki⟩, ⟨tt, ti⟩, qv, qs, qn⟩).2.rows 150 0 [] = true from ansB_of (by rw [hze.out, hdm.out]; rfl) (by rw [hzk.out, hdm.out]; rfl) (by rw [hdm.out]; rfl)] at hsm
       refine hsm.mono ?_
       rintro e x2 ⟨rfl, hb⟩
       clear hsm
       have s_11 := Lib.hid (s_10.out.below hb)
       have q_11 := Lib.hid (q_10.out.below hb)
       have o_11 := Lib.hid (o_10.out.below hb (Nat.le_refl _))
       have zb_11 := Lib.hid (zb_10.out.below hb)
       have m_11 := Lib.hid (m_10.out.below hb)
       have zr_11 := Lib.hid (zr_10.out.below hb)
       have b_11 := Lib.hid (b_10.out.trans (hb.mono b_10.out.size))
       clear hb s_10 q_10 o_10 zb_10 m_10 zr_10 b_10
       go_wp2
       go_ret
       exact ⟨rfl, b_11.out⟩
     | true =>
       have hS' := Lib.hid hS
       clear hS
       have y0 : u6.cell? ⟨w.heap.size, 0, none⟩ = some (.slice tq tn tc) := s_7.out.cell 0
       go_wp2_with fail
       clear y0
       have hrt := right_any tq tn tc bs u6 ((hs'.out.sch hsk'.out).below b_7.out (Nat.le_refl _))
       rw [hS'.out] at hrt
       refine hrt.mono ?_
       rintro e u7 ⟨rfl, hb⟩
       clear hrt
       have s_12 := Lib.hid (s_7.out.below hb)
       have q_12 := Lib.hid (q_7.out.below hb)
       have o_12 := Lib.hid (o_7.out.below hb (Nat.le_refl _))
       have zb_12 := Lib.hid (zb_7.out.below hb)
       have m_12 := Lib.hid (m_7.out.below hb)
       have zr_12 := Lib.hid (zr_7.out.below hb)
       have b_12 := Lib.hid (b_7.out.trans (hb.mono b_7.out.size))
       clear hb s_7 q_7 o_7 zb_7 m_7 zr_7 b_7
       obtain ⟨R, hR⟩ : ∃ b, reqB bs ⟨qk, ⟨kt, ki⟩, ⟨tt, ti⟩, qv, qs, qn⟩ = b := ⟨_, rfl⟩
       have hrq := rightReq_any qk kt ki tt ti qv qs qn tq tn tc bs u7 ((hs'.out.sch hsk'.out).below b_12.out (Nat.le_refl _)) hS'.out hsq'.out
       rw [hR] at hrq
       have hrq := Lib.hid hrq
       have y0 : u7.cell? ⟨w.heap.size, 0, none⟩ = some (.slice tq tn tc) := s_12.out.cell 0
       have d0 : u7.cell? ⟨w.heap.size + 1, 0, none⟩ = some (.int .i64 qk) := q_12.out.cell 0
       have d1 : u7.cell? ⟨w.heap.size + 1, 1, none⟩ = some (.int .i64 kt) := q_12.out.cell 1
       have d2 : u7.cell? ⟨w.heap.size + 1, 2, none⟩ = some (.int .u16 ki) := q_12.out.cell 2
       have d3 : u7.cell? ⟨w.heap.size + 1, 3, none⟩ = some (.int .i64 tt) := q_12.out.cell 3
       have d4 : u7.cell? ⟨w.heap.size + 1, 4, none⟩ = some (.int .u16 ti) := q_12.out.cell 4
       have d5 : u7.cell? ⟨w.heap.size + 1, 5, none⟩ = some (.int .i64 qv) := q_12.out.cell 5
       have d6 : u7.cell? ⟨w.heap.size + 1, 6, none⟩ = some (.string qs) := q_12.out.cell 6
       have d7 : u7.cell? ⟨w.heap.size + 1, 7, none⟩ = some (.int .i64 qn) := q_12.out.cell 7
       go_wp2_with fail
       clear y0 d0 d1 d2 d3 d4 d5 d6 d7
       refine hrq.out.mono ?_
       rintro e u8 ⟨rfl, hb⟩
       clear hrq
       have s_13 := Lib.hid (s_12.out.below hb)
       have q_13 := Lib.hid (q_12.out.below hb)
       have o_13 := Lib.hid (o_12.out.below hb (Nat.le_refl _))
       have zb_13 := Lib.hid (zb_12.out.below hb)
       have m_13 := Lib.hid (m_12.out.below hb)
       have zr_13 := Lib.hid (zr_12.out.below hb)
       have b_13 := Lib.hid (b_12.out.trans (hb.mono b_12.out.size))
       clear hb s_12 q_12 o_12 zb_12 m_12 zr_12 b_12
       cases R with
       | false =>
         obtain rfl : CQ = 250 := by rw [← hCQ'.out]; unfold chkQ; rw [hS'.out, hR]; rfl
         have hR' := Lib.hid hR
         clear hR
         have y0 : u8.cell? ⟨w.heap.size, 0, none⟩ = some (.slice tq tn tc) := s_13.out.cell 0
         go_wp2_with fail
         clear y0
         have hrt := right_any tq tn tc bs u8 ((hs'.out.sch hsk'.out).below b_13.out (Nat.le_refl _))
         rw [hS'.out] at hrt
         refine hrt.mono ?_
         rintro e u9 ⟨rfl, hb⟩
         clear hrt
         have s_14 := Lib.hid (s_13.out.below hb)
         have q_14 := Lib.hid (q_13.out.below hb)
         have o_14 := Lib.hid (o_13.out.below hb (Nat.le_refl _))
         have zb_14 := Lib.hid (zb_13.out.below hb)
         have m_14 := Lib.hid (m_13.out.below hb)
         have zr_14 := Lib.hid (zr_13.out.below hb)
         have b_14 := Lib.hid (b_13.out.trans (hb.mono b_13.out.size))
         clear hb s_13 q_13 o_13 zb_13 m_13 zr_13 b_13
         cases hL : okL bs l with
         | false =>
           have hL' := Lib.hid hL
           clear hL
           have y0 : u9.cell? ⟨w.heap.size, 0, none⟩ = some (.slice tq tn tc) := s_14.out.cell 0
           go_wp2_with fail
           clear y0
           have hrt := rightList_any tq tn tc bs lq ln lc l u9 ((hs'.out.sch hsk'.out).below b_14.out (Nat.le_refl _)) (hr'.out.below b_14.out (Nat.le_refl _))
           rw [hL'.out] at hrt
           refine hrt.mono ?_
           rintro e u10 ⟨rfl, hb⟩
           clear hrt
           have s_15 := Lib.hid (s_14.out.below hb)
           have q_15 := Lib.hid (q_14.out.below hb)
           have o_15 := Lib.hid (o_14.out.below hb (Nat.le_refl _))
           have zb_15 := Lib.hid (zb_14.out.below hb)
           have m_15 := Lib.hid (m_14.out.below hb)
           have zr_15 := Lib.hid (zr_14.out.below hb)
           have b_15 := Lib.hid (b_14.out.trans (hb.mono b_14.out.size))
           clear hb s_14 q_14 o_14 zb_14 m_14 zr_14 b_14
           have hdm : Hid (doM bs l ⟨qk, ⟨kt, ki⟩, ⟨tt, ti⟩, qv, qs, qn⟩ = (l, errA 151)) := dm151 hS'.out hL'.out
           go_wp2_with fail
           have hsm := refSame_any mq mn mc (doM bs l ⟨qk, ⟨kt, ki⟩, ⟨tt, ti⟩, qv, qs, qn⟩).1 lq ln lc l u10 m_15.out.reads (hr'.out.below b_15.out (Nat.le_refl _))
           rw [show sameL (doM bs l ⟨qk, ⟨kt, ki⟩, ⟨tt, ti⟩, qv, qs, qn⟩).1 l = true by rw [hdm.out]; exact sameL_iff.2 rfl] at hsm
           refine hsm.mono ?_
           rintro e x1 ⟨rfl, hb⟩
           clear hsm
           have s_16 := Lib.hid (s_15.out.below hb)
           have q_16 := Lib.hid (q_15.out.below hb)
           have o_16 := Lib.hid (o_15.out.below hb (Nat.le_refl _))
           have zb_16 := Lib.hid (zb_15.out.below hb)
           have m_16 := Lib.hid (m_15.out.below hb)
           have zr_16 := Lib.hid (zr_15.out.below hb)
           have b_16 := Lib.hid (b_15.out.trans (hb.mono b_15.out.size))
           clear hb s_15 q_15 o_15 zb_15 m_15 zr_15 b_15
           have c0 : x1.cell? ⟨u4.heap.size, 0, none⟩ = some (.int .i64 ze) := zb_16.out.cell 0
           have c1 : x1.cell? ⟨u4.heap.size, 1, none⟩ = some (.slice zq zn zc) := zb_16.out.cell 1
           have c2 : x1.cell? ⟨u4.heap.size, 2, none⟩ = some (.int .i64 zk) := zb_16.out.cell 2
           go_wp2_with fail
           clear c0 c1 c2
           have hsm := ansR_any ze zq zn zc zk 151 none 0 0 0 (doM bs l ⟨qk, ⟨kt, ki⟩, ⟨tt, ti⟩, qv, qs, qn⟩).2.rows [] x1 zr_16.out.reads (RowsOn.none_ _)
           rw [show ansB ze zk (doM bs l ⟨qk, ⟨kt, ki⟩, ⟨tt, ti⟩, qv, qs, qn⟩).2.rows 151 0 [] = true from ansB_of (by rw [hze.out, hdm.out]; rfl) (by rw [hzk.out, hdm.out]; rfl) (by rw [hdm.out]; rfl)] at hsm
           refine hsm.mono ?_
           rintro e x2 ⟨rfl, hb⟩
           clear hsm
           have s_17 := Lib.hid (s_16.out.below hb)
           have q_17 := Lib.hid (q_16.out.below hb)
           have o_17 := Lib.hid (o_16.out.below hb (Nat.le_refl _))
           have zb_17 := Lib.hid (zb_16.out.below hb)
           have m_17 := Lib.hid (m_16.out.below hb)
           have zr_17 := Lib.hid (zr_16.out.below hb)
           have b_17 := Lib.hid (b_16.out.trans (hb.mono b_16.out.size))
           clear hb s_16 q_16 o_16 zb_16 m_16 zr_16 b_16
           go_wp2
           go_ret
           exact ⟨rfl, b_17.out⟩
         | true =>
           have hL' := Lib.hid hL
           clear hL
           have y0 : u9.cell? ⟨w.heap.size, 0, none⟩ = some (.slice tq tn tc) := s_14.out.cell 0
           go_wp2_with fail
           clear y0
           have hrt := rightList_any tq tn tc bs lq ln lc l u9 ((hs'.out.sch hsk'.out).below b_14.out (Nat.le_refl _)) (hr'.out.below b_14.out (Nat.le_refl _))
           rw [hL'.out] at hrt
           refine hrt.mono ?_
           rintro e u10 ⟨rfl, hb⟩
           clear hrt
           have s_18 := Lib.hid (s_14.out.below hb)
           have q_18 := Lib.hid (q_14.out.below hb)
           have o_18 := Lib.hid (o_14.out.below hb (Nat.le_refl _))
           have zb_18 := Lib.hid (zb_14.out.below hb)
           have m_18 := Lib.hid (m_14.out.below hb)
           have zr_18 := Lib.hid (zr_14.out.below hb)
           have b_18 := Lib.hid (b_14.out.trans (hb.mono b_14.out.size))
           clear hb s_14 q_14 o_14 zb_14 m_14 zr_14 b_14
           have hdm : Hid (doM bs l ⟨qk, ⟨kt, ki⟩, ⟨tt, ti⟩, qv, qs, qn⟩ = (l, errA 250)) := dm250 hS'.out hL'.out (by rw [hR'.out]; rfl)
           go_wp2_with fail
           have hsm := refSame_any mq mn mc (doM bs l ⟨qk, ⟨kt, ki⟩, ⟨tt, ti⟩, qv, qs, qn⟩).1 lq ln lc l u10 m_18.out.reads (hr'.out.below b_18.out (Nat.le_refl _))
           rw [show sameL (doM bs l ⟨qk, ⟨kt, ki⟩, ⟨tt, ti⟩, qv, qs, qn⟩).1 l = true by rw [hdm.out]; exact sameL_iff.2 rfl] at hsm
           refine hsm.mono ?_
           rintro e x1 ⟨rfl, hb⟩
           clear hsm
           have s_19 := Lib.hid (s_18.out.below hb)
           have q_19 := Lib.hid (q_18.out.below hb)
           have o_19 := Lib.hid (o_18.out.below hb (Nat.le_refl _))
           have zb_19 := Lib.hid (zb_18.out.below hb)
           have m_19 := Lib.hid (m_18.out.below hb)
           have zr_19 := Lib.hid (zr_18.out.below hb)
           have b_19 := Lib.hid (b_18.out.trans (hb.mono b_18.out.size))
           clear hb s_18 q_18 o_18 zb_18 m_18 zr_18 b_18
           have c0 : x1.cell? ⟨u4.heap.size, 0, none⟩ = some (.int .i64 ze) := zb_19.out.cell 0
           have c1 : x1.cell? ⟨u4.heap.size, 1, none⟩ = some (.slice zq zn zc) := zb_19.out.cell 1
           have c2 : x1.cell? ⟨u4.heap.size, 2, none⟩ = some (.int .i64 zk) := zb_19.out.cell 2
           go_wp2_with fail
           clear c0 c1 c2
           have hsm := ansR_any ze zq zn zc zk 250 none 0 0 0 (doM bs l ⟨qk, ⟨kt, ki⟩, ⟨tt, ti⟩, qv, qs, qn⟩).2.rows [] x1 zr_19.out.reads (RowsOn.none_ _)
           rw [show ansB ze zk (doM bs l ⟨qk, ⟨kt, ki⟩, ⟨tt, ti⟩, qv, qs, qn⟩).2.rows 250 0 [] = true from ansB_of (by rw [hze.out, hdm.out]; rfl) (by rw [hzk.out, hdm.out]; rfl) (by rw [hdm.out]; rfl)] at hsm
           refine hsm.mono ?_
           rintro e x2 ⟨rfl, hb⟩
           clear hsm
           have s_20 := Lib.hid (s_19.out.below hb)
           have q_20 := Lib.hid (q_19.out.below hb)
           have o_20 := Lib.hid (o_19.out.below hb (Nat.le_refl _))
           have zb_20 := Lib.hid (zb_19.out.below hb)
           have m_20 := Lib.hid (m_19.out.below hb)
           have zr_20 := Lib.hid (zr_19.out.below hb)
           have b_20 := Lib.hid (b_19.out.trans (hb.mono b_19.out.size))
           clear hb s_19 q_19 o_19 zb_19 m_19 zr_19 b_19
           go_wp2
           go_ret
           exact ⟨rfl, b_20.out⟩
       | true =>
         obtain rfl : CQ = 0 := by rw [← hCQ'.out]; unfold chkQ; rw [hS'.out, hR]; rfl
         have hR' := Lib.hid hR
         clear hR
         have d0 : u8.cell? ⟨w.heap.size + 1, 0, none⟩ = some (.int .i64 qk) := q_13.out.cell 0
         by_cases h8 : qk ≤ 8
         · have h8' := Lib.hid h8
           have n8 : decide ((8 : Int) < qk) = false := decide_eq_false (by omega)
           clear h8
           have y0 : u8.cell? ⟨w.heap.size, 0, none⟩ = some (.slice tq tn tc) := s_13.out.cell 0
           go_wp2_with fail
           clear y0
           have hrt := right_any tq tn tc bs u8 ((hs'.out.sch hsk'.out).below b_13.out (Nat.le_refl _))
           rw [hS'.out] at hrt
           refine hrt.mono ?_
           rintro e u9 ⟨rfl, hb⟩
           clear hrt
           have s_21 := Lib.hid (s_13.out.below hb)
           have q_21 := Lib.hid (q_13.out.below hb)
           have o_21 := Lib.hid (o_13.out.below hb (Nat.le_refl _))
           have zb_21 := Lib.hid (zb_13.out.below hb)
           have m_21 := Lib.hid (m_13.out.below hb)
           have zr_21 := Lib.hid (zr_13.out.below hb)
           have b_21 := Lib.hid (b_13.out.trans (hb.mono b_13.out.size))
           clear hb s_13 q_13 o_13 zb_13 m_13 zr_13 b_13
           cases hL : okL bs l with
           | false =>
             have hL' := Lib.hid hL
             clear hL
             have y0 : u9.cell? ⟨w.heap.size, 0, none⟩ = some (.slice tq tn tc) := s_21.out.cell 0
             go_wp2_with fail
             clear y0
             have hrt := rightList_any tq tn tc bs lq ln lc l u9 ((hs'.out.sch hsk'.out).below b_21.out (Nat.le_refl _)) (hr'.out.below b_21.out (Nat.le_refl _))
             rw [hL'.out] at hrt
             refine hrt.mono ?_
             rintro e u10 ⟨rfl, hb⟩
             clear hrt
             have s_22 := Lib.hid (s_21.out.below hb)
             have q_22 := Lib.hid (q_21.out.below hb)
             have o_22 := Lib.hid (o_21.out.below hb (Nat.le_refl _))
             have zb_22 := Lib.hid (zb_21.out.below hb)
             have m_22 := Lib.hid (m_21.out.below hb)
             have zr_22 := Lib.hid (zr_21.out.below hb)
             have b_22 := Lib.hid (b_21.out.trans (hb.mono b_21.out.size))
             clear hb s_21 q_21 o_21 zb_21 m_21 zr_21 b_21
             have hdm : Hid (doM bs l ⟨qk, ⟨kt, ki⟩, ⟨tt, ti⟩, qv, qs, qn⟩ = (l, errA 151)) := dm151 hS'.out hL'.out
             go_wp2_with fail
             have hsm := refSame_any mq mn mc (doM bs l ⟨qk, ⟨kt, ki⟩, ⟨tt, ti⟩, qv, qs, qn⟩).1 lq ln lc l u10 m_22.out.reads (hr'.out.below b_22.out (Nat.le_refl _))
             rw [show sameL (doM bs l ⟨qk, ⟨kt, ki⟩, ⟨tt, ti⟩, qv, qs, qn⟩).1 l = true by rw [hdm.out]; exact sameL_iff.2 rfl] at hsm
             refine hsm.mono ?_
             rintro e x1 ⟨rfl, hb⟩
             clear hsm
             have s_23 := Lib.hid (s_22.out.below hb)
             have q_23 := Lib.hid (q_22.out.below hb)
             have o_23 := Lib.hid (o_22.out.below hb (Nat.le_refl _))
             have zb_23 := Lib.hid (zb_22.out.below hb)
             have m_23 := Lib.hid (m_22.out.below hb)
             have zr_23 := Lib.hid (zr_22.out.below hb)
             have b_23 := Lib.hid (b_22.out.trans (hb.mono b_22.out.size))
             clear hb s_22 q_22 o_22 zb_22 m_22 zr_22 b_22
             have c0 : x1.cell? ⟨u4.heap.size, 0, none⟩ = some (.int .i64 ze) := zb_23.out.cell 0
             have c1 : x1.cell? ⟨u4.heap.size, 1, none⟩ = some (.slice zq zn zc) := zb_23.out.cell 1
             have c2 : x1.cell? ⟨u4.heap.size, 2, none⟩ = some (.int .i64 zk) := zb_23.out.cell 2
             go_wp2_with fail
             clear c0 c1 c2
             have hsm := ansR_any ze zq zn zc zk 151 none 0 0 0 (doM bs l ⟨qk, ⟨kt, ki⟩, ⟨tt, ti⟩, qv, qs, qn⟩).2.rows [] x1 zr_23.out.reads (RowsOn.none_ _)
             rw [show ansB ze zk (doM bs l ⟨qk, ⟨kt, ki⟩, ⟨tt, ti⟩, qv, qs, qn⟩).2.rows 151 0 [] = true from ansB_of (by rw [hze.out, hdm.out]; rfl) (by rw [hzk.out, hdm.out]; rfl) (by rw [hdm.out]; rfl)] at hsm
             refine hsm.mono ?_
             rintro e x2 ⟨rfl, hb⟩
             clear hsm
             have s_24 := Lib.hid (s_23.out.below hb)
             have q_24 := Lib.hid (q_23.out.below hb)
             have o_24 := Lib.hid (o_23.out.below hb (Nat.le_refl _))
             have zb_24 := Lib.hid (zb_23.out.below hb)
             have m_24 := Lib.hid (m_23.out.below hb)
             have zr_24 := Lib.hid (zr_23.out.below hb)
             have b_24 := Lib.hid (b_23.out.trans (hb.mono b_23.out.size))
             clear hb s_23 q_23 o_23 zb_23 m_23 zr_23 b_23
             go_wp2
             go_ret
             exact ⟨rfl, b_24.out⟩
           | true =>
             have hL' := Lib.hid hL
             clear hL
             have y0 : u9.cell? ⟨w.heap.size, 0, none⟩ = some (.slice tq tn tc) := s_21.out.cell 0
             go_wp2_with fail
             clear y0
             have hrt := rightList_any tq tn tc bs lq ln lc l u9 ((hs'.out.sch hsk'.out).below b_21.out (Nat.le_refl _)) (hr'.out.below b_21.out (Nat.le_refl _))
             rw [hL'.out] at hrt
             refine hrt.mono ?_
             rintro e u10 ⟨rfl, hb⟩
             clear hrt
             have s_25 := Lib.hid (s_21.out.below hb)
             have q_25 := Lib.hid (q_21.out.below hb)
             have o_25 := Lib.hid (o_21.out.below hb (Nat.le_refl _))
             have zb_25 := Lib.hid (zb_21.out.below hb)
             have m_25 := Lib.hid (m_21.out.below hb)
             have zr_25 := Lib.hid (zr_21.out.below hb)
             have b_25 := Lib.hid (b_21.out.trans (hb.mono b_21.out.size))
             clear hb s_21 q_21 o_21 zb_21 m_21 zr_21 b_21
             have hc0 : Hid (chkList bs l = 0) := by show _ = _; unfold chkList; rw [hS'.out, hL'.out]; rfl
             have y0 : u10.cell? ⟨w.heap.size, 0, none⟩ = some (.slice tq tn tc) := s_25.out.cell 0
             have d0 : u10.cell? ⟨w.heap.size + 1, 0, none⟩ = some (.int .i64 qk) := q_25.out.cell 0
             have d1 : u10.cell? ⟨w.heap.size + 1, 1, none⟩ = some (.int .i64 kt) := q_25.out.cell 1
             have d2 : u10.cell? ⟨w.heap.size + 1, 2, none⟩ = some (.int .u16 ki) := q_25.out.cell 2
             have d3 : u10.cell? ⟨w.heap.size + 1, 3, none⟩ = some (.int .i64 tt) := q_25.out.cell 3
             have d4 : u10.cell? ⟨w.heap.size + 1, 4, none⟩ = some (.int .u16 ti) := q_25.out.cell 4
             have d5 : u10.cell? ⟨w.heap.size + 1, 5, none⟩ = some (.int .i64 qv) := q_25.out.cell 5
             have d6 : u10.cell? ⟨w.heap.size + 1, 6, none⟩ = some (.string qs) := q_25.out.cell 6
             have d7 : u10.cell? ⟨w.heap.size + 1, 7, none⟩ = some (.int .i64 qn) := q_25.out.cell 7
             go_wp2_with fail
             clear y0 d0 d1 d2 d3 d4 d5 d6 d7
             refine (refDo_any qk kt ki tt ti qv qs qn tq tn tc bs lq ln lc l u10 ((hs'.out.sch hsk'.out).below b_25.out (Nat.le_refl _)) (hr'.out.below b_25.out (Nat.le_refl _)) hc0.out hq'.out hR'.out h8'.out).mono ?_
             rintro e x1 ⟨gq, gn, gc, aq, an, ac, ae, ak, rfl, hg, ha, hae, hak, hb⟩
             obtain ⟨V9, hV⟩ : ∃ V, x1.alloc (.cells #[.int .i64 ae, .slice aq an ac, .int .i64 ak] 35) = V := ⟨_, rfl⟩
             have hbx := one_rowI (xs := [.int .i64 ae, .slice aq an ac, .int .i64 ak]) hV
             have hbV := hb.trans (hbx.1.mono hb.size)
             have s_26 := Lib.hid (s_25.out.below hbV)
             have q_26 := Lib.hid (q_25.out.below hbV)
             have o_26 := Lib.hid (o_25.out.below hbV (Nat.le_refl _))
             have zb_26 := Lib.hid (zb_25.out.below hbV)
             have m_26 := Lib.hid (m_25.out.below hbV)
             have zr_26 := Lib.hid (zr_25.out.below hbV)
             have b_26 := Lib.hid (b_25.out.trans (hbV.mono b_25.out.size))
             clear s_25 q_25 o_25 zb_25 m_25 zr_25 b_25
             have ab_26 := Lib.hid hbx.2.1
             have g_26 := Lib.hid (hg.below hbx.1 (Nat.le_refl _))
             have ar_26 := Lib.hid (ha.below hbx.1 (Nat.le_refl _))
             have hae' := Lib.hid hae
             have hak' := Lib.hid hak
             clear hg ha hae hak hb hbx hbV
             go_wp2_with fail
             try clear hV
             have hsm := refSame_any mq mn mc (doM bs l ⟨qk, ⟨kt, ki⟩, ⟨tt, ti⟩, qv, qs, qn⟩).1 gq gn gc (doM bs l ⟨qk, ⟨kt, ki⟩, ⟨tt, ti⟩, qv, qs, qn⟩).1 V9 m_26.out.reads g_26.out
             rw [sameL_iff.2 (rfl : (doM bs l ⟨qk, ⟨kt, ki⟩, ⟨tt, ti⟩, qv, qs, qn⟩).1 = (doM bs l ⟨qk, ⟨kt, ki⟩, ⟨tt, ti⟩, qv, qs, qn⟩).1)] at hsm
             refine hsm.mono ?_
             rintro e x2 ⟨rfl, hb⟩
             clear hsm
             have s_27 := Lib.hid (s_26.out.below hb)
             have q_27 := Lib.hid (q_26.out.below hb)
             have o_27 := Lib.hid (o_26.out.below hb (Nat.le_refl _))
             have zb_27 := Lib.hid (zb_26.out.below hb)
             have m_27 := Lib.hid (m_26.out.below hb)
             have zr_27 := Lib.hid (zr_26.out.below hb)
             have ab_27 := Lib.hid (ab_26.out.below hb)
             have g_27 := Lib.hid (g_26.out.below hb (Nat.le_refl _))
             have ar_27 := Lib.hid (ar_26.out.below hb (Nat.le_refl _))
             have b_27 := Lib.hid (b_26.out.trans (hb.mono b_26.out.size))
             clear hb s_26 q_26 o_26 zb_26 m_26 zr_26 ab_26 g_26 ar_26 b_26
             have c0 : x2.cell? ⟨u4.heap.size, 0, none⟩ = some (.int .i64 ze) := zb_27.out.cell 0
             have c1 : x2.cell? ⟨u4.heap.size, 1, none⟩ = some (.slice zq zn zc) := zb_27.out.cell 1
             have c2 : x2.cell? ⟨u4.heap.size, 2, none⟩ = some (.int .i64 zk) := zb_27.out.cell 2
             have k0 : x2.cell? ⟨x1.heap.size, 0, none⟩ = some (.int .i64 ae) := ab_27.out.cell 0
             have k1 : x2.cell? ⟨x1.heap.size, 1, none⟩ = some (.slice aq an ac) := ab_27.out.cell 1
             have k2 : x2.cell? ⟨x1.heap.size, 2, none⟩ = some (.int .i64 ak) := ab_27.out.cell 2
             go_wp2_with fail
             clear c0 c1 c2 k0 k1 k2
             have hsm := ansR_any ze zq zn zc zk ae aq an ac ak (doM bs l ⟨qk, ⟨kt, ki⟩, ⟨tt, ti⟩, qv, qs, qn⟩).2.rows (doM bs l ⟨qk, ⟨kt, ki⟩, ⟨tt, ti⟩, qv, qs, qn⟩).2.rows x2 zr_27.out.reads ar_27.out
             rw [show ansB ze zk (doM bs l ⟨qk, ⟨kt, ki⟩, ⟨tt, ti⟩, qv, qs, qn⟩).2.rows ae ak (doM bs l ⟨qk, ⟨kt, ki⟩, ⟨tt, ti⟩, qv, qs, qn⟩).2.rows = true from ansB_of (by rw [hze.out, hae'.out]) (by rw [hzk.out, hak'.out]) rfl] at hsm
             refine hsm.mono ?_
             rintro e x3 ⟨rfl, hb⟩
             clear hsm
             have s_28 := Lib.hid (s_27.out.below hb)
             have q_28 := Lib.hid (q_27.out.below hb)
             have o_28 := Lib.hid (o_27.out.below hb (Nat.le_refl _))
             have zb_28 := Lib.hid (zb_27.out.below hb)
             have m_28 := Lib.hid (m_27.out.below hb)
             have zr_28 := Lib.hid (zr_27.out.below hb)
             have ab_28 := Lib.hid (ab_27.out.below hb)
             have g_28 := Lib.hid (g_27.out.below hb (Nat.le_refl _))
             have ar_28 := Lib.hid (ar_27.out.below hb (Nat.le_refl _))
             have b_28 := Lib.hid (b_27.out.trans (hb.mono b_27.out.size))
             clear hb s_27 q_27 o_27 zb_27 m_27 zr_27 ab_27 g_27 ar_27 b_27
             go_wp2
             go_ret
             exact ⟨rfl, b_28.out⟩
         · have h8' := Lib.hid h8
           have n8 : decide ((8 : Int) < qk) = true := decide_eq_true (by omega)
           clear h8
           have y0 : u8.cell? ⟨w.heap.size, 0, none⟩ = some (.slice tq tn tc) := s_13.out.cell 0
           go_wp2_with fail
           clear y0
           have hrt := right_any tq tn tc bs u8 ((hs'.out.sch hsk'.out).below b_13.out (Nat.le_refl _))
           rw [hS'.out] at hrt
           refine hrt.mono ?_
           rintro e u9 ⟨rfl, hb⟩
           clear hrt
           have s_29 := Lib.hid (s_13.out.below hb)
           have q_29 := Lib.hid (q_13.out.below hb)
           have o_29 := Lib.hid (o_13.out.below hb (Nat.le_refl _))
           have zb_29 := Lib.hid (zb_13.out.below hb)
           have m_29 := Lib.hid (m_13.out.below hb)
           have zr_29 := Lib.hid (zr_13.out.below hb)
           have b_29 := Lib.hid (b_13.out.trans (hb.mono b_13.out.size))
           clear hb s_13 q_13 o_13 zb_13 m_13 zr_13 b_13
           cases hL : okL bs l with
           | false =>
             have hL' := Lib.hid hL
             clear hL
             have y0 : u9.cell? ⟨w.heap.size, 0, none⟩ = some (.slice tq tn tc) := s_29.out.cell 0
             go_wp2_with fail
             clear y0
             have hrt := rightList_any tq tn tc bs lq ln lc l u9 ((hs'.out.sch hsk'.out).below b_29.out (Nat.le_refl _)) (hr'.out.below b_29.out (Nat.le_refl _))
             rw [hL'.out] at hrt
             refine hrt.mono ?_
             rintro e u10 ⟨rfl, hb⟩
             clear hrt
             have s_30 := Lib.hid (s_29.out.below hb)
             have q_30 := Lib.hid (q_29.out.below hb)
             have o_30 := Lib.hid (o_29.out.below hb (Nat.le_refl _))
             have zb_30 := Lib.hid (zb_29.out.below hb)
             have m_30 := Lib.hid (m_29.out.below hb)
             have zr_30 := Lib.hid (zr_29.out.below hb)
             have b_30 := Lib.hid (b_29.out.trans (hb.mono b_29.out.size))
             clear hb s_29 q_29 o_29 zb_29 m_29 zr_29 b_29
             have hdm : Hid (doM bs l ⟨qk, ⟨kt, ki⟩, ⟨tt, ti⟩, qv, qs, qn⟩ = (l, errA 151)) := dm151 hS'.out hL'.out
             go_wp2_with fail
             have hsm := refSame_any mq mn mc (doM bs l ⟨qk, ⟨kt, ki⟩, ⟨tt, ti⟩, qv, qs, qn⟩).1 lq ln lc l u10 m_30.out.reads (hr'.out.below b_30.out (Nat.le_refl _))
             rw [show sameL (doM bs l ⟨qk, ⟨kt, ki⟩, ⟨tt, ti⟩, qv, qs, qn⟩).1 l = true by rw [hdm.out]; exact sameL_iff.2 rfl] at hsm
             refine hsm.mono ?_
             rintro e x1 ⟨rfl, hb⟩
             clear hsm
             have s_31 := Lib.hid (s_30.out.below hb)
             have q_31 := Lib.hid (q_30.out.below hb)
             have o_31 := Lib.hid (o_30.out.below hb (Nat.le_refl _))
             have zb_31 := Lib.hid (zb_30.out.below hb)
             have m_31 := Lib.hid (m_30.out.below hb)
             have zr_31 := Lib.hid (zr_30.out.below hb)
             have b_31 := Lib.hid (b_30.out.trans (hb.mono b_30.out.size))
             clear hb s_30 q_30 o_30 zb_30 m_30 zr_30 b_30
             have c0 : x1.cell? ⟨u4.heap.size, 0, none⟩ = some (.int .i64 ze) := zb_31.out.cell 0
             have c1 : x1.cell? ⟨u4.heap.size, 1, none⟩ = some (.slice zq zn zc) := zb_31.out.cell 1
             have c2 : x1.cell? ⟨u4.heap.size, 2, none⟩ = some (.int .i64 zk) := zb_31.out.cell 2
             go_wp2_with fail
             clear c0 c1 c2
             have hsm := ansR_any ze zq zn zc zk 151 none 0 0 0 (doM bs l ⟨qk, ⟨kt, ki⟩, ⟨tt, ti⟩, qv, qs, qn⟩).2.rows [] x1 zr_31.out.reads (RowsOn.none_ _)
             rw [show ansB ze zk (doM bs l ⟨qk, ⟨kt, ki⟩, ⟨tt, ti⟩, qv, qs, qn⟩).2.rows 151 0 [] = true from ansB_of (by rw [hze.out, hdm.out]; rfl) (by rw [hzk.out, hdm.out]; rfl) (by rw [hdm.out]; rfl)] at hsm
             refine hsm.mono ?_
             rintro e x2 ⟨rfl, hb⟩
             clear hsm
             have s_32 := Lib.hid (s_31.out.below hb)
             have q_32 := Lib.hid (q_31.out.below hb)
             have o_32 := Lib.hid (o_31.out.below hb (Nat.le_refl _))
             have zb_32 := Lib.hid (zb_31.out.below hb)
             have m_32 := Lib.hid (m_31.out.below hb)
             have zr_32 := Lib.hid (zr_31.out.below hb)
             have b_32 := Lib.hid (b_31.out.trans (hb.mono b_31.out.size))
             clear hb s_31 q_31 o_31 zb_31 m_31 zr_31 b_31
             go_wp2
             go_ret
             exact ⟨rfl, b_32.out⟩
           | true =>
             have hL' := Lib.hid hL
             clear hL
             have y0 : u9.cell? ⟨w.heap.size, 0, none⟩ = some (.slice tq tn tc) := s_29.out.cell 0
             go_wp2_with fail
             clear y0
             have hrt := rightList_any tq tn tc bs lq ln lc l u9 ((hs'.out.sch hsk'.out).below b_29.out (Nat.le_refl _)) (hr'.out.below b_29.out (Nat.le_refl _))
             rw [hL'.out] at hrt
             refine hrt.mono ?_
             rintro e u10 ⟨rfl, hb⟩
             clear hrt
             have s_33 := Lib.hid (s_29.out.below hb)
             have q_33 := Lib.hid (q_29.out.below hb)
             have o_33 := Lib.hid (o_29.out.below hb (Nat.le_refl _))
             have zb_33 := Lib.hid (zb_29.out.below hb)
             have m_33 := Lib.hid (m_29.out.below hb)
             have zr_33 := Lib.hid (zr_29.out.below hb)
             have b_33 := Lib.hid (b_29.out.trans (hb.mono b_29.out.size))
             clear hb s_29 q_29 o_29 zb_29 m_29 zr_29 b_29
             have hdm : Hid (doM bs l ⟨qk, ⟨kt, ki⟩, ⟨tt, ti⟩, qv, qs, qn⟩ = (l, errA 250)) := dm250 hS'.out hL'.out (by rw [hR'.out]; show (true && decide (qk ≤ 8)) = false; rw [decide_eq_false (show ¬ qk ≤ 8 by have := h8'.out; omega)]; rfl)
             go_wp2_with fail
             have hsm := refSame_any mq mn mc (doM bs l ⟨qk, ⟨kt, ki⟩, ⟨tt, ti⟩, qv, qs, qn⟩).1 lq ln lc l u10 m_33.out.reads (hr'.out.below b_33.out (Nat.le_refl _))
             rw [show sameL (doM bs l ⟨qk, ⟨kt, ki⟩, ⟨tt, ti⟩, qv, qs, qn⟩).1 l = true by rw [hdm.out]; exact sameL_iff.2 rfl] at hsm
             refine hsm.mono ?_
             rintro e x1 ⟨rfl, hb⟩
             clear hsm
             have s_34 := Lib.hid (s_33.out.below hb)
             have q_34 := Lib.hid (q_33.out.below hb)
             have o_34 := Lib.hid (o_33.out.below hb (Nat.le_refl _))
             have zb_34 := Lib.hid (zb_33.out.below hb)
             have m_34 := Lib.hid (m_33.out.below hb)
             have zr_34 := Lib.hid (zr_33.out.below hb)
             have b_34 := Lib.hid (b_33.out.trans (hb.mono b_33.out.size))
             clear hb s_33 q_33 o_33 zb_33 m_33 zr_33 b_33
             have c0 : x1.cell? ⟨u4.heap.size, 0, none⟩ = some (.int .i64 ze) := zb_34.out.cell 0
             have c1 : x1.cell? ⟨u4.heap.size, 1, none⟩ = some (.slice zq zn zc) := zb_34.out.cell 1
             have c2 : x1.cell? ⟨u4.heap.size, 2, none⟩ = some (.int .i64 zk) := zb_34.out.cell 2
             go_wp2_with fail
             clear c0 c1 c2
             have hsm := ansR_any ze zq zn zc zk 250 none 0 0 0 (doM bs l ⟨qk, ⟨kt, ki⟩, ⟨tt, ti⟩, qv, qs, qn⟩).2.rows [] x1 zr_34.out.reads (RowsOn.none_ _)
             rw [show ansB ze zk (doM bs l ⟨qk, ⟨kt, ki⟩, ⟨tt, ti⟩, qv, qs, qn⟩).2.rows 250 0 [] = true from ansB_of (by rw [hze.out, hdm.out]; rfl) (by rw [hzk.out, hdm.out]; rfl) (by rw [hdm.out]; rfl)] at hsm
             refine hsm.mono ?_
             rintro e x2 ⟨rfl, hb⟩
             clear hsm
             have s_35 := Lib.hid (s_34.out.below hb)
             have q_35 := Lib.hid (q_34.out.below hb)
             have o_35 := Lib.hid (o_34.out.below hb (Nat.le_refl _))
             have zb_35 := Lib.hid (zb_34.out.below hb)
             have m_35 := Lib.hid (m_34.out.below hb)
             have zr_35 := Lib.hid (zr_34.out.below hb)
             have b_35 := Lib.hid (b_34.out.trans (hb.mono b_34.out.size))
             clear hb s_34 q_34 o_34 zb_34 m_34 zr_34 b_34
             go_wp2
             go_ret
             exact ⟨rfl, b_35.out⟩
set_option maxRecDepth 1000000 in
theorem does_lifted (os : Os) (started : os.Started) (H : Type) (enc : TypeId × Value → H) :
 ReturnsInHanded {} Try.checked os 3 .any (Rows.idealDoesSpec.pre6 enc Try.prog Try.f3 Rows.idealDoesRow.domain false) (Rows.idealDoesSpec.post enc Try.prog Try.f3 false true false false) := by
 refine returnsInHanded_of_change (C := Try.checked) own started (by kernel_rfl) Try.func3
  (ChangeSpec.witness6 (enc := enc) (C := Try.checked) false ⟨#[], #[.agg #[.slice none 0 0], .slice none 0 0, .agg #[.int .i64 0, .int .i64 0, .int .u16 0, .int .i64 0, .int .u16 0, .int .i64 0, .string ⟨#[]⟩, .int .i64 0]], []⟩ 8 (by kernel_rfl) (by kernel_rfl) (by kernel_rfl) (by kernel_rfl)) ?_
 intro W base args ds gs before hval0 hW _ _
 have hval : ∀ (j : Nat) t v, Try.f3.params[j]? = some t → args[j]? = some v → Value.okWide Try.prog W .any base t v := hval0
 have hW' := hW
 obtain ⟨p, q, hA0, hV, rfl, _, _⟩ := hW
 have hA : DataW.TrodAll enc Try.prog W 0 (fun _ => true) true Try.f3.params.toList args.toList ds p := hA0
 rw [Try.params3] at hA hval
 obtain ⟨v0, v1, v2, d0, d1, d2, p0, p1, p2, rfl, rfl, rfl, h0, h1, h2⟩ := trodAll_three hA
 obtain ⟨rfl, rfl⟩ := trodVars_none hV
 obtain ⟨q0, n0, c0, bs0, rfl, hs0⟩ := open_schS (hval 0 24 v0 rfl rfl) h0
 obtain ⟨a1, len1, cap1, rfl⟩ := okWide_slice Try.underlying25 (hval 1 25 v1 rfl rfl)
 obtain ⟨l1, hl1⟩ := open_rows h1
 obtain ⟨a2, rfl, ha2⟩ := open_req (hval 2 30 v2 rfl rfl) h2
 refine (does_law q0 n0 c0 bs0 a1 len1 cap1 l1 a2 W hs0 hl1 ha2).mono fun e W' ⟨he, hb⟩ => ?_
 subst he
 exact ⟨_, rfl, law_post laidOut (of_decide_eq_true (by kernel_rfl)) rfl (by kernel_rfl) Try.underlying4 hW' ⟨rfl, rfl, rfl⟩ hb⟩
set_option maxRecDepth 1000000 in
theorem does_holds : Rows.IdealDoesSaid :=
 OpenClaim.holds_of_wide 3 Try.f3 rfl rfl rfl rfl rfl rfl rfl ⟨rfl, rfl, rfl, rfl, rfl⟩ rfl rfl rfl rfl rfl (by kernel_rfl) Try.func3 (by kernel_rfl)
  (of_decide_eq_true (by kernel_rfl)) (by unfold Func.isWrapper; first | (rw [if_pos (by decide +kernel)]; kernel_rfl) | (rw [if_neg (by decide +kernel)]; exact ⟨rfl, rfl⟩))
  (fun os started H enc _ => does_lifted os started H enc)
end Go.Proofs.Ytkdkncbccofpdaa
