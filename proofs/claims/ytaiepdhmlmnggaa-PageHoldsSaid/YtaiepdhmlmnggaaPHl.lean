/- PageHolds: for every content, row and key the law returns true, and its arguments read as they did. No condition. -/
import Derived.Test.YtaiepdhmlmnggaaPHm
namespace Go.Proofs.Ytaiepdhmlmnggaa
open Go.ChangeShapes Go.WideShapes Go.ChangeAt Go.RowKit Go.Deep Go.Joins

theorem row_one (t id v : Int) (s : ByteArray) : ∀ x ∈ ([.int .i64 t, .int .u16 id, .int .i64 v, .string s] : List Value), x.oneCell' = true := RowD.one ⟨⟨t, id⟩, v, s⟩
section
set_option maxRecDepth 100000
variable {H : Type} {enc : TypeId × Value → H} {W : World}
theorem open_key {r : Reach} {b0 : Nat} {v : Value} {d : DataW H} {p : List MemPlace} (hv : Value.okWide Try.prog W r b0 28 v) (h : DataW.Trod enc Try.prog W 0 (fun _ => true) true 28 v d p) : ∃ k : KeyD, v = .agg #[.int .i64 k.t, .int .u16 k.id] ∧ KeyOk k := by
  obtain ⟨cs, rfl, hsz⟩ := okWide_struct Try.underlying28 hv
  obtain ⟨fuel, hf⟩ := h
  obtain ⟨l⟩ := cs
  obtain ⟨k, hk, ok⟩ := key_cells hf
  have e : l = k.cells := by simpa [Value.cells] using hk
  exact ⟨k, by rw [e]; rfl, ok⟩

theorem open_row {r : Reach} {b0 : Nat} {v : Value} {d : DataW H} {p : List MemPlace} (hv : Value.okWide Try.prog W r b0 30 v) (h : DataW.Trod enc Try.prog W 0 (fun _ => true) true 30 v d p) : ∃ x : RowD, v = .agg #[.int .i64 x.key.t, .int .u16 x.key.id, .int .i64 x.val, .string x.note] ∧ RowOk x := by
  obtain ⟨cs, rfl, hsz⟩ := okWide_struct Try.underlying30 hv
  obtain ⟨fuel, hf⟩ := h
  obtain ⟨l⟩ := cs
  obtain ⟨k, hk, ok⟩ := row_cells hf
  have e : l = k.cells := by simpa [Value.cells] using hk
  exact ⟨k, by rw [e]; rfl, ok⟩
end

set_option maxRecDepth 100000 in
set_option maxHeartbeats 16000000 in
theorem holds_law (k : Int) (rq : Option Addr) (rn rc : Nat) (kq : Option Addr) (kn kc : Nat) (c : ContD) (t id v : Int) (s : ByteArray) (ot oi : Int) (w : World) (hon : ContOn w k rq rn rc kq kn kc c) (hro : RowOk ⟨⟨t, id⟩, v, s⟩) (_hko : KeyOk ⟨ot, oi⟩) :
    Calls Try.prog 7 #[.agg #[.int .i64 k, .slice rq rn rc, .slice kq kn kc], .agg #[.int .i64 t, .int .u16 id, .int .i64 v, .string s], .agg #[.int .i64 ot, .int .u16 oi]] w (fun e w' => e = .returned (.bool true) ∧ Below w.heap.size w w') := by
  have hon : CV.On ⟨k, rq, rn, rc, kq, kn, kc⟩ w c := hon
  have hv := Lib.hid (fun u (hu : Below w.heap.size w u) => hon.below hu (Nat.le_refl _))
  have hro' := Lib.hid hro
  have hsn := hro.note
  unfold maxLen at hsn
  obtain ⟨W, hW⟩ : ∃ W, ((w.alloc (.cells #[.int .i64 k, .slice rq rn rc, .slice kq kn kc] 25)).alloc (.cells #[.int .i64 t, .int .u16 id, .int .i64 v, .string s] 30)).alloc (.cells #[.int .i64 ot, .int .u16 oi] 28) = W := ⟨_, rfl⟩
  have hbx := Lib.hid (three_rows (xs := [.int .i64 k, .slice rq rn rc, .slice kq kn kc]) (ys := [.int .i64 t, .int .u16 id, .int .i64 v, .string s]) (zs := [.int .i64 ot, .int .u16 oi]) hW)
  have hs := sizeCont (.int .i64 k) (.slice rq rn rc) (.slice kq kn kc)
  have hsr := sizeRow t id v s
  have hsk := sizeKey t id
  have hso := sizeKey ot oi
  clear hon hro _hko
  go_enter Try.func7, Try.ntmps7
  go_wp2_with fail
  clear hW
  refine (wakes_any W).mono ?_
  rintro e w1 ⟨rfl, hb⟩
  have hd := Lib.hid (below_step hb hbx.out.1)
  have bc := Lib.hid (hbx.out.2.1.boxed.below hb (Nat.le_refl _))
  have br := Lib.hid (hbx.out.2.2.1.boxed.below hb (Nat.le_refl _))
  have bo := Lib.hid (hbx.out.2.2.2.1.boxed.below hb (Nat.le_refl _))
  clear hb hbx
  obtain ⟨wO, hwO⟩ : ∃ x, w1.alloc (.cells #[.int .i64 k, .slice rq rn rc, .slice kq kn kc] 25) = x := ⟨_, rfl⟩
  have hbO := Lib.hid (one_box (xs := [.int .i64 k, .slice rq rn rc, .slice kq kn kc]) hwO)
  have hdO := Lib.hid (below_step hbO.out.1 hd.out)
  have hov := Lib.hid (over_any 1 w1.heap.size wO (by decide) (fun j hj => ⟨⟨k, rq, rn, rc, kq, kn, kc⟩, c, hv.out _ hdO.out, by
    obtain rfl : j = 0 := by omega
    exact hbO.out.2.1⟩))
  go_wp2_with (first
    | (with_reducible refine wpList_load_at rfl 25 (.tmp 3) rfl Try.underlying25 rfl hs rfl bc.out.all ?_))
  refine hov.out.mono ?_
  clear hov hwO
  rintro e w2 ⟨o, rfl, hb⟩
  have hd := Lib.hid (below_step hb hdO.out)
  have bc := Lib.hid ((bc.out.below hbO.out.1 (Nat.le_refl _)).below hb (Nat.le_refl _))
  have br := Lib.hid ((br.out.below hbO.out.1 (Nat.le_refl _)).below hb (Nat.le_refl _))
  have bo := Lib.hid ((bo.out.below hbO.out.1 (Nat.le_refl _)).below hb (Nat.le_refl _))
  have r2 := br.out.cell 3 rfl
  clear hb hdO hbO
  cases o with
  | true =>
    clear hv hro'
    go_wp2
    go_ret
    exact ⟨rfl, hd.out⟩
  | false =>
    by_cases hlong : 100 < s.size
    · have hl1 : decide ((100 : Int) < s.size) = true := decide_eq_true (by omega)
      clear hv hro'
      go_wp2
      go_ret
      exact ⟨rfl, hd.out⟩
    have hl1 : decide ((100 : Int) < s.size) = false := decide_eq_false (by omega)
    clear hsn
    go_wp2_with (first
      | (with_reducible refine wpList_load_at rfl 25 (.tmp 3) rfl Try.underlying25 rfl hs rfl bc.out.all ?_)
      | (with_reducible refine wpList_load_at rfl 28 (.tmp 5) rfl Try.underlying28 rfl hso rfl bo.out.all ?_))
    refine (get_any ⟨k, rq, rn, rc, kq, kn, kc⟩ c ot oi w2 (hv.out _ hd.out)).mono ?_
    rintro e w3 ⟨⟨⟨ta, ia⟩, va, sa⟩, ea, rfl, hga, hoka, hb⟩
    have hd := Lib.hid (below_step hb hd.out)
    have bc := Lib.hid (bc.out.below hb (Nat.le_refl _))
    have br := Lib.hid (br.out.below hb (Nat.le_refl _))
    have bo := Lib.hid (bo.out.below hb (Nat.le_refl _))
    unfold rowV
    have hga := Lib.hid hga
    clear hb r2 hl1 hlong hoka
    obtain ⟨y0, hy0⟩ : ∃ x, w3.alloc (.cells #[.int .i64 0, .int .u16 0, .int .i64 0, .string ⟨#[]⟩] 30) = x := ⟨_, rfl⟩
    have y0r := Lib.hid (one_row (xs := [.int .i64 0, .int .u16 0, .int .i64 0, .string ⟨#[]⟩]) hy0)
    have y0j := Lib.hid y0r.out.2.1
    have y0b := Lib.hid y0r.out.1
    clear y0r
    go_wp2_with (first
      | ((with_reducible refine wpList_store_at rfl 30 (.tmp 7) (.tmp 39) rfl (o := 0) (vs := [.int .i64 ta, .int .u16 ia, .int .i64 va, .string sa]) rfl rfl y0j.out (sizeRow ta ia va sa) (Nat.le_refl _) (row_one ta ia va sa) ?_)
         intro y0w h9 hg9
         have xa : Hid (Boxed y0w w3.heap.size [.int .i64 ta, .int .u16 ia, .int .i64 va, .string sa]) := RowV.boxed h9
         have y0q := Lib.hid (Gr.below hg9 y0b.out (Nat.le_refl _))
         have bc := Lib.hid (bc.out.below y0q.out (Nat.le_refl _))
         have br := Lib.hid (br.out.below y0q.out (Nat.le_refl _))
         have bo := Lib.hid (bo.out.below y0q.out (Nat.le_refl _))
         have hd := Lib.hid (below_step y0q.out hd.out)
         clear h9 hg9 y0j y0b y0q)
      | (with_reducible refine wpList_load_at rfl 25 (.tmp 3) rfl Try.underlying25 rfl hs rfl bc.out.all ?_)
      | (with_reducible refine wpList_load_at rfl 30 (.tmp 4) rfl Try.underlying30 rfl hsr rfl br.out.all ?_))
    refine (put_any ⟨k, rq, rn, rc, kq, kn, kc⟩ c t id v s y0w (hv.out _ hd.out) hro'.out).mono ?_
    rintro e w4 ⟨⟨kp, rqp, rnp, rcp, kqp, knp, kcp⟩, dp, ep, rfl, hP, honp, hb⟩
    have hd := Lib.hid (below_step hb hd.out)
    have bc := Lib.hid (bc.out.below hb (Nat.le_refl _))
    have br := Lib.hid (br.out.below hb (Nat.le_refl _))
    have bo := Lib.hid (bo.out.below hb (Nat.le_refl _))
    have xa := Lib.hid (xa.out.below hb (Nat.le_refl _))
    have hP := Lib.hid hP
    have honp := Lib.hid honp
    simp only [CV.val]
    clear hb
    have hvp := Lib.hid (fun u (hu : Below w4.heap.size w4 u) => CV.On.below honp.out hu (Nat.le_refl _))
    clear honp
    obtain ⟨y1, hy1⟩ : ∃ x, w4.alloc (.cells #[.int .i64 0, .slice none 0 0, .slice none 0 0] 25) = x := ⟨_, rfl⟩
    have y1r := Lib.hid (one_row (xs := [.int .i64 0, .slice none 0 0, .slice none 0 0]) hy1)
    have y1j := Lib.hid y1r.out.2.1
    have y1b := Lib.hid y1r.out.1
    clear y1r
    by_cases hep : ep = 0
    · subst hep
      have hqp : Hid (Below w4.heap.size w4 w4) := Below.refl _ _
      go_wp2_with (first
        | ((with_reducible refine wpList_store_at rfl 25 (.tmp 9) (.tmp 45) rfl (o := 0) (vs := [.int .i64 kp, .slice rqp rnp rcp, .slice kqp knp kcp]) rfl rfl y1j.out (sizeCont (.int .i64 kp) (.slice rqp rnp rcp) (.slice kqp knp kcp)) (Nat.le_refl _) (cont_one _ _ _ _ _ _ _) ?_)
           intro y1w h9 hg9
           have xp : Hid (Boxed y1w w4.heap.size [.int .i64 kp, .slice rqp rnp rcp, .slice kqp knp kcp]) := RowV.boxed h9
           have y1q := Lib.hid (Gr.below hg9 y1b.out (Nat.le_refl _))
           have bc := Lib.hid (bc.out.below y1q.out (Nat.le_refl _))
           have br := Lib.hid (br.out.below y1q.out (Nat.le_refl _))
           have bo := Lib.hid (bo.out.below y1q.out (Nat.le_refl _))
           have xa := Lib.hid (xa.out.below y1q.out (Nat.le_refl _))
           have hqp := Lib.hid (below_step y1q.out hqp.out)
           have hd := Lib.hid (below_step y1q.out hd.out)
           clear h9 hg9 y1j y1b y1q)
        | (with_reducible refine wpList_load_at rfl 25 (.tmp 9) rfl Try.underlying25 rfl (sizeCont (.int .i64 kp) (.slice rqp rnp rcp) (.slice kqp knp kcp)) rfl xp.out.all ?_)
        | (with_reducible refine wpList_load_at rfl 28 (.tmp 51) rfl Try.underlying28 rfl hsk rfl (Boxed.key br.out) ?_))
      refine (get_any ⟨kp, rqp, rnp, rcp, kqp, knp, kcp⟩ dp t id y1w (hvp.out _ hqp.out)).mono ?_
      rintro e w5 ⟨⟨⟨te, ie⟩, ve, se⟩, ee, rfl, hge, hoke, hb⟩
      have hd := Lib.hid (below_step hb hd.out)
      have bc := Lib.hid (bc.out.below hb (Nat.le_refl _))
      have br := Lib.hid (br.out.below hb (Nat.le_refl _))
      have bo := Lib.hid (bo.out.below hb (Nat.le_refl _))
      have xa := Lib.hid (xa.out.below hb (Nat.le_refl _))
      have xp := Lib.hid (xp.out.below hb (Nat.le_refl _))
      have hqp := Lib.hid (below_step hb hqp.out)
      unfold rowV
      obtain ⟨h1, rfl⟩ := put_get hP.out hge
      cases h1
      clear hb hge hoke
      obtain ⟨y2, hy2⟩ : ∃ x, w5.alloc (.cells #[.int .i64 0, .int .u16 0, .int .i64 0, .string ⟨#[]⟩] 30) = x := ⟨_, rfl⟩
      have y2r := Lib.hid (one_row (xs := [.int .i64 0, .int .u16 0, .int .i64 0, .string ⟨#[]⟩]) hy2)
      have y2j := Lib.hid y2r.out.2.1
      have y2b := Lib.hid y2r.out.1
      clear y2r
      go_wp2_with (first
        | ((with_reducible refine wpList_store_at rfl 30 (.tmp 11) (.tmp 54) rfl (o := 0) (vs := [.int .i64 t, .int .u16 id, .int .i64 v, .string s]) rfl rfl y2j.out (sizeRow t id v s) (Nat.le_refl _) (row_one t id v s) ?_)
           intro y2w h9 hg9
           have xe : Hid (Boxed y2w w5.heap.size [.int .i64 t, .int .u16 id, .int .i64 v, .string s]) := RowV.boxed h9
           have y2q := Lib.hid (Gr.below hg9 y2b.out (Nat.le_refl _))
           have bc := Lib.hid (bc.out.below y2q.out (Nat.le_refl _))
           have br := Lib.hid (br.out.below y2q.out (Nat.le_refl _))
           have bo := Lib.hid (bo.out.below y2q.out (Nat.le_refl _))
           have xa := Lib.hid (xa.out.below y2q.out (Nat.le_refl _))
           have xp := Lib.hid (xp.out.below y2q.out (Nat.le_refl _))
           have hqp := Lib.hid (below_step y2q.out hqp.out)
           have hd := Lib.hid (below_step y2q.out hd.out)
           clear h9 hg9 y2j y2b y2q)
        | (with_reducible refine wpList_load_at rfl 25 (.tmp 9) rfl Try.underlying25 rfl (sizeCont (.int .i64 kp) (.slice rqp rnp rcp) (.slice kqp knp kcp)) rfl xp.out.all ?_)
        | (with_reducible refine wpList_load_at rfl 28 (.tmp 5) rfl Try.underlying28 rfl hso rfl bo.out.all ?_))
      refine (get_any ⟨kp, rqp, rnp, rcp, kqp, knp, kcp⟩ dp ot oi y2w (hvp.out _ hqp.out)).mono ?_
      rintro e wf ⟨⟨⟨tf, jf⟩, vf, sf⟩, ef, rfl, hgf, hokf, hb⟩
      have hd := Lib.hid (below_step hb hd.out)
      have bc := Lib.hid (bc.out.below hb (Nat.le_refl _))
      have br := Lib.hid (br.out.below hb (Nat.le_refl _))
      have bo := Lib.hid (bo.out.below hb (Nat.le_refl _))
      have xa := Lib.hid (xa.out.below hb (Nat.le_refl _))
      have xp := Lib.hid (xp.out.below hb (Nat.le_refl _))
      have xe := Lib.hid (xe.out.below hb (Nat.le_refl _))
      have hqp := Lib.hid (below_step hb hqp.out)
      unfold rowV
      have hoth : Hid ((⟨ot, oi⟩ : KeyD) ≠ ⟨t, id⟩ → (⟨⟨tf, jf⟩, vf, sf⟩ : RowD) = ⟨⟨ta, ia⟩, va, sa⟩ ∧ ef = ea) := fun hne => put_other hP.out hne hga.out hgf
      clear hb hgf hokf
      obtain ⟨y3, hy3⟩ : ∃ x, wf.alloc (.cells #[.int .i64 0, .int .u16 0, .int .i64 0, .string ⟨#[]⟩] 30) = x := ⟨_, rfl⟩
      have y3r := Lib.hid (one_row (xs := [.int .i64 0, .int .u16 0, .int .i64 0, .string ⟨#[]⟩]) hy3)
      have y3j := Lib.hid y3r.out.2.1
      have y3b := Lib.hid y3r.out.1
      clear y3r
      go_wp2_with (first
        | ((with_reducible refine wpList_store_at rfl 30 (.tmp 13) (.tmp 60) rfl (o := 0) (vs := [.int .i64 tf, .int .u16 jf, .int .i64 vf, .string sf]) rfl rfl y3j.out (sizeRow tf jf vf sf) (Nat.le_refl _) (row_one tf jf vf sf) ?_)
           intro y3w h9 hg9
           have xf : Hid (Boxed y3w wf.heap.size [.int .i64 tf, .int .u16 jf, .int .i64 vf, .string sf]) := RowV.boxed h9
           have y3q := Lib.hid (Gr.below hg9 y3b.out (Nat.le_refl _))
           have bc := Lib.hid (bc.out.below y3q.out (Nat.le_refl _))
           have br := Lib.hid (br.out.below y3q.out (Nat.le_refl _))
           have bo := Lib.hid (bo.out.below y3q.out (Nat.le_refl _))
           have xa := Lib.hid (xa.out.below y3q.out (Nat.le_refl _))
           have xp := Lib.hid (xp.out.below y3q.out (Nat.le_refl _))
           have xe := Lib.hid (xe.out.below y3q.out (Nat.le_refl _))
           have hqp := Lib.hid (below_step y3q.out hqp.out)
           have hd := Lib.hid (below_step y3q.out hd.out)
           clear h9 hg9 y3j y3b y3q)
        | (with_reducible refine wpList_load_at rfl 25 (.tmp 9) rfl Try.underlying25 rfl (sizeCont (.int .i64 kp) (.slice rqp rnp rcp) (.slice kqp knp kcp)) rfl xp.out.all ?_))
      refine (check_any kp rqp rnp rcp kqp knp kcp dp y3w (hvp.out _ hqp.out)).mono ?_
      rintro e wc ⟨xk, rfl, hxk, hb⟩
      have hd := Lib.hid (below_step hb hd.out)
      have bc := Lib.hid (bc.out.below hb (Nat.le_refl _))
      have br := Lib.hid (br.out.below hb (Nat.le_refl _))
      have bo := Lib.hid (bo.out.below hb (Nat.le_refl _))
      have xa := Lib.hid (xa.out.below hb (Nat.le_refl _))
      have xp := Lib.hid (xp.out.below hb (Nat.le_refl _))
      have xe := Lib.hid (xe.out.below hb (Nat.le_refl _))
      have xf := Lib.hid (xf.out.below hb (Nat.le_refl _))
      have hqp := Lib.hid (below_step hb hqp.out)
      have hxk0 : xk = 0 := by
        rcases hxk with ⟨h, _⟩ | ⟨_, h⟩
        · exact h
        · exact absurd (hP.out.ok rfl).2.2.1 h
      subst hxk0
      clear hb hxk
      have hnk := fun u => neq_key u ot oi t id
      have hnr := fun u => neq_row u t id v s t id v s
      rw [eqR_iff.2 rfl] at hnr
      have hnf := fun u => neq_row u tf jf vf sf ta ia va sa
      by_cases hsame : (⟨ot, oi⟩ : KeyD) = ⟨t, id⟩
      · have hk1 : eqK ⟨ot, oi⟩ ⟨t, id⟩ = true := eqK_iff.2 hsame
        rw [hk1] at hnk
        clear hoth hsame hk1 hP hvp hqp
        have e0 := xe.out.cell 0 rfl
        have e1 := xe.out.cell 1 rfl
        have e2 := xe.out.cell 2 rfl
        have e3 := xe.out.cell 3 rfl
        have r0 := br.out.cell 0 rfl
        have r1 := br.out.cell 1 rfl
        have r2 := br.out.cell 2 rfl
        have r3 := br.out.cell 3 rfl
        have o0 := bo.out.cell 0 rfl
        have o1 := bo.out.cell 1 rfl
        have f0 := xf.out.cell 0 rfl
        have f1 := xf.out.cell 1 rfl
        have f2 := xf.out.cell 2 rfl
        have f3 := xf.out.cell 3 rfl
        have a0 := xa.out.cell 0 rfl
        have a1 := xa.out.cell 1 rfl
        have a2 := xa.out.cell 2 rfl
        have a3 := xa.out.cell 3 rfl
        go_wp2_with (first
          | (with_reducible refine wpList_load_at rfl 25 (.tmp 3) rfl Try.underlying25 rfl hs rfl bc.out.all ?_)
          | (with_reducible refine wpList_load_at rfl 28 (.tmp 92) rfl Try.underlying28 rfl hsk rfl (Boxed.key br.out) ?_))
        clear e0 e1 e2 e3 r0 r1 r2 r3 o0 o1 f0 f1 f2 f3 a0 a1 a2 a3
        refine (take_any ⟨k, rq, rn, rc, kq, kn, kc⟩ c t id wc (hv.out _ hd.out)).mono ?_
        rintro e w6 ⟨⟨kt, rqt, rnt, rct, kqt, knt, kct⟩, dt, ⟨⟨tt, it⟩, vt, st⟩, et, rfl, hT, hont, hokt, hb⟩
        have hd := Lib.hid (below_step hb hd.out)
        have bc := Lib.hid (bc.out.below hb (Nat.le_refl _))
        have br := Lib.hid (br.out.below hb (Nat.le_refl _))
        have bo := Lib.hid (bo.out.below hb (Nat.le_refl _))
        have xa := Lib.hid (xa.out.below hb (Nat.le_refl _))
        have xp := Lib.hid (xp.out.below hb (Nat.le_refl _))
        have xe := Lib.hid (xe.out.below hb (Nat.le_refl _))
        have xf := Lib.hid (xf.out.below hb (Nat.le_refl _))
        unfold rowV
        have hT := Lib.hid hT
        have hokt := Lib.hid hokt
        simp only [CV.val]
        clear hb
        have hvt := Lib.hid (fun u (hu : Below w6.heap.size w6 u) => CV.On.below hont hu (Nat.le_refl _))
        clear hont
        have hq : Hid (Below w6.heap.size w6 w6) := Below.refl _ _
        obtain ⟨y4, hy4⟩ : ∃ x, (w6.alloc (.cells #[.int .i64 0, .slice none 0 0, .slice none 0 0] 25)).alloc (.cells #[.int .i64 0, .int .u16 0, .int .i64 0, .string ⟨#[]⟩] 30) = x := ⟨_, rfl⟩
        have y4r := Lib.hid (two_rows (xs := [.int .i64 0, .slice none 0 0, .slice none 0 0]) (ys := [.int .i64 0, .int .u16 0, .int .i64 0, .string ⟨#[]⟩]) hy4)
        have y4j := Lib.hid y4r.out.2.1
        have y4k := Lib.hid y4r.out.2.2.1
        have y4b := Lib.hid y4r.out.1
        clear y4r
        by_cases het : et = 0
        · subst het
          go_wp2_with (first
            | ((with_reducible refine wpList_store_at rfl 25 (.tmp 15) (.tmp 95) rfl (o := 0) (vs := [.int .i64 kt, .slice rqt rnt rct, .slice kqt knt kct]) rfl rfl y4j.out (sizeCont (.int .i64 kt) (.slice rqt rnt rct) (.slice kqt knt kct)) (Nat.le_refl _) (cont_one _ _ _ _ _ _ _) ?_)
               intro y4v h9 hg9
               have xt : Hid (Boxed y4v w6.heap.size [.int .i64 kt, .slice rqt rnt rct, .slice kqt knt kct]) := RowV.boxed h9
               have y4k := Lib.hid (RowV.gr y4k.out hg9 (by omega))
               have y4b := Lib.hid (Gr.below hg9 y4b.out (Nat.le_refl _))
               clear h9 hg9 y4j)
            | ((with_reducible refine wpList_store_at rfl 30 (.tmp 16) (.tmp 96) rfl (o := 0) (vs := [.int .i64 tt, .int .u16 it, .int .i64 vt, .string st]) rfl rfl y4k.out (sizeRow tt it vt st) (Nat.le_refl _) (row_one tt it vt st) ?_)
               intro y4w h9 hg9
               have xo : Hid (Boxed y4w (w6.heap.size + 1) [.int .i64 tt, .int .u16 it, .int .i64 vt, .string st]) := RowV.boxed h9
               have xt := Lib.hid (xt.out.gr hg9 (by omega))
               have y4q := Lib.hid (Gr.below hg9 y4b.out (by omega))
               have bc := Lib.hid (bc.out.below y4q.out (Nat.le_refl _))
               have br := Lib.hid (br.out.below y4q.out (Nat.le_refl _))
               have bo := Lib.hid (bo.out.below y4q.out (Nat.le_refl _))
               have xa := Lib.hid (xa.out.below y4q.out (Nat.le_refl _))
               have xp := Lib.hid (xp.out.below y4q.out (Nat.le_refl _))
               have xe := Lib.hid (xe.out.below y4q.out (Nat.le_refl _))
               have xf := Lib.hid (xf.out.below y4q.out (Nat.le_refl _))
               have hq := Lib.hid (below_step y4q.out hq.out)
               have hd := Lib.hid (below_step y4q.out hd.out)
               clear h9 hg9 y4k y4b y4q)
            | (with_reducible refine wpList_load_at rfl 25 (.tmp 15) rfl Try.underlying25 rfl (sizeCont (.int .i64 kt) (.slice rqt rnt rct) (.slice kqt knt kct)) rfl xt.out.all ?_)
            | (with_reducible refine wpList_load_at rfl 28 (.tmp 110) rfl Try.underlying28 rfl hsk rfl (Boxed.key br.out) ?_))
          refine (get_any ⟨kt, rqt, rnt, rct, kqt, knt, kct⟩ dt t id y4w (hvt.out _ hq.out)).mono ?_
          rintro e w7 ⟨⟨⟨tb, ib⟩, vb, sb⟩, eb, rfl, hgb, hokb, hb⟩
          have hd := Lib.hid (below_step hb hd.out)
          have bc := Lib.hid (bc.out.below hb (Nat.le_refl _))
          have br := Lib.hid (br.out.below hb (Nat.le_refl _))
          have bo := Lib.hid (bo.out.below hb (Nat.le_refl _))
          have xa := Lib.hid (xa.out.below hb (Nat.le_refl _))
          have xp := Lib.hid (xp.out.below hb (Nat.le_refl _))
          have xe := Lib.hid (xe.out.below hb (Nat.le_refl _))
          have xf := Lib.hid (xf.out.below hb (Nat.le_refl _))
          have xt := Lib.hid (xt.out.below hb (Nat.le_refl _))
          have xo := Lib.hid (xo.out.below hb (Nat.le_refl _))
          have hq := Lib.hid (below_step hb hq.out)
          unfold rowV
          obtain rfl := take_get hT.out hgb
          clear hb hgb hokb
          obtain ⟨y5, hy5⟩ : ∃ x, w7.alloc (.cells #[.int .i64 0, .int .u16 0, .int .i64 0, .string ⟨#[]⟩] 30) = x := ⟨_, rfl⟩
          have y5r := Lib.hid (one_row (xs := [.int .i64 0, .int .u16 0, .int .i64 0, .string ⟨#[]⟩]) hy5)
          have y5j := Lib.hid y5r.out.2.1
          have y5b := Lib.hid y5r.out.1
          clear y5r
          go_wp2_with (first
            | ((with_reducible refine wpList_store_at rfl 30 (.tmp 18) (.tmp 113) rfl (o := 0) (vs := [.int .i64 tb, .int .u16 ib, .int .i64 vb, .string sb]) rfl rfl y5j.out (sizeRow tb ib vb sb) (Nat.le_refl _) (row_one tb ib vb sb) ?_)
               intro y5w h9 hg9
               have xb : Hid (Boxed y5w w7.heap.size [.int .i64 tb, .int .u16 ib, .int .i64 vb, .string sb]) := RowV.boxed h9
               have y5q := Lib.hid (Gr.below hg9 y5b.out (Nat.le_refl _))
               have bc := Lib.hid (bc.out.below y5q.out (Nat.le_refl _))
               have br := Lib.hid (br.out.below y5q.out (Nat.le_refl _))
               have bo := Lib.hid (bo.out.below y5q.out (Nat.le_refl _))
               have xa := Lib.hid (xa.out.below y5q.out (Nat.le_refl _))
               have xp := Lib.hid (xp.out.below y5q.out (Nat.le_refl _))
               have xe := Lib.hid (xe.out.below y5q.out (Nat.le_refl _))
               have xf := Lib.hid (xf.out.below y5q.out (Nat.le_refl _))
               have xt := Lib.hid (xt.out.below y5q.out (Nat.le_refl _))
               have xo := Lib.hid (xo.out.below y5q.out (Nat.le_refl _))
               have hq := Lib.hid (below_step y5q.out hq.out)
               have hd := Lib.hid (below_step y5q.out hd.out)
               clear h9 hg9 y5j y5b y5q)
            | (with_reducible refine wpList_load_at rfl 25 (.tmp 15) rfl Try.underlying25 rfl (sizeCont (.int .i64 kt) (.slice rqt rnt rct) (.slice kqt knt kct)) rfl xt.out.all ?_)
            | (with_reducible refine wpList_load_at rfl 28 (.tmp 5) rfl Try.underlying28 rfl hso rfl bo.out.all ?_))
          refine (get_any ⟨kt, rqt, rnt, rct, kqt, knt, kct⟩ dt ot oi y5w (hvt.out _ hq.out)).mono ?_
          rintro e w8 ⟨⟨⟨tc, ic⟩, vc, sc⟩, ec, rfl, hgc, hokc, hb⟩
          have hd := Lib.hid (below_step hb hd.out)
          have bc := Lib.hid (bc.out.below hb (Nat.le_refl _))
          have br := Lib.hid (br.out.below hb (Nat.le_refl _))
          have bo := Lib.hid (bo.out.below hb (Nat.le_refl _))
          have xa := Lib.hid (xa.out.below hb (Nat.le_refl _))
          have xp := Lib.hid (xp.out.below hb (Nat.le_refl _))
          have xe := Lib.hid (xe.out.below hb (Nat.le_refl _))
          have xf := Lib.hid (xf.out.below hb (Nat.le_refl _))
          have xt := Lib.hid (xt.out.below hb (Nat.le_refl _))
          have xo := Lib.hid (xo.out.below hb (Nat.le_refl _))
          have xb := Lib.hid (xb.out.below hb (Nat.le_refl _))
          have hq := Lib.hid (below_step hb hq.out)
          unfold rowV
          have hoth : Hid ((⟨ot, oi⟩ : KeyD) ≠ ⟨t, id⟩ → (⟨⟨tc, ic⟩, vc, sc⟩ : RowD) = ⟨⟨ta, ia⟩, va, sa⟩ ∧ ec = ea) := fun hne => take_other hT.out hne hga.out hgc
          clear hb hgc hokc
          obtain ⟨y6, hy6⟩ : ∃ x, w8.alloc (.cells #[.int .i64 0, .int .u16 0, .int .i64 0, .string ⟨#[]⟩] 30) = x := ⟨_, rfl⟩
          have y6r := Lib.hid (one_row (xs := [.int .i64 0, .int .u16 0, .int .i64 0, .string ⟨#[]⟩]) hy6)
          have y6j := Lib.hid y6r.out.2.1
          have y6b := Lib.hid y6r.out.1
          clear y6r
          go_wp2_with (first
            | ((with_reducible refine wpList_store_at rfl 30 (.tmp 20) (.tmp 119) rfl (o := 0) (vs := [.int .i64 tc, .int .u16 ic, .int .i64 vc, .string sc]) rfl rfl y6j.out (sizeRow tc ic vc sc) (Nat.le_refl _) (row_one tc ic vc sc) ?_)
               intro y6w h9 hg9
               have xc : Hid (Boxed y6w w8.heap.size [.int .i64 tc, .int .u16 ic, .int .i64 vc, .string sc]) := RowV.boxed h9
               have y6q := Lib.hid (Gr.below hg9 y6b.out (Nat.le_refl _))
               have bc := Lib.hid (bc.out.below y6q.out (Nat.le_refl _))
               have br := Lib.hid (br.out.below y6q.out (Nat.le_refl _))
               have bo := Lib.hid (bo.out.below y6q.out (Nat.le_refl _))
               have xa := Lib.hid (xa.out.below y6q.out (Nat.le_refl _))
               have xp := Lib.hid (xp.out.below y6q.out (Nat.le_refl _))
               have xe := Lib.hid (xe.out.below y6q.out (Nat.le_refl _))
               have xf := Lib.hid (xf.out.below y6q.out (Nat.le_refl _))
               have xt := Lib.hid (xt.out.below y6q.out (Nat.le_refl _))
               have xo := Lib.hid (xo.out.below y6q.out (Nat.le_refl _))
               have xb := Lib.hid (xb.out.below y6q.out (Nat.le_refl _))
               have hq := Lib.hid (below_step y6q.out hq.out)
               have hd := Lib.hid (below_step y6q.out hd.out)
               clear h9 hg9 y6j y6b y6q)
            | (with_reducible refine wpList_load_at rfl 25 (.tmp 15) rfl Try.underlying25 rfl (sizeCont (.int .i64 kt) (.slice rqt rnt rct) (.slice kqt knt kct)) rfl xt.out.all ?_)
            | (with_reducible refine wpList_load_at rfl 30 (.tmp 16) rfl Try.underlying30 rfl (sizeRow tt it vt st) rfl xo.out.all ?_))
          refine (put_any ⟨kt, rqt, rnt, rct, kqt, knt, kct⟩ dt tt it vt st y6w (hvt.out _ hq.out) hokt.out).mono ?_
          rintro e w9 ⟨⟨kz, rqz, rnz, rcz, kqz, knz, kcz⟩, dz, ez, rfl, hz, honz, hb⟩
          have hd := Lib.hid (below_step hb hd.out)
          have bc := Lib.hid (bc.out.below hb (Nat.le_refl _))
          have br := Lib.hid (br.out.below hb (Nat.le_refl _))
          have bo := Lib.hid (bo.out.below hb (Nat.le_refl _))
          have xa := Lib.hid (xa.out.below hb (Nat.le_refl _))
          have xp := Lib.hid (xp.out.below hb (Nat.le_refl _))
          have xe := Lib.hid (xe.out.below hb (Nat.le_refl _))
          have xf := Lib.hid (xf.out.below hb (Nat.le_refl _))
          have xt := Lib.hid (xt.out.below hb (Nat.le_refl _))
          have xo := Lib.hid (xo.out.below hb (Nat.le_refl _))
          have xb := Lib.hid (xb.out.below hb (Nat.le_refl _))
          have xc := Lib.hid (xc.out.below hb (Nat.le_refl _))
          have hq := Lib.hid (below_step hb hq.out)
          obtain ⟨rfl, rfl⟩ := take_back hT.out hz
          simp only [CV.val]
          have honz := Lib.hid honz
          clear hb hz
          obtain ⟨y7, hy7⟩ : ∃ x, w9.alloc (.cells #[.int .i64 0, .slice none 0 0, .slice none 0 0] 25) = x := ⟨_, rfl⟩
          have y7r := Lib.hid (one_row (xs := [.int .i64 0, .slice none 0 0, .slice none 0 0]) hy7)
          have y7j := Lib.hid y7r.out.2.1
          have y7b := Lib.hid y7r.out.1
          clear y7r
          have hek := fun u => eq_key u ot oi t id
          have her := fun u => eql_row u tc ic vc sc ta ia va sa
          by_cases hsame : (⟨ot, oi⟩ : KeyD) = ⟨t, id⟩
          · have hk1 : eqK ⟨ot, oi⟩ ⟨t, id⟩ = true := eqK_iff.2 hsame
            rw [hk1] at hek
            clear hoth hsame hk1
            go_wp2_with (first
              | ((with_reducible refine wpList_store_at rfl 25 (.tmp 22) (.tmp 125) rfl (o := 0) (vs := [.int .i64 kz, .slice rqz rnz rcz, .slice kqz knz kcz]) rfl rfl y7j.out (sizeCont (.int .i64 kz) (.slice rqz rnz rcz) (.slice kqz knz kcz)) (Nat.le_refl _) (cont_one _ _ _ _ _ _ _) ?_)
                 intro y7w h9 hg9
                 have xz : Hid (Boxed y7w w9.heap.size [.int .i64 kz, .slice rqz rnz rcz, .slice kqz knz kcz]) := RowV.boxed h9
                 have y7q := Lib.hid (Gr.below hg9 y7b.out (Nat.le_refl _))
                 have bc := Lib.hid (bc.out.below y7q.out (Nat.le_refl _))
                 have br := Lib.hid (br.out.below y7q.out (Nat.le_refl _))
                 have bo := Lib.hid (bo.out.below y7q.out (Nat.le_refl _))
                 have xa := Lib.hid (xa.out.below y7q.out (Nat.le_refl _))
                 have xp := Lib.hid (xp.out.below y7q.out (Nat.le_refl _))
                 have xe := Lib.hid (xe.out.below y7q.out (Nat.le_refl _))
                 have xf := Lib.hid (xf.out.below y7q.out (Nat.le_refl _))
                 have xt := Lib.hid (xt.out.below y7q.out (Nat.le_refl _))
                 have xo := Lib.hid (xo.out.below y7q.out (Nat.le_refl _))
                 have xb := Lib.hid (xb.out.below y7q.out (Nat.le_refl _))
                 have xc := Lib.hid (xc.out.below y7q.out (Nat.le_refl _))
                 have hq := Lib.hid (below_step y7q.out hq.out)
                 have hd := Lib.hid (below_step y7q.out hd.out)
                 have honz := Lib.hid (CV.On.below honz.out y7q.out (Nat.le_refl _))
                 have z0 := xz.out.cell 0 rfl
                 have z1 := xz.out.cell 1 rfl
                 have z2 := xz.out.cell 2 rfl
                 have c0 := bc.out.cell 0 rfl
                 have c1 := bc.out.cell 1 rfl
                 have c2 := bc.out.cell 2 rfl
                 have o0 := bo.out.cell 0 rfl
                 have o1 := bo.out.cell 1 rfl
                 have r0 := br.out.cell 0 rfl
                 have r1 := br.out.cell 1 rfl
                 have a0 := xa.out.cell 0 rfl
                 have a1 := xa.out.cell 1 rfl
                 have a2 := xa.out.cell 2 rfl
                 have a3 := xa.out.cell 3 rfl
                 have d0 := xc.out.cell 0 rfl
                 have d1 := xc.out.cell 1 rfl
                 have d2 := xc.out.cell 2 rfl
                 have d3 := xc.out.cell 3 rfl
                 clear h9 hg9 y7j y7b y7q))
            have hsm := same_c kz rqz rnz rcz kqz knz kcz _ k rq rn rc kq kn kc _ y7w honz.out (hv.out _ hd.out)
            rw [sameC_iff.2 rfl] at hsm
            refine hsm.mono ?_
            clear hsm z0 z1 z2 c0 c1 c2 o0 o1 r0 r1 a0 a1 a2 a3 d0 d1 d2 d3
            rintro e w10 ⟨rfl, hb⟩
            have hfin := Lib.hid (below_step hb hd.out)
            clear hb hd
            go_wp2
            go_ret
            exact ⟨rfl, hfin.out⟩
          · have hk1 : eqK ⟨ot, oi⟩ ⟨t, id⟩ = false := by rw [Bool.eq_false_iff]; exact fun h => hsame (eqK_iff.1 h)
            rw [hk1] at hek
            obtain ⟨h1, h2⟩ := hoth.out hsame
            replace h1 := h1.symm
            replace h2 := h2.symm
            cases h1
            subst h2
            rw [eqR_iff.2 rfl] at her
            have hee : (ea == ea) = true := by simp
            clear hoth hsame hk1
            go_wp2_with (first
              | ((with_reducible refine wpList_store_at rfl 25 (.tmp 22) (.tmp 125) rfl (o := 0) (vs := [.int .i64 kz, .slice rqz rnz rcz, .slice kqz knz kcz]) rfl rfl y7j.out (sizeCont (.int .i64 kz) (.slice rqz rnz rcz) (.slice kqz knz kcz)) (Nat.le_refl _) (cont_one _ _ _ _ _ _ _) ?_)
                 intro y7w h9 hg9
                 have xz : Hid (Boxed y7w w9.heap.size [.int .i64 kz, .slice rqz rnz rcz, .slice kqz knz kcz]) := RowV.boxed h9
                 have y7q := Lib.hid (Gr.below hg9 y7b.out (Nat.le_refl _))
                 have bc := Lib.hid (bc.out.below y7q.out (Nat.le_refl _))
                 have br := Lib.hid (br.out.below y7q.out (Nat.le_refl _))
                 have bo := Lib.hid (bo.out.below y7q.out (Nat.le_refl _))
                 have xa := Lib.hid (xa.out.below y7q.out (Nat.le_refl _))
                 have xp := Lib.hid (xp.out.below y7q.out (Nat.le_refl _))
                 have xe := Lib.hid (xe.out.below y7q.out (Nat.le_refl _))
                 have xf := Lib.hid (xf.out.below y7q.out (Nat.le_refl _))
                 have xt := Lib.hid (xt.out.below y7q.out (Nat.le_refl _))
                 have xo := Lib.hid (xo.out.below y7q.out (Nat.le_refl _))
                 have xb := Lib.hid (xb.out.below y7q.out (Nat.le_refl _))
                 have xc := Lib.hid (xc.out.below y7q.out (Nat.le_refl _))
                 have hq := Lib.hid (below_step y7q.out hq.out)
                 have hd := Lib.hid (below_step y7q.out hd.out)
                 have honz := Lib.hid (CV.On.below honz.out y7q.out (Nat.le_refl _))
                 have z0 := xz.out.cell 0 rfl
                 have z1 := xz.out.cell 1 rfl
                 have z2 := xz.out.cell 2 rfl
                 have c0 := bc.out.cell 0 rfl
                 have c1 := bc.out.cell 1 rfl
                 have c2 := bc.out.cell 2 rfl
                 have o0 := bo.out.cell 0 rfl
                 have o1 := bo.out.cell 1 rfl
                 have r0 := br.out.cell 0 rfl
                 have r1 := br.out.cell 1 rfl
                 have a0 := xa.out.cell 0 rfl
                 have a1 := xa.out.cell 1 rfl
                 have a2 := xa.out.cell 2 rfl
                 have a3 := xa.out.cell 3 rfl
                 have d0 := xc.out.cell 0 rfl
                 have d1 := xc.out.cell 1 rfl
                 have d2 := xc.out.cell 2 rfl
                 have d3 := xc.out.cell 3 rfl
                 clear h9 hg9 y7j y7b y7q))
            have hsm := same_c kz rqz rnz rcz kqz knz kcz _ k rq rn rc kq kn kc _ y7w honz.out (hv.out _ hd.out)
            rw [sameC_iff.2 rfl] at hsm
            refine hsm.mono ?_
            clear hsm z0 z1 z2 c0 c1 c2 o0 o1 r0 r1 a0 a1 a2 a3 d0 d1 d2 d3
            rintro e w10 ⟨rfl, hb⟩
            have hfin := Lib.hid (below_step hb hd.out)
            clear hb hd
            go_wp2
            go_ret
            exact ⟨rfl, hfin.out⟩
        · have he1 : (et != 0) = true := by simpa using het
          obtain ⟨rfl, hr⟩ := hT.out.no het
          have hr' := Lib.hid hr
          clear hr
          clear het hT
          go_wp2_with (first
            | ((with_reducible refine wpList_store_at rfl 25 (.tmp 15) (.tmp 95) rfl (o := 0) (vs := [.int .i64 kt, .slice rqt rnt rct, .slice kqt knt kct]) rfl rfl y4j.out (sizeCont (.int .i64 kt) (.slice rqt rnt rct) (.slice kqt knt kct)) (Nat.le_refl _) (cont_one _ _ _ _ _ _ _) ?_)
               intro y4v h9 hg9
               have xt : Hid (Boxed y4v w6.heap.size [.int .i64 kt, .slice rqt rnt rct, .slice kqt knt kct]) := RowV.boxed h9
               have y4k := Lib.hid (RowV.gr y4k.out hg9 (by omega))
               have y4b := Lib.hid (Gr.below hg9 y4b.out (Nat.le_refl _))
               clear h9 hg9 y4j)
            | ((with_reducible refine wpList_store_at rfl 30 (.tmp 16) (.tmp 96) rfl (o := 0) (vs := [.int .i64 tt, .int .u16 it, .int .i64 vt, .string st]) rfl rfl y4k.out (sizeRow tt it vt st) (Nat.le_refl _) (row_one tt it vt st) ?_)
               intro y4w h9 hg9
               have xo : Hid (Boxed y4w (w6.heap.size + 1) [.int .i64 tt, .int .u16 it, .int .i64 vt, .string st]) := RowV.boxed h9
               have xt := Lib.hid (xt.out.gr hg9 (by omega))
               have y4q := Lib.hid (Gr.below hg9 y4b.out (by omega))
               have bc := Lib.hid (bc.out.below y4q.out (Nat.le_refl _))
               have br := Lib.hid (br.out.below y4q.out (Nat.le_refl _))
               have bo := Lib.hid (bo.out.below y4q.out (Nat.le_refl _))
               have xa := Lib.hid (xa.out.below y4q.out (Nat.le_refl _))
               have xp := Lib.hid (xp.out.below y4q.out (Nat.le_refl _))
               have xe := Lib.hid (xe.out.below y4q.out (Nat.le_refl _))
               have xf := Lib.hid (xf.out.below y4q.out (Nat.le_refl _))
               have hq := Lib.hid (below_step y4q.out hq.out)
               have hd := Lib.hid (below_step y4q.out hd.out)
               clear h9 hg9 y4k y4b y4q)
            | (with_reducible refine wpList_load_at rfl 25 (.tmp 15) rfl Try.underlying25 rfl (sizeCont (.int .i64 kt) (.slice rqt rnt rct) (.slice kqt knt kct)) rfl xt.out.all ?_))
          refine (pSize_any ⟨kt, rqt, rnt, rct, kqt, knt, kct⟩ zeroC y4w (hvt.out _ hq.out) 0 ⟨fun _ => rfl, fun _ => rfl⟩).mono ?_
          rintro e w7 ⟨rfl, hb⟩
          have hd := Lib.hid (below_step hb hd.out)
          have bc := Lib.hid (bc.out.below hb (Nat.le_refl _))
          have br := Lib.hid (br.out.below hb (Nat.le_refl _))
          have bo := Lib.hid (bo.out.below hb (Nat.le_refl _))
          have xa := Lib.hid (xa.out.below hb (Nat.le_refl _))
          have xp := Lib.hid (xp.out.below hb (Nat.le_refl _))
          have xe := Lib.hid (xe.out.below hb (Nat.le_refl _))
          have xf := Lib.hid (xf.out.below hb (Nat.le_refl _))
          have xt := Lib.hid (xt.out.below hb (Nat.le_refl _))
          have xo := Lib.hid (xo.out.below hb (Nat.le_refl _))
          have her := fun u => eql_row u tt it vt st 0 0 0 ⟨#[]⟩
          have hR : eqR ⟨⟨tt, it⟩, vt, st⟩ ⟨⟨0, 0⟩, 0, ⟨#[]⟩⟩ = true := eqR_iff.2 hr'.out
          rw [hR] at her
          have o0 := xo.out.cell 0 rfl
          have o1 := xo.out.cell 1 rfl
          have o2 := xo.out.cell 2 rfl
          have o3 := xo.out.cell 3 rfl
          clear hb
          go_wp2
          go_ret
          exact ⟨rfl, hd.out⟩
      · have hk1 : eqK ⟨ot, oi⟩ ⟨t, id⟩ = false := by rw [Bool.eq_false_iff]; exact fun h => hsame (eqK_iff.1 h)
        rw [hk1] at hnk
        obtain ⟨h1, h2⟩ := hoth.out hsame
        replace h1 := h1.symm
        replace h2 := h2.symm
        cases h1
        subst h2
        rw [eqR_iff.2 rfl] at hnf
        have hee : (ea != ea) = false := by simp
        clear hoth hsame hk1 hP hvp hqp
        have e0 := xe.out.cell 0 rfl
        have e1 := xe.out.cell 1 rfl
        have e2 := xe.out.cell 2 rfl
        have e3 := xe.out.cell 3 rfl
        have r0 := br.out.cell 0 rfl
        have r1 := br.out.cell 1 rfl
        have r2 := br.out.cell 2 rfl
        have r3 := br.out.cell 3 rfl
        have o0 := bo.out.cell 0 rfl
        have o1 := bo.out.cell 1 rfl
        have f0 := xf.out.cell 0 rfl
        have f1 := xf.out.cell 1 rfl
        have f2 := xf.out.cell 2 rfl
        have f3 := xf.out.cell 3 rfl
        have a0 := xa.out.cell 0 rfl
        have a1 := xa.out.cell 1 rfl
        have a2 := xa.out.cell 2 rfl
        have a3 := xa.out.cell 3 rfl
        go_wp2_with (first
          | (with_reducible refine wpList_load_at rfl 25 (.tmp 3) rfl Try.underlying25 rfl hs rfl bc.out.all ?_)
          | (with_reducible refine wpList_load_at rfl 28 (.tmp 92) rfl Try.underlying28 rfl hsk rfl (Boxed.key br.out) ?_))
        clear e0 e1 e2 e3 r0 r1 r2 r3 o0 o1 f0 f1 f2 f3 a0 a1 a2 a3
        refine (take_any ⟨k, rq, rn, rc, kq, kn, kc⟩ c t id wc (hv.out _ hd.out)).mono ?_
        rintro e w6 ⟨⟨kt, rqt, rnt, rct, kqt, knt, kct⟩, dt, ⟨⟨tt, it⟩, vt, st⟩, et, rfl, hT, hont, hokt, hb⟩
        have hd := Lib.hid (below_step hb hd.out)
        have bc := Lib.hid (bc.out.below hb (Nat.le_refl _))
        have br := Lib.hid (br.out.below hb (Nat.le_refl _))
        have bo := Lib.hid (bo.out.below hb (Nat.le_refl _))
        have xa := Lib.hid (xa.out.below hb (Nat.le_refl _))
        have xp := Lib.hid (xp.out.below hb (Nat.le_refl _))
        have xe := Lib.hid (xe.out.below hb (Nat.le_refl _))
        have xf := Lib.hid (xf.out.below hb (Nat.le_refl _))
        unfold rowV
        have hT := Lib.hid hT
        have hokt := Lib.hid hokt
        simp only [CV.val]
        clear hb
        have hvt := Lib.hid (fun u (hu : Below w6.heap.size w6 u) => CV.On.below hont hu (Nat.le_refl _))
        clear hont
        have hq : Hid (Below w6.heap.size w6 w6) := Below.refl _ _
        obtain ⟨y4, hy4⟩ : ∃ x, (w6.alloc (.cells #[.int .i64 0, .slice none 0 0, .slice none 0 0] 25)).alloc (.cells #[.int .i64 0, .int .u16 0, .int .i64 0, .string ⟨#[]⟩] 30) = x := ⟨_, rfl⟩
        have y4r := Lib.hid (two_rows (xs := [.int .i64 0, .slice none 0 0, .slice none 0 0]) (ys := [.int .i64 0, .int .u16 0, .int .i64 0, .string ⟨#[]⟩]) hy4)
        have y4j := Lib.hid y4r.out.2.1
        have y4k := Lib.hid y4r.out.2.2.1
        have y4b := Lib.hid y4r.out.1
        clear y4r
        by_cases het : et = 0
        · subst het
          go_wp2_with (first
            | ((with_reducible refine wpList_store_at rfl 25 (.tmp 15) (.tmp 95) rfl (o := 0) (vs := [.int .i64 kt, .slice rqt rnt rct, .slice kqt knt kct]) rfl rfl y4j.out (sizeCont (.int .i64 kt) (.slice rqt rnt rct) (.slice kqt knt kct)) (Nat.le_refl _) (cont_one _ _ _ _ _ _ _) ?_)
               intro y4v h9 hg9
               have xt : Hid (Boxed y4v w6.heap.size [.int .i64 kt, .slice rqt rnt rct, .slice kqt knt kct]) := RowV.boxed h9
               have y4k := Lib.hid (RowV.gr y4k.out hg9 (by omega))
               have y4b := Lib.hid (Gr.below hg9 y4b.out (Nat.le_refl _))
               clear h9 hg9 y4j)
            | ((with_reducible refine wpList_store_at rfl 30 (.tmp 16) (.tmp 96) rfl (o := 0) (vs := [.int .i64 tt, .int .u16 it, .int .i64 vt, .string st]) rfl rfl y4k.out (sizeRow tt it vt st) (Nat.le_refl _) (row_one tt it vt st) ?_)
               intro y4w h9 hg9
               have xo : Hid (Boxed y4w (w6.heap.size + 1) [.int .i64 tt, .int .u16 it, .int .i64 vt, .string st]) := RowV.boxed h9
               have xt := Lib.hid (xt.out.gr hg9 (by omega))
               have y4q := Lib.hid (Gr.below hg9 y4b.out (by omega))
               have bc := Lib.hid (bc.out.below y4q.out (Nat.le_refl _))
               have br := Lib.hid (br.out.below y4q.out (Nat.le_refl _))
               have bo := Lib.hid (bo.out.below y4q.out (Nat.le_refl _))
               have xa := Lib.hid (xa.out.below y4q.out (Nat.le_refl _))
               have xp := Lib.hid (xp.out.below y4q.out (Nat.le_refl _))
               have xe := Lib.hid (xe.out.below y4q.out (Nat.le_refl _))
               have xf := Lib.hid (xf.out.below y4q.out (Nat.le_refl _))
               have hq := Lib.hid (below_step y4q.out hq.out)
               have hd := Lib.hid (below_step y4q.out hd.out)
               clear h9 hg9 y4k y4b y4q)
            | (with_reducible refine wpList_load_at rfl 25 (.tmp 15) rfl Try.underlying25 rfl (sizeCont (.int .i64 kt) (.slice rqt rnt rct) (.slice kqt knt kct)) rfl xt.out.all ?_)
            | (with_reducible refine wpList_load_at rfl 28 (.tmp 110) rfl Try.underlying28 rfl hsk rfl (Boxed.key br.out) ?_))
          refine (get_any ⟨kt, rqt, rnt, rct, kqt, knt, kct⟩ dt t id y4w (hvt.out _ hq.out)).mono ?_
          rintro e w7 ⟨⟨⟨tb, ib⟩, vb, sb⟩, eb, rfl, hgb, hokb, hb⟩
          have hd := Lib.hid (below_step hb hd.out)
          have bc := Lib.hid (bc.out.below hb (Nat.le_refl _))
          have br := Lib.hid (br.out.below hb (Nat.le_refl _))
          have bo := Lib.hid (bo.out.below hb (Nat.le_refl _))
          have xa := Lib.hid (xa.out.below hb (Nat.le_refl _))
          have xp := Lib.hid (xp.out.below hb (Nat.le_refl _))
          have xe := Lib.hid (xe.out.below hb (Nat.le_refl _))
          have xf := Lib.hid (xf.out.below hb (Nat.le_refl _))
          have xt := Lib.hid (xt.out.below hb (Nat.le_refl _))
          have xo := Lib.hid (xo.out.below hb (Nat.le_refl _))
          have hq := Lib.hid (below_step hb hq.out)
          unfold rowV
          obtain rfl := take_get hT.out hgb
          clear hb hgb hokb
          obtain ⟨y5, hy5⟩ : ∃ x, w7.alloc (.cells #[.int .i64 0, .int .u16 0, .int .i64 0, .string ⟨#[]⟩] 30) = x := ⟨_, rfl⟩
          have y5r := Lib.hid (one_row (xs := [.int .i64 0, .int .u16 0, .int .i64 0, .string ⟨#[]⟩]) hy5)
          have y5j := Lib.hid y5r.out.2.1
          have y5b := Lib.hid y5r.out.1
          clear y5r
          go_wp2_with (first
            | ((with_reducible refine wpList_store_at rfl 30 (.tmp 18) (.tmp 113) rfl (o := 0) (vs := [.int .i64 tb, .int .u16 ib, .int .i64 vb, .string sb]) rfl rfl y5j.out (sizeRow tb ib vb sb) (Nat.le_refl _) (row_one tb ib vb sb) ?_)
               intro y5w h9 hg9
               have xb : Hid (Boxed y5w w7.heap.size [.int .i64 tb, .int .u16 ib, .int .i64 vb, .string sb]) := RowV.boxed h9
               have y5q := Lib.hid (Gr.below hg9 y5b.out (Nat.le_refl _))
               have bc := Lib.hid (bc.out.below y5q.out (Nat.le_refl _))
               have br := Lib.hid (br.out.below y5q.out (Nat.le_refl _))
               have bo := Lib.hid (bo.out.below y5q.out (Nat.le_refl _))
               have xa := Lib.hid (xa.out.below y5q.out (Nat.le_refl _))
               have xp := Lib.hid (xp.out.below y5q.out (Nat.le_refl _))
               have xe := Lib.hid (xe.out.below y5q.out (Nat.le_refl _))
               have xf := Lib.hid (xf.out.below y5q.out (Nat.le_refl _))
               have xt := Lib.hid (xt.out.below y5q.out (Nat.le_refl _))
               have xo := Lib.hid (xo.out.below y5q.out (Nat.le_refl _))
               have hq := Lib.hid (below_step y5q.out hq.out)
               have hd := Lib.hid (below_step y5q.out hd.out)
               clear h9 hg9 y5j y5b y5q)
            | (with_reducible refine wpList_load_at rfl 25 (.tmp 15) rfl Try.underlying25 rfl (sizeCont (.int .i64 kt) (.slice rqt rnt rct) (.slice kqt knt kct)) rfl xt.out.all ?_)
            | (with_reducible refine wpList_load_at rfl 28 (.tmp 5) rfl Try.underlying28 rfl hso rfl bo.out.all ?_))
          refine (get_any ⟨kt, rqt, rnt, rct, kqt, knt, kct⟩ dt ot oi y5w (hvt.out _ hq.out)).mono ?_
          rintro e w8 ⟨⟨⟨tc, ic⟩, vc, sc⟩, ec, rfl, hgc, hokc, hb⟩
          have hd := Lib.hid (below_step hb hd.out)
          have bc := Lib.hid (bc.out.below hb (Nat.le_refl _))
          have br := Lib.hid (br.out.below hb (Nat.le_refl _))
          have bo := Lib.hid (bo.out.below hb (Nat.le_refl _))
          have xa := Lib.hid (xa.out.below hb (Nat.le_refl _))
          have xp := Lib.hid (xp.out.below hb (Nat.le_refl _))
          have xe := Lib.hid (xe.out.below hb (Nat.le_refl _))
          have xf := Lib.hid (xf.out.below hb (Nat.le_refl _))
          have xt := Lib.hid (xt.out.below hb (Nat.le_refl _))
          have xo := Lib.hid (xo.out.below hb (Nat.le_refl _))
          have xb := Lib.hid (xb.out.below hb (Nat.le_refl _))
          have hq := Lib.hid (below_step hb hq.out)
          unfold rowV
          have hoth : Hid ((⟨ot, oi⟩ : KeyD) ≠ ⟨t, id⟩ → (⟨⟨tc, ic⟩, vc, sc⟩ : RowD) = ⟨⟨ta, ia⟩, va, sa⟩ ∧ ec = ea) := fun hne => take_other hT.out hne hga.out hgc
          clear hb hgc hokc
          obtain ⟨y6, hy6⟩ : ∃ x, w8.alloc (.cells #[.int .i64 0, .int .u16 0, .int .i64 0, .string ⟨#[]⟩] 30) = x := ⟨_, rfl⟩
          have y6r := Lib.hid (one_row (xs := [.int .i64 0, .int .u16 0, .int .i64 0, .string ⟨#[]⟩]) hy6)
          have y6j := Lib.hid y6r.out.2.1
          have y6b := Lib.hid y6r.out.1
          clear y6r
          go_wp2_with (first
            | ((with_reducible refine wpList_store_at rfl 30 (.tmp 20) (.tmp 119) rfl (o := 0) (vs := [.int .i64 tc, .int .u16 ic, .int .i64 vc, .string sc]) rfl rfl y6j.out (sizeRow tc ic vc sc) (Nat.le_refl _) (row_one tc ic vc sc) ?_)
               intro y6w h9 hg9
               have xc : Hid (Boxed y6w w8.heap.size [.int .i64 tc, .int .u16 ic, .int .i64 vc, .string sc]) := RowV.boxed h9
               have y6q := Lib.hid (Gr.below hg9 y6b.out (Nat.le_refl _))
               have bc := Lib.hid (bc.out.below y6q.out (Nat.le_refl _))
               have br := Lib.hid (br.out.below y6q.out (Nat.le_refl _))
               have bo := Lib.hid (bo.out.below y6q.out (Nat.le_refl _))
               have xa := Lib.hid (xa.out.below y6q.out (Nat.le_refl _))
               have xp := Lib.hid (xp.out.below y6q.out (Nat.le_refl _))
               have xe := Lib.hid (xe.out.below y6q.out (Nat.le_refl _))
               have xf := Lib.hid (xf.out.below y6q.out (Nat.le_refl _))
               have xt := Lib.hid (xt.out.below y6q.out (Nat.le_refl _))
               have xo := Lib.hid (xo.out.below y6q.out (Nat.le_refl _))
               have xb := Lib.hid (xb.out.below y6q.out (Nat.le_refl _))
               have hq := Lib.hid (below_step y6q.out hq.out)
               have hd := Lib.hid (below_step y6q.out hd.out)
               clear h9 hg9 y6j y6b y6q)
            | (with_reducible refine wpList_load_at rfl 25 (.tmp 15) rfl Try.underlying25 rfl (sizeCont (.int .i64 kt) (.slice rqt rnt rct) (.slice kqt knt kct)) rfl xt.out.all ?_)
            | (with_reducible refine wpList_load_at rfl 30 (.tmp 16) rfl Try.underlying30 rfl (sizeRow tt it vt st) rfl xo.out.all ?_))
          refine (put_any ⟨kt, rqt, rnt, rct, kqt, knt, kct⟩ dt tt it vt st y6w (hvt.out _ hq.out) hokt.out).mono ?_
          rintro e w9 ⟨⟨kz, rqz, rnz, rcz, kqz, knz, kcz⟩, dz, ez, rfl, hz, honz, hb⟩
          have hd := Lib.hid (below_step hb hd.out)
          have bc := Lib.hid (bc.out.below hb (Nat.le_refl _))
          have br := Lib.hid (br.out.below hb (Nat.le_refl _))
          have bo := Lib.hid (bo.out.below hb (Nat.le_refl _))
          have xa := Lib.hid (xa.out.below hb (Nat.le_refl _))
          have xp := Lib.hid (xp.out.below hb (Nat.le_refl _))
          have xe := Lib.hid (xe.out.below hb (Nat.le_refl _))
          have xf := Lib.hid (xf.out.below hb (Nat.le_refl _))
          have xt := Lib.hid (xt.out.below hb (Nat.le_refl _))
          have xo := Lib.hid (xo.out.below hb (Nat.le_refl _))
          have xb := Lib.hid (xb.out.below hb (Nat.le_refl _))
          have xc := Lib.hid (xc.out.below hb (Nat.le_refl _))
          have hq := Lib.hid (below_step hb hq.out)
          obtain ⟨rfl, rfl⟩ := take_back hT.out hz
          simp only [CV.val]
          have honz := Lib.hid honz
          clear hb hz
          obtain ⟨y7, hy7⟩ : ∃ x, w9.alloc (.cells #[.int .i64 0, .slice none 0 0, .slice none 0 0] 25) = x := ⟨_, rfl⟩
          have y7r := Lib.hid (one_row (xs := [.int .i64 0, .slice none 0 0, .slice none 0 0]) hy7)
          have y7j := Lib.hid y7r.out.2.1
          have y7b := Lib.hid y7r.out.1
          clear y7r
          have hek := fun u => eq_key u ot oi t id
          have her := fun u => eql_row u tc ic vc sc ta ia va sa
          by_cases hsame : (⟨ot, oi⟩ : KeyD) = ⟨t, id⟩
          · have hk1 : eqK ⟨ot, oi⟩ ⟨t, id⟩ = true := eqK_iff.2 hsame
            rw [hk1] at hek
            clear hoth hsame hk1
            go_wp2_with (first
              | ((with_reducible refine wpList_store_at rfl 25 (.tmp 22) (.tmp 125) rfl (o := 0) (vs := [.int .i64 kz, .slice rqz rnz rcz, .slice kqz knz kcz]) rfl rfl y7j.out (sizeCont (.int .i64 kz) (.slice rqz rnz rcz) (.slice kqz knz kcz)) (Nat.le_refl _) (cont_one _ _ _ _ _ _ _) ?_)
                 intro y7w h9 hg9
                 have xz : Hid (Boxed y7w w9.heap.size [.int .i64 kz, .slice rqz rnz rcz, .slice kqz knz kcz]) := RowV.boxed h9
                 have y7q := Lib.hid (Gr.below hg9 y7b.out (Nat.le_refl _))
                 have bc := Lib.hid (bc.out.below y7q.out (Nat.le_refl _))
                 have br := Lib.hid (br.out.below y7q.out (Nat.le_refl _))
                 have bo := Lib.hid (bo.out.below y7q.out (Nat.le_refl _))
                 have xa := Lib.hid (xa.out.below y7q.out (Nat.le_refl _))
                 have xp := Lib.hid (xp.out.below y7q.out (Nat.le_refl _))
                 have xe := Lib.hid (xe.out.below y7q.out (Nat.le_refl _))
                 have xf := Lib.hid (xf.out.below y7q.out (Nat.le_refl _))
                 have xt := Lib.hid (xt.out.below y7q.out (Nat.le_refl _))
                 have xo := Lib.hid (xo.out.below y7q.out (Nat.le_refl _))
                 have xb := Lib.hid (xb.out.below y7q.out (Nat.le_refl _))
                 have xc := Lib.hid (xc.out.below y7q.out (Nat.le_refl _))
                 have hq := Lib.hid (below_step y7q.out hq.out)
                 have hd := Lib.hid (below_step y7q.out hd.out)
                 have honz := Lib.hid (CV.On.below honz.out y7q.out (Nat.le_refl _))
                 have z0 := xz.out.cell 0 rfl
                 have z1 := xz.out.cell 1 rfl
                 have z2 := xz.out.cell 2 rfl
                 have c0 := bc.out.cell 0 rfl
                 have c1 := bc.out.cell 1 rfl
                 have c2 := bc.out.cell 2 rfl
                 have o0 := bo.out.cell 0 rfl
                 have o1 := bo.out.cell 1 rfl
                 have r0 := br.out.cell 0 rfl
                 have r1 := br.out.cell 1 rfl
                 have a0 := xa.out.cell 0 rfl
                 have a1 := xa.out.cell 1 rfl
                 have a2 := xa.out.cell 2 rfl
                 have a3 := xa.out.cell 3 rfl
                 have d0 := xc.out.cell 0 rfl
                 have d1 := xc.out.cell 1 rfl
                 have d2 := xc.out.cell 2 rfl
                 have d3 := xc.out.cell 3 rfl
                 clear h9 hg9 y7j y7b y7q))
            have hsm := same_c kz rqz rnz rcz kqz knz kcz _ k rq rn rc kq kn kc _ y7w honz.out (hv.out _ hd.out)
            rw [sameC_iff.2 rfl] at hsm
            refine hsm.mono ?_
            clear hsm z0 z1 z2 c0 c1 c2 o0 o1 r0 r1 a0 a1 a2 a3 d0 d1 d2 d3
            rintro e w10 ⟨rfl, hb⟩
            have hfin := Lib.hid (below_step hb hd.out)
            clear hb hd
            go_wp2
            go_ret
            exact ⟨rfl, hfin.out⟩
          · have hk1 : eqK ⟨ot, oi⟩ ⟨t, id⟩ = false := by rw [Bool.eq_false_iff]; exact fun h => hsame (eqK_iff.1 h)
            rw [hk1] at hek
            obtain ⟨h1, h2⟩ := hoth.out hsame
            replace h1 := h1.symm
            replace h2 := h2.symm
            cases h1
            subst h2
            rw [eqR_iff.2 rfl] at her
            have hee : (ea == ea) = true := by simp
            clear hoth hsame hk1
            go_wp2_with (first
              | ((with_reducible refine wpList_store_at rfl 25 (.tmp 22) (.tmp 125) rfl (o := 0) (vs := [.int .i64 kz, .slice rqz rnz rcz, .slice kqz knz kcz]) rfl rfl y7j.out (sizeCont (.int .i64 kz) (.slice rqz rnz rcz) (.slice kqz knz kcz)) (Nat.le_refl _) (cont_one _ _ _ _ _ _ _) ?_)
                 intro y7w h9 hg9
                 have xz : Hid (Boxed y7w w9.heap.size [.int .i64 kz, .slice rqz rnz rcz, .slice kqz knz kcz]) := RowV.boxed h9
                 have y7q := Lib.hid (Gr.below hg9 y7b.out (Nat.le_refl _))
                 have bc := Lib.hid (bc.out.below y7q.out (Nat.le_refl _))
                 have br := Lib.hid (br.out.below y7q.out (Nat.le_refl _))
                 have bo := Lib.hid (bo.out.below y7q.out (Nat.le_refl _))
                 have xa := Lib.hid (xa.out.below y7q.out (Nat.le_refl _))
                 have xp := Lib.hid (xp.out.below y7q.out (Nat.le_refl _))
                 have xe := Lib.hid (xe.out.below y7q.out (Nat.le_refl _))
                 have xf := Lib.hid (xf.out.below y7q.out (Nat.le_refl _))
                 have xt := Lib.hid (xt.out.below y7q.out (Nat.le_refl _))
                 have xo := Lib.hid (xo.out.below y7q.out (Nat.le_refl _))
                 have xb := Lib.hid (xb.out.below y7q.out (Nat.le_refl _))
                 have xc := Lib.hid (xc.out.below y7q.out (Nat.le_refl _))
                 have hq := Lib.hid (below_step y7q.out hq.out)
                 have hd := Lib.hid (below_step y7q.out hd.out)
                 have honz := Lib.hid (CV.On.below honz.out y7q.out (Nat.le_refl _))
                 have z0 := xz.out.cell 0 rfl
                 have z1 := xz.out.cell 1 rfl
                 have z2 := xz.out.cell 2 rfl
                 have c0 := bc.out.cell 0 rfl
                 have c1 := bc.out.cell 1 rfl
                 have c2 := bc.out.cell 2 rfl
                 have o0 := bo.out.cell 0 rfl
                 have o1 := bo.out.cell 1 rfl
                 have r0 := br.out.cell 0 rfl
                 have r1 := br.out.cell 1 rfl
                 have a0 := xa.out.cell 0 rfl
                 have a1 := xa.out.cell 1 rfl
                 have a2 := xa.out.cell 2 rfl
                 have a3 := xa.out.cell 3 rfl
                 have d0 := xc.out.cell 0 rfl
                 have d1 := xc.out.cell 1 rfl
                 have d2 := xc.out.cell 2 rfl
                 have d3 := xc.out.cell 3 rfl
                 clear h9 hg9 y7j y7b y7q))
            have hsm := same_c kz rqz rnz rcz kqz knz kcz _ k rq rn rc kq kn kc _ y7w honz.out (hv.out _ hd.out)
            rw [sameC_iff.2 rfl] at hsm
            refine hsm.mono ?_
            clear hsm z0 z1 z2 c0 c1 c2 o0 o1 r0 r1 a0 a1 a2 a3 d0 d1 d2 d3
            rintro e w10 ⟨rfl, hb⟩
            have hfin := Lib.hid (below_step hb hd.out)
            clear hb hd
            go_wp2
            go_ret
            exact ⟨rfl, hfin.out⟩
        · have he1 : (et != 0) = true := by simpa using het
          obtain ⟨rfl, hr⟩ := hT.out.no het
          have hr' := Lib.hid hr
          clear hr
          clear het hT
          go_wp2_with (first
            | ((with_reducible refine wpList_store_at rfl 25 (.tmp 15) (.tmp 95) rfl (o := 0) (vs := [.int .i64 kt, .slice rqt rnt rct, .slice kqt knt kct]) rfl rfl y4j.out (sizeCont (.int .i64 kt) (.slice rqt rnt rct) (.slice kqt knt kct)) (Nat.le_refl _) (cont_one _ _ _ _ _ _ _) ?_)
               intro y4v h9 hg9
               have xt : Hid (Boxed y4v w6.heap.size [.int .i64 kt, .slice rqt rnt rct, .slice kqt knt kct]) := RowV.boxed h9
               have y4k := Lib.hid (RowV.gr y4k.out hg9 (by omega))
               have y4b := Lib.hid (Gr.below hg9 y4b.out (Nat.le_refl _))
               clear h9 hg9 y4j)
            | ((with_reducible refine wpList_store_at rfl 30 (.tmp 16) (.tmp 96) rfl (o := 0) (vs := [.int .i64 tt, .int .u16 it, .int .i64 vt, .string st]) rfl rfl y4k.out (sizeRow tt it vt st) (Nat.le_refl _) (row_one tt it vt st) ?_)
               intro y4w h9 hg9
               have xo : Hid (Boxed y4w (w6.heap.size + 1) [.int .i64 tt, .int .u16 it, .int .i64 vt, .string st]) := RowV.boxed h9
               have xt := Lib.hid (xt.out.gr hg9 (by omega))
               have y4q := Lib.hid (Gr.below hg9 y4b.out (by omega))
               have bc := Lib.hid (bc.out.below y4q.out (Nat.le_refl _))
               have br := Lib.hid (br.out.below y4q.out (Nat.le_refl _))
               have bo := Lib.hid (bo.out.below y4q.out (Nat.le_refl _))
               have xa := Lib.hid (xa.out.below y4q.out (Nat.le_refl _))
               have xp := Lib.hid (xp.out.below y4q.out (Nat.le_refl _))
               have xe := Lib.hid (xe.out.below y4q.out (Nat.le_refl _))
               have xf := Lib.hid (xf.out.below y4q.out (Nat.le_refl _))
               have hq := Lib.hid (below_step y4q.out hq.out)
               have hd := Lib.hid (below_step y4q.out hd.out)
               clear h9 hg9 y4k y4b y4q)
            | (with_reducible refine wpList_load_at rfl 25 (.tmp 15) rfl Try.underlying25 rfl (sizeCont (.int .i64 kt) (.slice rqt rnt rct) (.slice kqt knt kct)) rfl xt.out.all ?_))
          refine (pSize_any ⟨kt, rqt, rnt, rct, kqt, knt, kct⟩ zeroC y4w (hvt.out _ hq.out) 0 ⟨fun _ => rfl, fun _ => rfl⟩).mono ?_
          rintro e w7 ⟨rfl, hb⟩
          have hd := Lib.hid (below_step hb hd.out)
          have bc := Lib.hid (bc.out.below hb (Nat.le_refl _))
          have br := Lib.hid (br.out.below hb (Nat.le_refl _))
          have bo := Lib.hid (bo.out.below hb (Nat.le_refl _))
          have xa := Lib.hid (xa.out.below hb (Nat.le_refl _))
          have xp := Lib.hid (xp.out.below hb (Nat.le_refl _))
          have xe := Lib.hid (xe.out.below hb (Nat.le_refl _))
          have xf := Lib.hid (xf.out.below hb (Nat.le_refl _))
          have xt := Lib.hid (xt.out.below hb (Nat.le_refl _))
          have xo := Lib.hid (xo.out.below hb (Nat.le_refl _))
          have her := fun u => eql_row u tt it vt st 0 0 0 ⟨#[]⟩
          have hR : eqR ⟨⟨tt, it⟩, vt, st⟩ ⟨⟨0, 0⟩, 0, ⟨#[]⟩⟩ = true := eqR_iff.2 hr'.out
          rw [hR] at her
          have o0 := xo.out.cell 0 rfl
          have o1 := xo.out.cell 1 rfl
          have o2 := xo.out.cell 2 rfl
          have o3 := xo.out.cell 3 rfl
          clear hb
          go_wp2
          go_ret
          exact ⟨rfl, hd.out⟩
    · have he1 : (ep != 0) = true := by simpa using hep
      have he2 : (ep == 0) = false := by simpa using hep
      clear hep hP hvp
      go_wp2_with (first
        | ((with_reducible refine wpList_store_at rfl 25 (.tmp 9) (.tmp 45) rfl (o := 0) (vs := [.int .i64 kp, .slice rqp rnp rcp, .slice kqp knp kcp]) rfl rfl y1j.out (sizeCont (.int .i64 kp) (.slice rqp rnp rcp) (.slice kqp knp kcp)) (Nat.le_refl _) (cont_one _ _ _ _ _ _ _) ?_)
           intro y1w h9 hg9
           have xp : Hid (Boxed y1w w4.heap.size [.int .i64 kp, .slice rqp rnp rcp, .slice kqp knp kcp]) := RowV.boxed h9
           have y1q := Lib.hid (Gr.below hg9 y1b.out (Nat.le_refl _))
           have bc := Lib.hid (bc.out.below y1q.out (Nat.le_refl _))
           have br := Lib.hid (br.out.below y1q.out (Nat.le_refl _))
           have bo := Lib.hid (bo.out.below y1q.out (Nat.le_refl _))
           have xa := Lib.hid (xa.out.below y1q.out (Nat.le_refl _))
           have hd := Lib.hid (below_step y1q.out hd.out)
           clear h9 hg9 y1j y1b y1q)
        | (with_reducible refine wpList_load_at rfl 25 (.tmp 3) rfl Try.underlying25 rfl hs rfl bc.out.all ?_)
        | (with_reducible refine wpList_load_at rfl 28 (.tmp 92) rfl Try.underlying28 rfl hsk rfl (Boxed.key br.out) ?_))
      refine (take_any ⟨k, rq, rn, rc, kq, kn, kc⟩ c t id y1w (hv.out _ hd.out)).mono ?_
      rintro e w6 ⟨⟨kt, rqt, rnt, rct, kqt, knt, kct⟩, dt, ⟨⟨tt, it⟩, vt, st⟩, et, rfl, hT, hont, hokt, hb⟩
      have hd := Lib.hid (below_step hb hd.out)
      have bc := Lib.hid (bc.out.below hb (Nat.le_refl _))
      have br := Lib.hid (br.out.below hb (Nat.le_refl _))
      have bo := Lib.hid (bo.out.below hb (Nat.le_refl _))
      have xa := Lib.hid (xa.out.below hb (Nat.le_refl _))
      have xp := Lib.hid (xp.out.below hb (Nat.le_refl _))
      unfold rowV
      have hT := Lib.hid hT
      have hokt := Lib.hid hokt
      simp only [CV.val]
      clear hb
      have hvt := Lib.hid (fun u (hu : Below w6.heap.size w6 u) => CV.On.below hont hu (Nat.le_refl _))
      clear hont
      have hq : Hid (Below w6.heap.size w6 w6) := Below.refl _ _
      obtain ⟨y2, hy2⟩ : ∃ x, (w6.alloc (.cells #[.int .i64 0, .slice none 0 0, .slice none 0 0] 25)).alloc (.cells #[.int .i64 0, .int .u16 0, .int .i64 0, .string ⟨#[]⟩] 30) = x := ⟨_, rfl⟩
      have y2r := Lib.hid (two_rows (xs := [.int .i64 0, .slice none 0 0, .slice none 0 0]) (ys := [.int .i64 0, .int .u16 0, .int .i64 0, .string ⟨#[]⟩]) hy2)
      have y2j := Lib.hid y2r.out.2.1
      have y2k := Lib.hid y2r.out.2.2.1
      have y2b := Lib.hid y2r.out.1
      clear y2r
      by_cases het : et = 0
      · subst het
        go_wp2_with (first
          | ((with_reducible refine wpList_store_at rfl 25 (.tmp 15) (.tmp 95) rfl (o := 0) (vs := [.int .i64 kt, .slice rqt rnt rct, .slice kqt knt kct]) rfl rfl y2j.out (sizeCont (.int .i64 kt) (.slice rqt rnt rct) (.slice kqt knt kct)) (Nat.le_refl _) (cont_one _ _ _ _ _ _ _) ?_)
             intro y2v h9 hg9
             have xt : Hid (Boxed y2v w6.heap.size [.int .i64 kt, .slice rqt rnt rct, .slice kqt knt kct]) := RowV.boxed h9
             have y2k := Lib.hid (RowV.gr y2k.out hg9 (by omega))
             have y2b := Lib.hid (Gr.below hg9 y2b.out (Nat.le_refl _))
             clear h9 hg9 y2j)
          | ((with_reducible refine wpList_store_at rfl 30 (.tmp 16) (.tmp 96) rfl (o := 0) (vs := [.int .i64 tt, .int .u16 it, .int .i64 vt, .string st]) rfl rfl y2k.out (sizeRow tt it vt st) (Nat.le_refl _) (row_one tt it vt st) ?_)
             intro y2w h9 hg9
             have xo : Hid (Boxed y2w (w6.heap.size + 1) [.int .i64 tt, .int .u16 it, .int .i64 vt, .string st]) := RowV.boxed h9
             have xt := Lib.hid (xt.out.gr hg9 (by omega))
             have y2q := Lib.hid (Gr.below hg9 y2b.out (by omega))
             have bc := Lib.hid (bc.out.below y2q.out (Nat.le_refl _))
             have br := Lib.hid (br.out.below y2q.out (Nat.le_refl _))
             have bo := Lib.hid (bo.out.below y2q.out (Nat.le_refl _))
             have xa := Lib.hid (xa.out.below y2q.out (Nat.le_refl _))
             have xp := Lib.hid (xp.out.below y2q.out (Nat.le_refl _))
             have hq := Lib.hid (below_step y2q.out hq.out)
             have hd := Lib.hid (below_step y2q.out hd.out)
             clear h9 hg9 y2k y2b y2q)
          | (with_reducible refine wpList_load_at rfl 25 (.tmp 15) rfl Try.underlying25 rfl (sizeCont (.int .i64 kt) (.slice rqt rnt rct) (.slice kqt knt kct)) rfl xt.out.all ?_)
          | (with_reducible refine wpList_load_at rfl 28 (.tmp 110) rfl Try.underlying28 rfl hsk rfl (Boxed.key br.out) ?_))
        refine (get_any ⟨kt, rqt, rnt, rct, kqt, knt, kct⟩ dt t id y2w (hvt.out _ hq.out)).mono ?_
        rintro e w7 ⟨⟨⟨tb, ib⟩, vb, sb⟩, eb, rfl, hgb, hokb, hb⟩
        have hd := Lib.hid (below_step hb hd.out)
        have bc := Lib.hid (bc.out.below hb (Nat.le_refl _))
        have br := Lib.hid (br.out.below hb (Nat.le_refl _))
        have bo := Lib.hid (bo.out.below hb (Nat.le_refl _))
        have xa := Lib.hid (xa.out.below hb (Nat.le_refl _))
        have xp := Lib.hid (xp.out.below hb (Nat.le_refl _))
        have xt := Lib.hid (xt.out.below hb (Nat.le_refl _))
        have xo := Lib.hid (xo.out.below hb (Nat.le_refl _))
        have hq := Lib.hid (below_step hb hq.out)
        unfold rowV
        obtain rfl := take_get hT.out hgb
        clear hb hgb hokb
        obtain ⟨y3, hy3⟩ : ∃ x, w7.alloc (.cells #[.int .i64 0, .int .u16 0, .int .i64 0, .string ⟨#[]⟩] 30) = x := ⟨_, rfl⟩
        have y3r := Lib.hid (one_row (xs := [.int .i64 0, .int .u16 0, .int .i64 0, .string ⟨#[]⟩]) hy3)
        have y3j := Lib.hid y3r.out.2.1
        have y3b := Lib.hid y3r.out.1
        clear y3r
        go_wp2_with (first
          | ((with_reducible refine wpList_store_at rfl 30 (.tmp 18) (.tmp 113) rfl (o := 0) (vs := [.int .i64 tb, .int .u16 ib, .int .i64 vb, .string sb]) rfl rfl y3j.out (sizeRow tb ib vb sb) (Nat.le_refl _) (row_one tb ib vb sb) ?_)
             intro y3w h9 hg9
             have xb : Hid (Boxed y3w w7.heap.size [.int .i64 tb, .int .u16 ib, .int .i64 vb, .string sb]) := RowV.boxed h9
             have y3q := Lib.hid (Gr.below hg9 y3b.out (Nat.le_refl _))
             have bc := Lib.hid (bc.out.below y3q.out (Nat.le_refl _))
             have br := Lib.hid (br.out.below y3q.out (Nat.le_refl _))
             have bo := Lib.hid (bo.out.below y3q.out (Nat.le_refl _))
             have xa := Lib.hid (xa.out.below y3q.out (Nat.le_refl _))
             have xp := Lib.hid (xp.out.below y3q.out (Nat.le_refl _))
             have xt := Lib.hid (xt.out.below y3q.out (Nat.le_refl _))
             have xo := Lib.hid (xo.out.below y3q.out (Nat.le_refl _))
             have hq := Lib.hid (below_step y3q.out hq.out)
             have hd := Lib.hid (below_step y3q.out hd.out)
             clear h9 hg9 y3j y3b y3q)
          | (with_reducible refine wpList_load_at rfl 25 (.tmp 15) rfl Try.underlying25 rfl (sizeCont (.int .i64 kt) (.slice rqt rnt rct) (.slice kqt knt kct)) rfl xt.out.all ?_)
          | (with_reducible refine wpList_load_at rfl 28 (.tmp 5) rfl Try.underlying28 rfl hso rfl bo.out.all ?_))
        refine (get_any ⟨kt, rqt, rnt, rct, kqt, knt, kct⟩ dt ot oi y3w (hvt.out _ hq.out)).mono ?_
        rintro e w8 ⟨⟨⟨tc, ic⟩, vc, sc⟩, ec, rfl, hgc, hokc, hb⟩
        have hd := Lib.hid (below_step hb hd.out)
        have bc := Lib.hid (bc.out.below hb (Nat.le_refl _))
        have br := Lib.hid (br.out.below hb (Nat.le_refl _))
        have bo := Lib.hid (bo.out.below hb (Nat.le_refl _))
        have xa := Lib.hid (xa.out.below hb (Nat.le_refl _))
        have xp := Lib.hid (xp.out.below hb (Nat.le_refl _))
        have xt := Lib.hid (xt.out.below hb (Nat.le_refl _))
        have xo := Lib.hid (xo.out.below hb (Nat.le_refl _))
        have xb := Lib.hid (xb.out.below hb (Nat.le_refl _))
        have hq := Lib.hid (below_step hb hq.out)
        unfold rowV
        have hoth : Hid ((⟨ot, oi⟩ : KeyD) ≠ ⟨t, id⟩ → (⟨⟨tc, ic⟩, vc, sc⟩ : RowD) = ⟨⟨ta, ia⟩, va, sa⟩ ∧ ec = ea) := fun hne => take_other hT.out hne hga.out hgc
        clear hb hgc hokc
        obtain ⟨y4, hy4⟩ : ∃ x, w8.alloc (.cells #[.int .i64 0, .int .u16 0, .int .i64 0, .string ⟨#[]⟩] 30) = x := ⟨_, rfl⟩
        have y4r := Lib.hid (one_row (xs := [.int .i64 0, .int .u16 0, .int .i64 0, .string ⟨#[]⟩]) hy4)
        have y4j := Lib.hid y4r.out.2.1
        have y4b := Lib.hid y4r.out.1
        clear y4r
        go_wp2_with (first
          | ((with_reducible refine wpList_store_at rfl 30 (.tmp 20) (.tmp 119) rfl (o := 0) (vs := [.int .i64 tc, .int .u16 ic, .int .i64 vc, .string sc]) rfl rfl y4j.out (sizeRow tc ic vc sc) (Nat.le_refl _) (row_one tc ic vc sc) ?_)
             intro y4w h9 hg9
             have xc : Hid (Boxed y4w w8.heap.size [.int .i64 tc, .int .u16 ic, .int .i64 vc, .string sc]) := RowV.boxed h9
             have y4q := Lib.hid (Gr.below hg9 y4b.out (Nat.le_refl _))
             have bc := Lib.hid (bc.out.below y4q.out (Nat.le_refl _))
             have br := Lib.hid (br.out.below y4q.out (Nat.le_refl _))
             have bo := Lib.hid (bo.out.below y4q.out (Nat.le_refl _))
             have xa := Lib.hid (xa.out.below y4q.out (Nat.le_refl _))
             have xp := Lib.hid (xp.out.below y4q.out (Nat.le_refl _))
             have xt := Lib.hid (xt.out.below y4q.out (Nat.le_refl _))
             have xo := Lib.hid (xo.out.below y4q.out (Nat.le_refl _))
             have xb := Lib.hid (xb.out.below y4q.out (Nat.le_refl _))
             have hq := Lib.hid (below_step y4q.out hq.out)
             have hd := Lib.hid (below_step y4q.out hd.out)
             clear h9 hg9 y4j y4b y4q)
          | (with_reducible refine wpList_load_at rfl 25 (.tmp 15) rfl Try.underlying25 rfl (sizeCont (.int .i64 kt) (.slice rqt rnt rct) (.slice kqt knt kct)) rfl xt.out.all ?_)
          | (with_reducible refine wpList_load_at rfl 30 (.tmp 16) rfl Try.underlying30 rfl (sizeRow tt it vt st) rfl xo.out.all ?_))
        refine (put_any ⟨kt, rqt, rnt, rct, kqt, knt, kct⟩ dt tt it vt st y4w (hvt.out _ hq.out) hokt.out).mono ?_
        rintro e w9 ⟨⟨kz, rqz, rnz, rcz, kqz, knz, kcz⟩, dz, ez, rfl, hz, honz, hb⟩
        have hd := Lib.hid (below_step hb hd.out)
        have bc := Lib.hid (bc.out.below hb (Nat.le_refl _))
        have br := Lib.hid (br.out.below hb (Nat.le_refl _))
        have bo := Lib.hid (bo.out.below hb (Nat.le_refl _))
        have xa := Lib.hid (xa.out.below hb (Nat.le_refl _))
        have xp := Lib.hid (xp.out.below hb (Nat.le_refl _))
        have xt := Lib.hid (xt.out.below hb (Nat.le_refl _))
        have xo := Lib.hid (xo.out.below hb (Nat.le_refl _))
        have xb := Lib.hid (xb.out.below hb (Nat.le_refl _))
        have xc := Lib.hid (xc.out.below hb (Nat.le_refl _))
        have hq := Lib.hid (below_step hb hq.out)
        obtain ⟨rfl, rfl⟩ := take_back hT.out hz
        simp only [CV.val]
        have honz := Lib.hid honz
        clear hb hz
        obtain ⟨y5, hy5⟩ : ∃ x, w9.alloc (.cells #[.int .i64 0, .slice none 0 0, .slice none 0 0] 25) = x := ⟨_, rfl⟩
        have y5r := Lib.hid (one_row (xs := [.int .i64 0, .slice none 0 0, .slice none 0 0]) hy5)
        have y5j := Lib.hid y5r.out.2.1
        have y5b := Lib.hid y5r.out.1
        clear y5r
        have hek := fun u => eq_key u ot oi t id
        have her := fun u => eql_row u tc ic vc sc ta ia va sa
        by_cases hsame : (⟨ot, oi⟩ : KeyD) = ⟨t, id⟩
        · have hk1 : eqK ⟨ot, oi⟩ ⟨t, id⟩ = true := eqK_iff.2 hsame
          rw [hk1] at hek
          clear hoth hsame hk1
          go_wp2_with (first
            | ((with_reducible refine wpList_store_at rfl 25 (.tmp 22) (.tmp 125) rfl (o := 0) (vs := [.int .i64 kz, .slice rqz rnz rcz, .slice kqz knz kcz]) rfl rfl y5j.out (sizeCont (.int .i64 kz) (.slice rqz rnz rcz) (.slice kqz knz kcz)) (Nat.le_refl _) (cont_one _ _ _ _ _ _ _) ?_)
               intro y5w h9 hg9
               have xz : Hid (Boxed y5w w9.heap.size [.int .i64 kz, .slice rqz rnz rcz, .slice kqz knz kcz]) := RowV.boxed h9
               have y5q := Lib.hid (Gr.below hg9 y5b.out (Nat.le_refl _))
               have bc := Lib.hid (bc.out.below y5q.out (Nat.le_refl _))
               have br := Lib.hid (br.out.below y5q.out (Nat.le_refl _))
               have bo := Lib.hid (bo.out.below y5q.out (Nat.le_refl _))
               have xa := Lib.hid (xa.out.below y5q.out (Nat.le_refl _))
               have xp := Lib.hid (xp.out.below y5q.out (Nat.le_refl _))
               have xt := Lib.hid (xt.out.below y5q.out (Nat.le_refl _))
               have xo := Lib.hid (xo.out.below y5q.out (Nat.le_refl _))
               have xb := Lib.hid (xb.out.below y5q.out (Nat.le_refl _))
               have xc := Lib.hid (xc.out.below y5q.out (Nat.le_refl _))
               have hq := Lib.hid (below_step y5q.out hq.out)
               have hd := Lib.hid (below_step y5q.out hd.out)
               have honz := Lib.hid (CV.On.below honz.out y5q.out (Nat.le_refl _))
               have z0 := xz.out.cell 0 rfl
               have z1 := xz.out.cell 1 rfl
               have z2 := xz.out.cell 2 rfl
               have c0 := bc.out.cell 0 rfl
               have c1 := bc.out.cell 1 rfl
               have c2 := bc.out.cell 2 rfl
               have o0 := bo.out.cell 0 rfl
               have o1 := bo.out.cell 1 rfl
               have r0 := br.out.cell 0 rfl
               have r1 := br.out.cell 1 rfl
               have a0 := xa.out.cell 0 rfl
               have a1 := xa.out.cell 1 rfl
               have a2 := xa.out.cell 2 rfl
               have a3 := xa.out.cell 3 rfl
               have d0 := xc.out.cell 0 rfl
               have d1 := xc.out.cell 1 rfl
               have d2 := xc.out.cell 2 rfl
               have d3 := xc.out.cell 3 rfl
               clear h9 hg9 y5j y5b y5q))
          have hsm := same_c kz rqz rnz rcz kqz knz kcz _ k rq rn rc kq kn kc _ y5w honz.out (hv.out _ hd.out)
          rw [sameC_iff.2 rfl] at hsm
          refine hsm.mono ?_
          clear hsm z0 z1 z2 c0 c1 c2 o0 o1 r0 r1 a0 a1 a2 a3 d0 d1 d2 d3
          rintro e w10 ⟨rfl, hb⟩
          have hfin := Lib.hid (below_step hb hd.out)
          clear hb hd
          go_wp2
          go_ret
          exact ⟨rfl, hfin.out⟩
        · have hk1 : eqK ⟨ot, oi⟩ ⟨t, id⟩ = false := by rw [Bool.eq_false_iff]; exact fun h => hsame (eqK_iff.1 h)
          rw [hk1] at hek
          obtain ⟨h1, h2⟩ := hoth.out hsame
          replace h1 := h1.symm
          replace h2 := h2.symm
          cases h1
          subst h2
          rw [eqR_iff.2 rfl] at her
          have hee : (ea == ea) = true := by simp
          clear hoth hsame hk1
          go_wp2_with (first
            | ((with_reducible refine wpList_store_at rfl 25 (.tmp 22) (.tmp 125) rfl (o := 0) (vs := [.int .i64 kz, .slice rqz rnz rcz, .slice kqz knz kcz]) rfl rfl y5j.out (sizeCont (.int .i64 kz) (.slice rqz rnz rcz) (.slice kqz knz kcz)) (Nat.le_refl _) (cont_one _ _ _ _ _ _ _) ?_)
               intro y5w h9 hg9
               have xz : Hid (Boxed y5w w9.heap.size [.int .i64 kz, .slice rqz rnz rcz, .slice kqz knz kcz]) := RowV.boxed h9
               have y5q := Lib.hid (Gr.below hg9 y5b.out (Nat.le_refl _))
               have bc := Lib.hid (bc.out.below y5q.out (Nat.le_refl _))
               have br := Lib.hid (br.out.below y5q.out (Nat.le_refl _))
               have bo := Lib.hid (bo.out.below y5q.out (Nat.le_refl _))
               have xa := Lib.hid (xa.out.below y5q.out (Nat.le_refl _))
               have xp := Lib.hid (xp.out.below y5q.out (Nat.le_refl _))
               have xt := Lib.hid (xt.out.below y5q.out (Nat.le_refl _))
               have xo := Lib.hid (xo.out.below y5q.out (Nat.le_refl _))
               have xb := Lib.hid (xb.out.below y5q.out (Nat.le_refl _))
               have xc := Lib.hid (xc.out.below y5q.out (Nat.le_refl _))
               have hq := Lib.hid (below_step y5q.out hq.out)
               have hd := Lib.hid (below_step y5q.out hd.out)
               have honz := Lib.hid (CV.On.below honz.out y5q.out (Nat.le_refl _))
               have z0 := xz.out.cell 0 rfl
               have z1 := xz.out.cell 1 rfl
               have z2 := xz.out.cell 2 rfl
               have c0 := bc.out.cell 0 rfl
               have c1 := bc.out.cell 1 rfl
               have c2 := bc.out.cell 2 rfl
               have o0 := bo.out.cell 0 rfl
               have o1 := bo.out.cell 1 rfl
               have r0 := br.out.cell 0 rfl
               have r1 := br.out.cell 1 rfl
               have a0 := xa.out.cell 0 rfl
               have a1 := xa.out.cell 1 rfl
               have a2 := xa.out.cell 2 rfl
               have a3 := xa.out.cell 3 rfl
               have d0 := xc.out.cell 0 rfl
               have d1 := xc.out.cell 1 rfl
               have d2 := xc.out.cell 2 rfl
               have d3 := xc.out.cell 3 rfl
               clear h9 hg9 y5j y5b y5q))
          have hsm := same_c kz rqz rnz rcz kqz knz kcz _ k rq rn rc kq kn kc _ y5w honz.out (hv.out _ hd.out)
          rw [sameC_iff.2 rfl] at hsm
          refine hsm.mono ?_
          clear hsm z0 z1 z2 c0 c1 c2 o0 o1 r0 r1 a0 a1 a2 a3 d0 d1 d2 d3
          rintro e w10 ⟨rfl, hb⟩
          have hfin := Lib.hid (below_step hb hd.out)
          clear hb hd
          go_wp2
          go_ret
          exact ⟨rfl, hfin.out⟩
      · have he1 : (et != 0) = true := by simpa using het
        obtain ⟨rfl, hr⟩ := hT.out.no het
        have hr' := Lib.hid hr
        clear hr
        clear het hT
        go_wp2_with (first
          | ((with_reducible refine wpList_store_at rfl 25 (.tmp 15) (.tmp 95) rfl (o := 0) (vs := [.int .i64 kt, .slice rqt rnt rct, .slice kqt knt kct]) rfl rfl y2j.out (sizeCont (.int .i64 kt) (.slice rqt rnt rct) (.slice kqt knt kct)) (Nat.le_refl _) (cont_one _ _ _ _ _ _ _) ?_)
             intro y2v h9 hg9
             have xt : Hid (Boxed y2v w6.heap.size [.int .i64 kt, .slice rqt rnt rct, .slice kqt knt kct]) := RowV.boxed h9
             have y2k := Lib.hid (RowV.gr y2k.out hg9 (by omega))
             have y2b := Lib.hid (Gr.below hg9 y2b.out (Nat.le_refl _))
             clear h9 hg9 y2j)
          | ((with_reducible refine wpList_store_at rfl 30 (.tmp 16) (.tmp 96) rfl (o := 0) (vs := [.int .i64 tt, .int .u16 it, .int .i64 vt, .string st]) rfl rfl y2k.out (sizeRow tt it vt st) (Nat.le_refl _) (row_one tt it vt st) ?_)
             intro y2w h9 hg9
             have xo : Hid (Boxed y2w (w6.heap.size + 1) [.int .i64 tt, .int .u16 it, .int .i64 vt, .string st]) := RowV.boxed h9
             have xt := Lib.hid (xt.out.gr hg9 (by omega))
             have y2q := Lib.hid (Gr.below hg9 y2b.out (by omega))
             have bc := Lib.hid (bc.out.below y2q.out (Nat.le_refl _))
             have br := Lib.hid (br.out.below y2q.out (Nat.le_refl _))
             have bo := Lib.hid (bo.out.below y2q.out (Nat.le_refl _))
             have xa := Lib.hid (xa.out.below y2q.out (Nat.le_refl _))
             have xp := Lib.hid (xp.out.below y2q.out (Nat.le_refl _))
             have hq := Lib.hid (below_step y2q.out hq.out)
             have hd := Lib.hid (below_step y2q.out hd.out)
             clear h9 hg9 y2k y2b y2q)
          | (with_reducible refine wpList_load_at rfl 25 (.tmp 15) rfl Try.underlying25 rfl (sizeCont (.int .i64 kt) (.slice rqt rnt rct) (.slice kqt knt kct)) rfl xt.out.all ?_))
        refine (pSize_any ⟨kt, rqt, rnt, rct, kqt, knt, kct⟩ zeroC y2w (hvt.out _ hq.out) 0 ⟨fun _ => rfl, fun _ => rfl⟩).mono ?_
        rintro e w7 ⟨rfl, hb⟩
        have hd := Lib.hid (below_step hb hd.out)
        have bc := Lib.hid (bc.out.below hb (Nat.le_refl _))
        have br := Lib.hid (br.out.below hb (Nat.le_refl _))
        have bo := Lib.hid (bo.out.below hb (Nat.le_refl _))
        have xa := Lib.hid (xa.out.below hb (Nat.le_refl _))
        have xp := Lib.hid (xp.out.below hb (Nat.le_refl _))
        have xt := Lib.hid (xt.out.below hb (Nat.le_refl _))
        have xo := Lib.hid (xo.out.below hb (Nat.le_refl _))
        have her := fun u => eql_row u tt it vt st 0 0 0 ⟨#[]⟩
        have hR : eqR ⟨⟨tt, it⟩, vt, st⟩ ⟨⟨0, 0⟩, 0, ⟨#[]⟩⟩ = true := eqR_iff.2 hr'.out
        rw [hR] at her
        have o0 := xo.out.cell 0 rfl
        have o1 := xo.out.cell 1 rfl
        have o2 := xo.out.cell 2 rfl
        have o3 := xo.out.cell 3 rfl
        clear hb
        go_wp2
        go_ret
        exact ⟨rfl, hd.out⟩

set_option maxRecDepth 1000000 in
theorem holds_lifted (os : Os) (started : os.Started) (H : Type) (enc : TypeId × Value → H) :
    ReturnsInHanded {} Try.checked os 7 .any (Rows.pageHoldsSpec.pre6 enc Try.prog Try.f7 Rows.pageHoldsRow.domain false) (Rows.pageHoldsSpec.post enc Try.prog Try.f7 false true false false) := by
  refine returnsInHanded_of_change (C := Try.checked) own started (by kernel_rfl) Try.func7
    (ChangeSpec.witness6 (enc := enc) (C := Try.checked) false ⟨#[], #[.agg #[.int .i64 0, .slice none 0 0, .slice none 0 0], .agg #[.int .i64 0, .int .u16 0, .int .i64 0, .string ⟨#[]⟩], .agg #[.int .i64 0, .int .u16 0]], []⟩ 8 (by kernel_rfl) (by kernel_rfl) (by kernel_rfl) (by kernel_rfl)) ?_
  intro W base args ds gs before hval0 hW _ _
  have hval : ∀ (j : Nat) t v, Try.f7.params[j]? = some t → args[j]? = some v → Value.okWide Try.prog W .any base t v := hval0
  have hW' := hW
  obtain ⟨p, q, hA0, hV, rfl, _, _⟩ := hW
  have hA : DataW.TrodAll enc Try.prog W 0 (fun _ => true) true Try.f7.params.toList args.toList ds p := hA0
  rw [Try.params7] at hA hval
  obtain ⟨v0, v1, v2, d0, d1, d2, p0, p1, p2, rfl, rfl, rfl, h0, h1, h2⟩ := trodAll_three hA
  obtain ⟨rfl, rfl⟩ := trodVars_none hV
  obtain ⟨k0, rq0, rn0, rc0, kq0, kn0, kc0, x0, rfl, hc0⟩ := open_cont (hval 0 25 v0 rfl rfl) h0
  obtain ⟨⟨⟨rt1, ri1⟩, rv1, rs1⟩, rfl, hk1⟩ := open_row (hval 1 30 v1 rfl rfl) h1
  obtain ⟨⟨kt2, ki2⟩, rfl, hk2⟩ := open_key (hval 2 28 v2 rfl rfl) h2
  refine (holds_law k0 rq0 rn0 rc0 kq0 kn0 kc0 x0 rt1 ri1 rv1 rs1 kt2 ki2 W hc0 hk1 hk2).mono fun e W' ⟨he, hb⟩ => ?_
  subst he
  exact ⟨_, rfl, law_post laidOut (of_decide_eq_true (by kernel_rfl)) rfl (by kernel_rfl) Try.underlying4 hW' ⟨rfl, rfl, rfl⟩ hb⟩

set_option maxRecDepth 1000000 in
theorem holds_holds : Rows.PageHoldsSaid :=
  OpenClaim.holds_of_wide 7 Try.f7 rfl rfl rfl rfl rfl rfl rfl ⟨rfl, rfl, rfl, rfl, rfl⟩ rfl rfl rfl rfl rfl (by kernel_rfl) Try.func7 (by kernel_rfl)
    (of_decide_eq_true (by kernel_rfl)) (by unfold Func.isWrapper; first | (rw [if_pos (by decide +kernel)]; kernel_rfl) | (rw [if_neg (by decide +kernel)]; exact ⟨rfl, rfl⟩))
    (fun os started H enc _ => holds_lifted os started H enc)
end Go.Proofs.Ytaiepdhmlmnggaa
