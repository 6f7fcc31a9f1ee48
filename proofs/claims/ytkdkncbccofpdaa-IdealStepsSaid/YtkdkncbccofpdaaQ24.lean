/- Do of the document's ideal. -/
import Derived.Test.YtkdkncbccofpdaaQ23
import Derived.Test.YtkdkncbccofpdaaQ11
namespace Go.Proofs.Ytkdkncbccofpdaa
open Go.ChangeShapes Go.WideShapes Go.ChangeAt Go.RowKit Go.Deep Go.Joins
set_option maxRecDepth 100000
def DrPost (r : List RowD × AnsD) (w : World) (e : Ending) (w' : World) : Prop :=
 ∃ (jq : Option Addr) (jn jc : Nat) (aq : Option Addr) (an ac : Nat) (ae ak : Int), e = .returned (.tuple #[.slice jq jn jc, .agg #[.int .i64 ae, .slice aq an ac, .int .i64 ak]]) ∧ RowsOn w' jq jn jc r.1 ∧ RowsOn w' aq an ac r.2.rows ∧ ae = r.2.e ∧ ak = r.2.n ∧ Below w.heap.size w w'
theorem refE_found {bs : List BdD} {l : List RowD} {q : ReqD} (h : refE bs l q = 0) (hk : ¬ q.k = 2 ∧ ¬ q.k = 3) : findB l q.key = true := by
 cases hf : findB l q.key with
 | true => rfl
 | false =>
   unfold refE at h
   rw [if_neg hk.1, if_neg hk.2, if_pos hf] at h
   split at h <;> cases h
theorem refE_to {bs : List BdD} {l : List RowD} {q : ReqD} (h : refE bs l q = 0) (hk : q.k = 8) : findB l q.to = true := by
 have h1 := refE_found h (by omega)
 unfold refE at h
 rw [if_neg (by omega), if_neg (by omega), if_neg (by omega), if_neg (by rw [h1]; simp), if_neg (by omega), if_pos hk] at h
 cases hf : findB l q.to with
 | true => rfl
 | false => rw [hf, if_pos rfl] at h; cases h
theorem rowC_one (t id v : Int) (s : ByteArray) : ∀ x ∈ ([.int .i64 t, .int .u16 id, .int .i64 v, .string s] : List Value), x.oneCell' = true := RowD.one ⟨⟨t, id⟩, v, s⟩
theorem plusN_ok (a b : Int) : I64 (plusN a b) := by
 unfold I64
 rcases fits_or a b with ⟨h1, h2, _, e⟩ | ⟨_, _, e⟩ | ⟨_, _, e⟩ <;> rw [e] <;> omega
set_option maxHeartbeats 4000000 in
theorem dr_1 (kt ki tt ti qv : Int) (qs : ByteArray) (qn : Int) (tq : Option Addr) (tn tc : Nat) (bs : List BdD) (lq : Option Addr) (ln lc : Nat) (l : List RowD) (w : World) (h : SchOn w tq tn tc bs) (hr : RowsOn w lq ln lc l) (hc : chkList bs l = 0) (hq : ReqOk ⟨1, ⟨kt, ki⟩, ⟨tt, ti⟩, qv, qs, qn⟩) (hrq : reqB bs ⟨1, ⟨kt, ki⟩, ⟨tt, ti⟩, qv, qs, qn⟩ = true) :
 Calls Try.prog 18 #[.agg #[.slice tq tn tc], .slice lq ln lc, .agg #[.int .i64 1, .int .i64 kt, .int .u16 ki, .int .i64 tt, .int .u16 ti, .int .i64 qv, .string qs, .int .i64 qn]] w (DrPost (docR bs l ⟨1, ⟨kt, ki⟩, ⟨tt, ti⟩, qv, qs, qn⟩) w) := by
 obtain ⟨W, hW⟩ : ∃ W, ((w.alloc (.cells #[.slice tq tn tc] 24)).alloc (.cells #[.int .i64 1, .int .i64 kt, .int .u16 ki, .int .i64 tt, .int .u16 ti, .int .i64 qv, .string qs, .int .i64 qn] 30)).alloc (.cells #[.int .i64 0, .slice none 0 0, .int .i64 0] 35) = W := ⟨_, rfl⟩
 have hbx := Lib.hid (three_rowsI (xs := [.slice tq tn tc]) (ys := [.int .i64 1, .int .i64 kt, .int .u16 ki, .int .i64 tt, .int .u16 ti, .int .i64 qv, .string qs, .int .i64 qn]) (zs := [.int .i64 0, .slice none 0 0, .int .i64 0]) hW)
 have b0 := Lib.hid hbx.out.1
 have s0 := Lib.hid hbx.out.2.1
 have q0 := Lib.hid hbx.out.2.2.1
 have z0 := Lib.hid hbx.out.2.2.2.1
 have hlen := hr.len
 have h60 := ((okL_good bs l).1 (chkList_zero hc).2).1
 have hfd := Lib.hid (refFind_any lq ln lc l kt ki W (hr.below b0.out (Nat.le_refl _)) (by omega))
 obtain ⟨RE, hRE⟩ : ∃ x, refE bs l ⟨1, ⟨kt, ki⟩, ⟨tt, ti⟩, qv, qs, qn⟩ = x := ⟨_, rfl⟩
 have hrf : Hid (∀ u, Below w.heap.size w u → Calls Try.prog 44 #[.agg #[.int .i64 1, .int .i64 kt, .int .u16 ki, .int .i64 tt, .int .u16 ti, .int .i64 qv, .string qs, .int .i64 qn], .agg #[.slice tq tn tc], .slice lq ln lc, .int .i64 (findAt l ⟨kt, ki⟩)] u (fun e w' => e = .returned (.int .i64 RE) ∧ Below u.heap.size u w')) := by
  intro u hu
  have h1 := refused_any 1 kt ki tt ti qv qs qn tq tn tc bs lq ln lc l u (h.below hu (Nat.le_refl _)) (hr.below hu (Nat.le_refl _)) hc hq hrq (by decide)
  unfold RfPost at h1
  rw [hRE] at h1
  exact h1
 have hh := Lib.hid h
 have hr' := Lib.hid hr
 have hc' := Lib.hid hc
 have hq' := Lib.hid hq
 have hrq' := Lib.hid hrq
 have hRE' := Lib.hid hRE
 have y1 : W.cell? ⟨w.heap.size + 1, 1, none⟩ = some (.int .i64 kt) := q0.out.cell 1
 have y2 : W.cell? ⟨w.heap.size + 1, 2, none⟩ = some (.int .u16 ki) := q0.out.cell 2
 clear hbx h hr hc hq hrq hRE
 go_enter Try.func18, Try.ntmps18
 go_wp2_with fail
 clear hW y1 y2
 refine hfd.out.mono ?_
 rintro e u1 ⟨rfl, hb⟩
 clear hfd
 have s1 := Lib.hid (s0.out.below hb)
 have q1 := Lib.hid (q0.out.below hb)
 have z1 := Lib.hid (z0.out.below hb)
 have b1 := Lib.hid (b0.out.trans (hb.mono b0.out.size))
 clear hb s0 q0 z0 b0
 have y0 : u1.cell? ⟨w.heap.size + 1, 0, none⟩ = some (.int .i64 1) := q1.out.cell 0
 have y1 : u1.cell? ⟨w.heap.size + 1, 1, none⟩ = some (.int .i64 kt) := q1.out.cell 1
 have y2 : u1.cell? ⟨w.heap.size + 1, 2, none⟩ = some (.int .u16 ki) := q1.out.cell 2
 have y3 : u1.cell? ⟨w.heap.size + 1, 3, none⟩ = some (.int .i64 tt) := q1.out.cell 3
 have y4 : u1.cell? ⟨w.heap.size + 1, 4, none⟩ = some (.int .u16 ti) := q1.out.cell 4
 have y5 : u1.cell? ⟨w.heap.size + 1, 5, none⟩ = some (.int .i64 qv) := q1.out.cell 5
 have y6 : u1.cell? ⟨w.heap.size + 1, 6, none⟩ = some (.string qs) := q1.out.cell 6
 have y7 : u1.cell? ⟨w.heap.size + 1, 7, none⟩ = some (.int .i64 qn) := q1.out.cell 7
 have x0 : u1.cell? ⟨w.heap.size, 0, none⟩ = some (.slice tq tn tc) := s1.out.cell 0
 obtain ⟨AT, hAT⟩ : ∃ a, findAt l ⟨kt, ki⟩ = a := ⟨_, rfl⟩
 rw [hAT] at hrf ⊢
 have hAT' := Lib.hid hAT
 clear hAT
 go_wp2_with fail
 clear y0 y1 y2 y3 y4 y5 y6 y7 x0
 refine (hrf.out u1 b1.out).mono ?_
 rintro e u2 ⟨rfl, hb⟩
 clear hrf
 have s2 := Lib.hid (s1.out.below hb)
 have q2 := Lib.hid (q1.out.below hb)
 have z2 := Lib.hid (z1.out.below hb)
 have b2 := Lib.hid (b1.out.trans (hb.mono b1.out.size))
 clear hb s1 q1 z1 b1
 by_cases hz : RE = 0
 case neg =>
  have d1 : (RE != 0) = true := by simpa using hz
  have hdr : Hid (docR bs l ⟨1, ⟨kt, ki⟩, ⟨tt, ti⟩, qv, qs, qn⟩ = (l, errA RE)) := by show _ = _; unfold docR; rw [hRE'.out, if_pos hz]
  clear hz
  have x0 : u2.cell? ⟨w.heap.size + 2, 0, none⟩ = some (.int .i64 0) := z2.out.cell 0
  have f0 := z2.out.free 0
  have x1 : u2.cell? ⟨w.heap.size + 2, 1, none⟩ = some (.slice none 0 0) := z2.out.cell 1
  have f1 := z2.out.free 1
  have x2 : u2.cell? ⟨w.heap.size + 2, 2, none⟩ = some (.int .i64 0) := z2.out.cell 2
  have f2 := z2.out.free 2
  obtain ⟨Z, hZ⟩ : ∃ Z, (((u2.setCell ⟨w.heap.size + 2, 0, none⟩ (.int .i64 RE)).setCell ⟨w.heap.size + 2, 1, none⟩ (.slice none 0 0)).setCell ⟨w.heap.size + 2, 2, none⟩ (.int .i64 0)) = Z := ⟨_, rfl⟩
  have hgZ : u2.grownBy Z (some (w.heap.size + 2)) := by rw [← hZ]; exact grown_trans (grown_trans (setCell_grown _ _ _ _) (setCell_grown _ _ _ _)) (setCell_grown _ _ _ _)
  have hgZ' := Lib.hid hgZ
  have zZ : Hid (RowV 35 Z (w.heap.size + 2) [.int .i64 RE, .slice none 0 0, .int .i64 0]) := by
   show RowV _ _ _ _
   rw [← hZ]
   exact ((z2.out.set 0 (.int .i64 RE)).set 1 (.slice none 0 0)).set 2 (.int .i64 0)
  have bZ := Lib.hid (b2.out.grown hgZ b2.out.size (fun k hk => by cases hk; omega))
  clear hgZ
  go_wp2
  have m0 := zZ.out.cell 0
  have m1 := zZ.out.cell 1
  have m2 := zZ.out.cell 2
  simp only [List.getElem?_cons_zero, List.getElem?_cons_succ] at m0 m1 m2
  refine bodyPost_ret (v := .tuple #[.slice lq ln lc, .agg #[.int .i64 RE, .slice none 0 0, .int .i64 0]]) (by simp [results, Try.results18, go_sem, m0, m1, m2]) rfl ?_
  rw [hdr.out]
  exact ⟨_, _, _, _, _, _, _, _, rfl, hr'.out.below bZ.out (Nat.le_refl _), RowsOn.none_ _, rfl, rfl, bZ.out⟩
 subst hz
 have y0 : u2.cell? ⟨w.heap.size + 1, 0, none⟩ = some (.int .i64 1) := q2.out.cell 0
 have hf := refE_found hRE'.out (by simp)
 obtain ⟨i, hi, hdi, hki⟩ := rowK_of hf
 have hat : AT = (i : Int) := by rw [← hAT'.out]; unfold findAt; rw [hi]
 subst hat
 have hlt : i < ln := by have := (List.getElem?_eq_some_iff.1 hdi).1; omega
 obtain ⟨A, r_, rfl, hx_, ok_, hcc⟩ := hr'.out.at hlt
 rw [hdi] at hx_
 obtain rfl := Option.some.inj hx_
 obtain ⟨r_, hrw⟩ : ∃ r, rowK l ⟨kt, ki⟩ = r := ⟨_, rfl⟩
 have hrow0 := row_ok hc'.out hdi
 rw [hrw] at ok_ hcc hrow0
 obtain ⟨⟨dt, di⟩, dv, ds⟩ := r_
 have hrw' := Lib.hid hrw
 have hcw := Lib.hid hcc
 have hcd : Hid (∀ j x, (⟨⟨dt, di⟩, dv, ds⟩ : RowD).cells[j]? = some x → u2.cell? ((A.add (i * 4)).add j) = some x) := fun j x hj => cell_keeps b2.out (Nat.le_refl _) (hcw.out j x hj)
 have ok' := Lib.hid ok_
 have hpi := Lib.hid (rowE_parts hrow0)
 have i0 : (0 : Int) ≤ i := by omega
 have i1 : (i : Int) < ln := by omega
 clear hf hi hdi hki hrw hcc ok_ hAT' hrow0
 have hdr : Hid (docR bs l ⟨1, ⟨kt, ki⟩, ⟨tt, ti⟩, qv, qs, qn⟩ = (l, ⟨0, [⟨⟨dt, di⟩, dv, ds⟩], 0⟩)) := by show _ = _; simp [docR, hRE'.out, hrw'.out]
 go_wp2
 refine wp_region_held (S := fun u => Below w.heap.size w u) (by kernel_rfl) ?_
 change wpAnyH _ _ _ _ _ _ _ _ (World.drew u2)
 have hX0 : Hid (Below w.heap.size w u2.drew) := b2.out.trans ((below_drew u2).mono b2.out.size)
 refine held_tk (i := 0) (dst := some 31) (v := .slice (some A) ln lc) rfl rfl (y_move (.tmp 1) rfl rfl rfl) hX0.out ?_
 go_frame
 refine held_tk (i := 7) (dst := some 6) (v := .slice (some A) ln lc) rfl rfl (.inl ⟨rfl, fun u _ => by go_simp⟩) hX0.out ?_
 go_frame
 refine held_tk (i := 1) (dst := some 32) (v := .slice (some A) ln lc) rfl rfl (y_move (.tmp 1) rfl rfl rfl) hX0.out ?_
 go_frame
 refine held_tk (i := 2) (dst := some 33) (v := .int .i64 (i : Int)) rfl rfl (y_move (.tmp 8) rfl rfl rfl) hX0.out ?_
 go_frame
 refine held_tk (i := 3) (dst := some 34) (v := .pointer (some (A.add (i * 4)))) rfl rfl (.inl ⟨rfl, fun u _ => by go_simp⟩) hX0.out ?_
 go_frame
 refine held_tk (i := 4) (dst := some 35) (v := .agg #[.int .i64 dt, .int .u16 di, .int .i64 dv, .string ds]) rfl rfl (y_load_agg 68 (.tmp 34) rfl rfl rfl (fun u hu => run_loadVar_at Try.underlying68 rfl (sizeRow dt di dv ds) _ (fun j x hj => cell_keeps hu (Nat.le_refl _) (hcw.out j x hj)))) hX0.out ?_
 go_frame
 obtain ⟨u3, hu3⟩ : ∃ u3, u2.drew.alloc (.cells #[.int .i64 dt, .int .u16 di, .int .i64 dv, .string ds] 68) = u3 := ⟨_, rfl⟩
 have hbx3 := one_rowI (xs := [.int .i64 dt, .int .u16 di, .int .i64 dv, .string ds]) hu3
 have hX1 : Hid (Below w.heap.size w u3) := hX0.out.trans (hbx3.1.mono hX0.out.size)
 refine held_value (i := 5) (dst := some 36) (w' := u3) (v := .slice (some ⟨u2.drew.heap.size, 0, none⟩) 1 1) rfl rfl (by kernel_rfl) rfl (by rw [← hu3]; go_simp) hX1.out ?_
 go_frame
 refine held_tk (i := 6) (dst := some 37) (v := .agg #[.int .i64 0, .slice (some ⟨u2.drew.heap.size, 0, none⟩) 1 1, .int .i64 0]) rfl rfl (.inl ⟨rfl, fun u _ => by go_simp⟩) hX1.out ?_
 go_frame
 have ao := Lib.hid (OwnL.single (r := ⟨⟨dt, di⟩, dv, ds⟩) hbx3.2.1 ok'.out)
 have z3 := Lib.hid ((z2.out.below (below_drew u2)).below hbx3.1)
 obtain ⟨u9, hst, h9, hg9⟩ := run_storeVar_at (P := Try.prog) (ty := 35) (o := 0) (vs := [.int .i64 0, .slice (some ⟨u2.drew.heap.size, 0, none⟩) 1 1, .int .i64 0]) z3.out (sizeAns _ _ _) (Nat.le_refl _) (ans_one _ _ _ _ _)
 have b9 := Lib.hid (hX1.out.grown hg9 hX1.out.size (fun k hk => by cases hk; omega))
 refine held_skip (i := 8) (dst := none) (w' := u9) rfl rfl (by kernel_rfl) rfl (run_store_op rfl rfl rfl hst) b9.out ?_
 go_frame
 refine wpAnyH_done (by kernel_rfl) ?_ _
 have h9' : Hid (RowV 35 u9 (w.heap.size + 2) [.int .i64 0, .slice (some ⟨u2.drew.heap.size, 0, none⟩) 1 1, .int .i64 0]) := h9
 have a9 := Lib.hid (ao.out.gt hg9 z3.out (by decide))
 clear hst h9 hg9 hX0 hX1 hbx3 ao
 go_wp2
 have m0 := h9'.out.cell 0
 have m1 := h9'.out.cell 1
 have m2 := h9'.out.cell 2
 simp only [List.getElem?_cons_zero, List.getElem?_cons_succ] at m0 m1 m2
 refine bodyPost_ret (v := .tuple #[.slice (some A) ln lc, .agg #[.int .i64 0, .slice (some ⟨u2.drew.heap.size, 0, none⟩) 1 1, .int .i64 0]]) (by simp [results, Try.results18, go_sem, m0, m1, m2]) rfl ?_
 rw [hdr.out]
 exact ⟨_, _, _, _, _, _, _, _, rfl, hr'.out.below b9.out (Nat.le_refl _), a9.out.reads, rfl, rfl, b9.out⟩
set_option maxHeartbeats 4000000 in
theorem dr_2 (kt ki tt ti qv : Int) (qs : ByteArray) (qn : Int) (tq : Option Addr) (tn tc : Nat) (bs : List BdD) (lq : Option Addr) (ln lc : Nat) (l : List RowD) (w : World) (h : SchOn w tq tn tc bs) (hr : RowsOn w lq ln lc l) (hc : chkList bs l = 0) (hq : ReqOk ⟨2, ⟨kt, ki⟩, ⟨tt, ti⟩, qv, qs, qn⟩) (hrq : reqB bs ⟨2, ⟨kt, ki⟩, ⟨tt, ti⟩, qv, qs, qn⟩ = true) :
 Calls Try.prog 18 #[.agg #[.slice tq tn tc], .slice lq ln lc, .agg #[.int .i64 2, .int .i64 kt, .int .u16 ki, .int .i64 tt, .int .u16 ti, .int .i64 qv, .string qs, .int .i64 qn]] w (DrPost (docR bs l ⟨2, ⟨kt, ki⟩, ⟨tt, ti⟩, qv, qs, qn⟩) w) := by
 obtain ⟨W, hW⟩ : ∃ W, ((w.alloc (.cells #[.slice tq tn tc] 24)).alloc (.cells #[.int .i64 2, .int .i64 kt, .int .u16 ki, .int .i64 tt, .int .u16 ti, .int .i64 qv, .string qs, .int .i64 qn] 30)).alloc (.cells #[.int .i64 0, .slice none 0 0, .int .i64 0] 35) = W := ⟨_, rfl⟩
 have hbx := Lib.hid (three_rowsI (xs := [.slice tq tn tc]) (ys := [.int .i64 2, .int .i64 kt, .int .u16 ki, .int .i64 tt, .int .u16 ti, .int .i64 qv, .string qs, .int .i64 qn]) (zs := [.int .i64 0, .slice none 0 0, .int .i64 0]) hW)
 have b0 := Lib.hid hbx.out.1
 have s0 := Lib.hid hbx.out.2.1
 have q0 := Lib.hid hbx.out.2.2.1
 have z0 := Lib.hid hbx.out.2.2.2.1
 have hlen := hr.len
 have h60 := ((okL_good bs l).1 (chkList_zero hc).2).1
 have hfd := Lib.hid (refFind_any lq ln lc l kt ki W (hr.below b0.out (Nat.le_refl _)) (by omega))
 obtain ⟨RE, hRE⟩ : ∃ x, refE bs l ⟨2, ⟨kt, ki⟩, ⟨tt, ti⟩, qv, qs, qn⟩ = x := ⟨_, rfl⟩
 have hrf : Hid (∀ u, Below w.heap.size w u → Calls Try.prog 44 #[.agg #[.int .i64 2, .int .i64 kt, .int .u16 ki, .int .i64 tt, .int .u16 ti, .int .i64 qv, .string qs, .int .i64 qn], .agg #[.slice tq tn tc], .slice lq ln lc, .int .i64 (findAt l ⟨kt, ki⟩)] u (fun e w' => e = .returned (.int .i64 RE) ∧ Below u.heap.size u w')) := by
  intro u hu
  have h1 := refused_any 2 kt ki tt ti qv qs qn tq tn tc bs lq ln lc l u (h.below hu (Nat.le_refl _)) (hr.below hu (Nat.le_refl _)) hc hq hrq (by decide)
  unfold RfPost at h1
  rw [hRE] at h1
  exact h1
 have hh := Lib.hid h
 have hr' := Lib.hid hr
 have hc' := Lib.hid hc
 have hq' := Lib.hid hq
 have hrq' := Lib.hid hrq
 have hRE' := Lib.hid hRE
 have y1 : W.cell? ⟨w.heap.size + 1, 1, none⟩ = some (.int .i64 kt) := q0.out.cell 1
 have y2 : W.cell? ⟨w.heap.size + 1, 2, none⟩ = some (.int .u16 ki) := q0.out.cell 2
 clear hbx h hr hc hq hrq hRE
 go_enter Try.func18, Try.ntmps18
 go_wp2_with fail
 clear hW y1 y2
 refine hfd.out.mono ?_
 rintro e u1 ⟨rfl, hb⟩
 clear hfd
 have s1 := Lib.hid (s0.out.below hb)
 have q1 := Lib.hid (q0.out.below hb)
 have z1 := Lib.hid (z0.out.below hb)
 have b1 := Lib.hid (b0.out.trans (hb.mono b0.out.size))
 clear hb s0 q0 z0 b0
 have y0 : u1.cell? ⟨w.heap.size + 1, 0, none⟩ = some (.int .i64 2) := q1.out.cell 0
 have y1 : u1.cell? ⟨w.heap.size + 1, 1, none⟩ = some (.int .i64 kt) := q1.out.cell 1
 have y2 : u1.cell? ⟨w.heap.size + 1, 2, none⟩ = some (.int .u16 ki) := q1.out.cell 2
 have y3 : u1.cell? ⟨w.heap.size + 1, 3, none⟩ = some (.int .i64 tt) := q1.out.cell 3
 have y4 : u1.cell? ⟨w.heap.size + 1, 4, none⟩ = some (.int .u16 ti) := q1.out.cell 4
 have y5 : u1.cell? ⟨w.heap.size + 1, 5, none⟩ = some (.int .i64 qv) := q1.out.cell 5
 have y6 : u1.cell? ⟨w.heap.size + 1, 6, none⟩ = some (.string qs) := q1.out.cell 6
 have y7 : u1.cell? ⟨w.heap.size + 1, 7, none⟩ = some (.int .i64 qn) := q1.out.cell 7
 have x0 : u1.cell? ⟨w.heap.size, 0, none⟩ = some (.slice tq tn tc) := s1.out.cell 0
 obtain ⟨AT, hAT⟩ : ∃ a, findAt l ⟨kt, ki⟩ = a := ⟨_, rfl⟩
 rw [hAT] at hrf ⊢
 have hAT' := Lib.hid hAT
 clear hAT
 go_wp2_with fail
 clear y0 y1 y2 y3 y4 y5 y6 y7 x0
 refine (hrf.out u1 b1.out).mono ?_
 rintro e u2 ⟨rfl, hb⟩
 clear hrf
 have s2 := Lib.hid (s1.out.below hb)
 have q2 := Lib.hid (q1.out.below hb)
 have z2 := Lib.hid (z1.out.below hb)
 have b2 := Lib.hid (b1.out.trans (hb.mono b1.out.size))
 clear hb s1 q1 z1 b1
 by_cases hz : RE = 0
 case neg =>
  have d1 : (RE != 0) = true := by simpa using hz
  have hdr : Hid (docR bs l ⟨2, ⟨kt, ki⟩, ⟨tt, ti⟩, qv, qs, qn⟩ = (l, errA RE)) := by show _ = _; unfold docR; rw [hRE'.out, if_pos hz]
  clear hz
  have x0 : u2.cell? ⟨w.heap.size + 2, 0, none⟩ = some (.int .i64 0) := z2.out.cell 0
  have f0 := z2.out.free 0
  have x1 : u2.cell? ⟨w.heap.size + 2, 1, none⟩ = some (.slice none 0 0) := z2.out.cell 1
  have f1 := z2.out.free 1
  have x2 : u2.cell? ⟨w.heap.size + 2, 2, none⟩ = some (.int .i64 0) := z2.out.cell 2
  have f2 := z2.out.free 2
  obtain ⟨Z, hZ⟩ : ∃ Z, (((u2.setCell ⟨w.heap.size + 2, 0, none⟩ (.int .i64 RE)).setCell ⟨w.heap.size + 2, 1, none⟩ (.slice none 0 0)).setCell ⟨w.heap.size + 2, 2, none⟩ (.int .i64 0)) = Z := ⟨_, rfl⟩
  have hgZ : u2.grownBy Z (some (w.heap.size + 2)) := by rw [← hZ]; exact grown_trans (grown_trans (setCell_grown _ _ _ _) (setCell_grown _ _ _ _)) (setCell_grown _ _ _ _)
  have hgZ' := Lib.hid hgZ
  have zZ : Hid (RowV 35 Z (w.heap.size + 2) [.int .i64 RE, .slice none 0 0, .int .i64 0]) := by
   show RowV _ _ _ _
   rw [← hZ]
   exact ((z2.out.set 0 (.int .i64 RE)).set 1 (.slice none 0 0)).set 2 (.int .i64 0)
  have bZ := Lib.hid (b2.out.grown hgZ b2.out.size (fun k hk => by cases hk; omega))
  clear hgZ
  go_wp2
  have m0 := zZ.out.cell 0
  have m1 := zZ.out.cell 1
  have m2 := zZ.out.cell 2
  simp only [List.getElem?_cons_zero, List.getElem?_cons_succ] at m0 m1 m2
  refine bodyPost_ret (v := .tuple #[.slice lq ln lc, .agg #[.int .i64 RE, .slice none 0 0, .int .i64 0]]) (by simp [results, Try.results18, go_sem, m0, m1, m2]) rfl ?_
  rw [hdr.out]
  exact ⟨_, _, _, _, _, _, _, _, rfl, hr'.out.below bZ.out (Nat.le_refl _), RowsOn.none_ _, rfl, rfl, bZ.out⟩
 subst hz
 have y0 : u2.cell? ⟨w.heap.size + 1, 0, none⟩ = some (.int .i64 2) := q2.out.cell 0
 have hdr : Hid (docR bs l ⟨2, ⟨kt, ki⟩, ⟨tt, ti⟩, qv, qs, qn⟩ = (l, ⟨0, ofL l kt, 0⟩)) := by show _ = _; simp [docR, hRE'.out]
 have y1 : u2.cell? ⟨w.heap.size + 1, 1, none⟩ = some (.int .i64 kt) := q2.out.cell 1
 go_wp2_with fail
 clear y0 y1
 refine (refOf_any lq ln lc l kt u2 (hr'.out.below b2.out (Nat.le_refl _)) (by omega)).mono ?_
 rintro e u3 ⟨jq, jn, jc, rfl, ho, hl2, hb⟩
 have o3 : Hid (OwnL u3 jq jn jc _) := ⟨ho.mono (Nat.zero_le _), hl2.ok⟩
 have s3 := Lib.hid (s2.out.below hb)
 have q3 := Lib.hid (q2.out.below hb)
 have z3 := Lib.hid (z2.out.below hb)
 have b3 := Lib.hid (b2.out.trans (hb.mono b2.out.size))
 clear hb ho hl2 s2 q2 z2 b2
 have x0 : u3.cell? ⟨w.heap.size + 2, 0, none⟩ = some (.int .i64 0) := z3.out.cell 0
 have f0 := z3.out.free 0
 have x1 : u3.cell? ⟨w.heap.size + 2, 1, none⟩ = some (.slice none 0 0) := z3.out.cell 1
 have f1 := z3.out.free 1
 have x2 : u3.cell? ⟨w.heap.size + 2, 2, none⟩ = some (.int .i64 0) := z3.out.cell 2
 have f2 := z3.out.free 2
 obtain ⟨Z, hZ⟩ : ∃ Z, (((u3.setCell ⟨w.heap.size + 2, 0, none⟩ (.int .i64 0)).setCell ⟨w.heap.size + 2, 1, none⟩ (.slice jq jn jc)).setCell ⟨w.heap.size + 2, 2, none⟩ (.int .i64 0)) = Z := ⟨_, rfl⟩
 have hgZ : u3.grownBy Z (some (w.heap.size + 2)) := by rw [← hZ]; exact grown_trans (grown_trans (setCell_grown _ _ _ _) (setCell_grown _ _ _ _)) (setCell_grown _ _ _ _)
 have hgZ' := Lib.hid hgZ
 have zZ : Hid (RowV 35 Z (w.heap.size + 2) [.int .i64 0, .slice jq jn jc, .int .i64 0]) := by
  show RowV _ _ _ _
  rw [← hZ]
  exact ((z3.out.set 0 (.int .i64 0)).set 1 (.slice jq jn jc)).set 2 (.int .i64 0)
 have bZ := Lib.hid (b3.out.grown hgZ b3.out.size (fun k hk => by cases hk; omega))
 clear hgZ
 go_wp2
 have m0 := zZ.out.cell 0
 have m1 := zZ.out.cell 1
 have m2 := zZ.out.cell 2
 simp only [List.getElem?_cons_zero, List.getElem?_cons_succ] at m0 m1 m2
 refine bodyPost_ret (v := .tuple #[.slice lq ln lc, .agg #[.int .i64 0, .slice jq jn jc, .int .i64 0]]) (by simp [results, Try.results18, go_sem, m0, m1, m2]) rfl ?_
 rw [hdr.out]
 exact ⟨_, _, _, _, _, _, _, _, rfl, hr'.out.below bZ.out (Nat.le_refl _), (o3.out.gt hgZ'.out z3.out (by decide)).reads, rfl, rfl, bZ.out⟩
set_option maxHeartbeats 4000000 in
theorem dr_3 (kt ki tt ti qv : Int) (qs : ByteArray) (qn : Int) (tq : Option Addr) (tn tc : Nat) (bs : List BdD) (lq : Option Addr) (ln lc : Nat) (l : List RowD) (w : World) (h : SchOn w tq tn tc bs) (hr : RowsOn w lq ln lc l) (hc : chkList bs l = 0) (hq : ReqOk ⟨3, ⟨kt, ki⟩, ⟨tt, ti⟩, qv, qs, qn⟩) (hrq : reqB bs ⟨3, ⟨kt, ki⟩, ⟨tt, ti⟩, qv, qs, qn⟩ = true) :
 Calls Try.prog 18 #[.agg #[.slice tq tn tc], .slice lq ln lc, .agg #[.int .i64 3, .int .i64 kt, .int .u16 ki, .int .i64 tt, .int .u16 ti, .int .i64 qv, .string qs, .int .i64 qn]] w (DrPost (docR bs l ⟨3, ⟨kt, ki⟩, ⟨tt, ti⟩, qv, qs, qn⟩) w) := by
 obtain ⟨W, hW⟩ : ∃ W, ((w.alloc (.cells #[.slice tq tn tc] 24)).alloc (.cells #[.int .i64 3, .int .i64 kt, .int .u16 ki, .int .i64 tt, .int .u16 ti, .int .i64 qv, .string qs, .int .i64 qn] 30)).alloc (.cells #[.int .i64 0, .slice none 0 0, .int .i64 0] 35) = W := ⟨_, rfl⟩
 have hbx := Lib.hid (three_rowsI (xs := [.slice tq tn tc]) (ys := [.int .i64 3, .int .i64 kt, .int .u16 ki, .int .i64 tt, .int .u16 ti, .int .i64 qv, .string qs, .int .i64 qn]) (zs := [.int .i64 0, .slice none 0 0, .int .i64 0]) hW)
 have b0 := Lib.hid hbx.out.1
 have s0 := Lib.hid hbx.out.2.1
 have q0 := Lib.hid hbx.out.2.2.1
 have z0 := Lib.hid hbx.out.2.2.2.1
 have hlen := hr.len
 have h60 := ((okL_good bs l).1 (chkList_zero hc).2).1
 have hfd := Lib.hid (refFind_any lq ln lc l kt ki W (hr.below b0.out (Nat.le_refl _)) (by omega))
 obtain ⟨RE, hRE⟩ : ∃ x, refE bs l ⟨3, ⟨kt, ki⟩, ⟨tt, ti⟩, qv, qs, qn⟩ = x := ⟨_, rfl⟩
 have hrf : Hid (∀ u, Below w.heap.size w u → Calls Try.prog 44 #[.agg #[.int .i64 3, .int .i64 kt, .int .u16 ki, .int .i64 tt, .int .u16 ti, .int .i64 qv, .string qs, .int .i64 qn], .agg #[.slice tq tn tc], .slice lq ln lc, .int .i64 (findAt l ⟨kt, ki⟩)] u (fun e w' => e = .returned (.int .i64 RE) ∧ Below u.heap.size u w')) := by
  intro u hu
  have h1 := refused_any 3 kt ki tt ti qv qs qn tq tn tc bs lq ln lc l u (h.below hu (Nat.le_refl _)) (hr.below hu (Nat.le_refl _)) hc hq hrq (by decide)
  unfold RfPost at h1
  rw [hRE] at h1
  exact h1
 have hh := Lib.hid h
 have hr' := Lib.hid hr
 have hc' := Lib.hid hc
 have hq' := Lib.hid hq
 have hrq' := Lib.hid hrq
 have hRE' := Lib.hid hRE
 have y1 : W.cell? ⟨w.heap.size + 1, 1, none⟩ = some (.int .i64 kt) := q0.out.cell 1
 have y2 : W.cell? ⟨w.heap.size + 1, 2, none⟩ = some (.int .u16 ki) := q0.out.cell 2
 clear hbx h hr hc hq hrq hRE
 go_enter Try.func18, Try.ntmps18
 go_wp2_with fail
 clear hW y1 y2
 refine hfd.out.mono ?_
 rintro e u1 ⟨rfl, hb⟩
 clear hfd
 have s1 := Lib.hid (s0.out.below hb)
 have q1 := Lib.hid (q0.out.below hb)
 have z1 := Lib.hid (z0.out.below hb)
 have b1 := Lib.hid (b0.out.trans (hb.mono b0.out.size))
 clear hb s0 q0 z0 b0
 have y0 : u1.cell? ⟨w.heap.size + 1, 0, none⟩ = some (.int .i64 3) := q1.out.cell 0
 have y1 : u1.cell? ⟨w.heap.size + 1, 1, none⟩ = some (.int .i64 kt) := q1.out.cell 1
 have y2 : u1.cell? ⟨w.heap.size + 1, 2, none⟩ = some (.int .u16 ki) := q1.out.cell 2
 have y3 : u1.cell? ⟨w.heap.size + 1, 3, none⟩ = some (.int .i64 tt) := q1.out.cell 3
 have y4 : u1.cell? ⟨w.heap.size + 1, 4, none⟩ = some (.int .u16 ti) := q1.out.cell 4
 have y5 : u1.cell? ⟨w.heap.size + 1, 5, none⟩ = some (.int .i64 qv) := q1.out.cell 5
 have y6 : u1.cell? ⟨w.heap.size + 1, 6, none⟩ = some (.string qs) := q1.out.cell 6
 have y7 : u1.cell? ⟨w.heap.size + 1, 7, none⟩ = some (.int .i64 qn) := q1.out.cell 7
 have x0 : u1.cell? ⟨w.heap.size, 0, none⟩ = some (.slice tq tn tc) := s1.out.cell 0
 obtain ⟨AT, hAT⟩ : ∃ a, findAt l ⟨kt, ki⟩ = a := ⟨_, rfl⟩
 rw [hAT] at hrf ⊢
 have hAT' := Lib.hid hAT
 clear hAT
 go_wp2_with fail
 clear y0 y1 y2 y3 y4 y5 y6 y7 x0
 refine (hrf.out u1 b1.out).mono ?_
 rintro e u2 ⟨rfl, hb⟩
 clear hrf
 have s2 := Lib.hid (s1.out.below hb)
 have q2 := Lib.hid (q1.out.below hb)
 have z2 := Lib.hid (z1.out.below hb)
 have b2 := Lib.hid (b1.out.trans (hb.mono b1.out.size))
 clear hb s1 q1 z1 b1
 by_cases hz : RE = 0
 case neg =>
  have d1 : (RE != 0) = true := by simpa using hz
  have hdr : Hid (docR bs l ⟨3, ⟨kt, ki⟩, ⟨tt, ti⟩, qv, qs, qn⟩ = (l, errA RE)) := by show _ = _; unfold docR; rw [hRE'.out, if_pos hz]
  clear hz
  have x0 : u2.cell? ⟨w.heap.size + 2, 0, none⟩ = some (.int .i64 0) := z2.out.cell 0
  have f0 := z2.out.free 0
  have x1 : u2.cell? ⟨w.heap.size + 2, 1, none⟩ = some (.slice none 0 0) := z2.out.cell 1
  have f1 := z2.out.free 1
  have x2 : u2.cell? ⟨w.heap.size + 2, 2, none⟩ = some (.int .i64 0) := z2.out.cell 2
  have f2 := z2.out.free 2
  obtain ⟨Z, hZ⟩ : ∃ Z, (((u2.setCell ⟨w.heap.size + 2, 0, none⟩ (.int .i64 RE)).setCell ⟨w.heap.size + 2, 1, none⟩ (.slice none 0 0)).setCell ⟨w.heap.size + 2, 2, none⟩ (.int .i64 0)) = Z := ⟨_, rfl⟩
  have hgZ : u2.grownBy Z (some (w.heap.size + 2)) := by rw [← hZ]; exact grown_trans (grown_trans (setCell_grown _ _ _ _) (setCell_grown _ _ _ _)) (setCell_grown _ _ _ _)
  have hgZ' := Lib.hid hgZ
  have zZ : Hid (RowV 35 Z (w.heap.size + 2) [.int .i64 RE, .slice none 0 0, .int .i64 0]) := by
   show RowV _ _ _ _
   rw [← hZ]
   exact ((z2.out.set 0 (.int .i64 RE)).set 1 (.slice none 0 0)).set 2 (.int .i64 0)
  have bZ := Lib.hid (b2.out.grown hgZ b2.out.size (fun k hk => by cases hk; omega))
  clear hgZ
  go_wp2
  have m0 := zZ.out.cell 0
  have m1 := zZ.out.cell 1
  have m2 := zZ.out.cell 2
  simp only [List.getElem?_cons_zero, List.getElem?_cons_succ] at m0 m1 m2
  refine bodyPost_ret (v := .tuple #[.slice lq ln lc, .agg #[.int .i64 RE, .slice none 0 0, .int .i64 0]]) (by simp [results, Try.results18, go_sem, m0, m1, m2]) rfl ?_
  rw [hdr.out]
  exact ⟨_, _, _, _, _, _, _, _, rfl, hr'.out.below bZ.out (Nat.le_refl _), RowsOn.none_ _, rfl, rfl, bZ.out⟩
 subst hz
 have y0 : u2.cell? ⟨w.heap.size + 1, 0, none⟩ = some (.int .i64 3) := q2.out.cell 0
 have hdr : Hid (docR bs l ⟨3, ⟨kt, ki⟩, ⟨tt, ti⟩, qv, qs, qn⟩ = (withL l ⟨⟨kt, ki⟩, qv, qs⟩, okA)) := by show _ = _; simp [docR, hRE'.out]
 have y1 : u2.cell? ⟨w.heap.size + 1, 1, none⟩ = some (.int .i64 kt) := q2.out.cell 1
 have y2 : u2.cell? ⟨w.heap.size + 1, 2, none⟩ = some (.int .u16 ki) := q2.out.cell 2
 have y5 : u2.cell? ⟨w.heap.size + 1, 5, none⟩ = some (.int .i64 qv) := q2.out.cell 5
 have y6 : u2.cell? ⟨w.heap.size + 1, 6, none⟩ = some (.string qs) := q2.out.cell 6
 have hok : Hid (RowOk ⟨⟨kt, ki⟩, qv, qs⟩) := ⟨hq'.out.key, hq'.out.val, hq'.out.note⟩
 go_wp2_with fail
 clear y0 y1 y2 y5 y6
 refine (with_any lq ln lc l kt ki qv qs u2 (hr'.out.below b2.out (Nat.le_refl _)) (by omega) hok.out).mono ?_
 rintro e u3 ⟨jq, jn, jc, rfl, ho, hl2, hb⟩
 have o3 : Hid (OwnL u3 jq jn jc _) := ⟨ho.mono (Nat.zero_le _), hl2.ok⟩
 have s3 := Lib.hid (s2.out.below hb)
 have q3 := Lib.hid (q2.out.below hb)
 have z3 := Lib.hid (z2.out.below hb)
 have b3 := Lib.hid (b2.out.trans (hb.mono b2.out.size))
 clear hb ho hl2 s2 q2 z2 b2
 have x0 : u3.cell? ⟨w.heap.size + 2, 0, none⟩ = some (.int .i64 0) := z3.out.cell 0
 have f0 := z3.out.free 0
 have x1 : u3.cell? ⟨w.heap.size + 2, 1, none⟩ = some (.slice none 0 0) := z3.out.cell 1
 have f1 := z3.out.free 1
 have x2 : u3.cell? ⟨w.heap.size + 2, 2, none⟩ = some (.int .i64 0) := z3.out.cell 2
 have f2 := z3.out.free 2
 obtain ⟨Z, hZ⟩ : ∃ Z, (((u3.setCell ⟨w.heap.size + 2, 0, none⟩ (.int .i64 0)).setCell ⟨w.heap.size + 2, 1, none⟩ (.slice none 0 0)).setCell ⟨w.heap.size + 2, 2, none⟩ (.int .i64 0)) = Z := ⟨_, rfl⟩
 have hgZ : u3.grownBy Z (some (w.heap.size + 2)) := by rw [← hZ]; exact grown_trans (grown_trans (setCell_grown _ _ _ _) (setCell_grown _ _ _ _)) (setCell_grown _ _ _ _)
 have hgZ' := Lib.hid hgZ
 have zZ : Hid (RowV 35 Z (w.heap.size + 2) [.int .i64 0, .slice none 0 0, .int .i64 0]) := by
  show RowV _ _ _ _
  rw [← hZ]
  exact ((z3.out.set 0 (.int .i64 0)).set 1 (.slice none 0 0)).set 2 (.int .i64 0)
 have bZ := Lib.hid (b3.out.grown hgZ b3.out.size (fun k hk => by cases hk; omega))
 clear hgZ
 go_wp2
 have m0 := zZ.out.cell 0
 have m1 := zZ.out.cell 1
 have m2 := zZ.out.cell 2
 simp only [List.getElem?_cons_zero, List.getElem?_cons_succ] at m0 m1 m2
 refine bodyPost_ret (v := .tuple #[.slice jq jn jc, .agg #[.int .i64 0, .slice none 0 0, .int .i64 0]]) (by simp [results, Try.results18, go_sem, m0, m1, m2]) rfl ?_
 rw [hdr.out]
 exact ⟨_, _, _, _, _, _, _, _, rfl, (o3.out.gt hgZ'.out z3.out (by decide)).reads, RowsOn.none_ _, rfl, rfl, bZ.out⟩
set_option maxHeartbeats 4000000 in
theorem dr_4 (kt ki tt ti qv : Int) (qs : ByteArray) (qn : Int) (tq : Option Addr) (tn tc : Nat) (bs : List BdD) (lq : Option Addr) (ln lc : Nat) (l : List RowD) (w : World) (h : SchOn w tq tn tc bs) (hr : RowsOn w lq ln lc l) (hc : chkList bs l = 0) (hq : ReqOk ⟨4, ⟨kt, ki⟩, ⟨tt, ti⟩, qv, qs, qn⟩) (hrq : reqB bs ⟨4, ⟨kt, ki⟩, ⟨tt, ti⟩, qv, qs, qn⟩ = true) :
 Calls Try.prog 18 #[.agg #[.slice tq tn tc], .slice lq ln lc, .agg #[.int .i64 4, .int .i64 kt, .int .u16 ki, .int .i64 tt, .int .u16 ti, .int .i64 qv, .string qs, .int .i64 qn]] w (DrPost (docR bs l ⟨4, ⟨kt, ki⟩, ⟨tt, ti⟩, qv, qs, qn⟩) w) := by
 obtain ⟨W, hW⟩ : ∃ W, ((w.alloc (.cells #[.slice tq tn tc] 24)).alloc (.cells #[.int .i64 4, .int .i64 kt, .int .u16 ki, .int .i64 tt, .int .u16 ti, .int .i64 qv, .string qs, .int .i64 qn] 30)).alloc (.cells #[.int .i64 0, .slice none 0 0, .int .i64 0] 35) = W := ⟨_, rfl⟩
 have hbx := Lib.hid (three_rowsI (xs := [.slice tq tn tc]) (ys := [.int .i64 4, .int .i64 kt, .int .u16 ki, .int .i64 tt, .int .u16 ti, .int .i64 qv, .string qs, .int .i64 qn]) (zs := [.int .i64 0, .slice none 0 0, .int .i64 0]) hW)
 have b0 := Lib.hid hbx.out.1
 have s0 := Lib.hid hbx.out.2.1
 have q0 := Lib.hid hbx.out.2.2.1
 have z0 := Lib.hid hbx.out.2.2.2.1
 have hlen := hr.len
 have h60 := ((okL_good bs l).1 (chkList_zero hc).2).1
 have hfd := Lib.hid (refFind_any lq ln lc l kt ki W (hr.below b0.out (Nat.le_refl _)) (by omega))
 obtain ⟨RE, hRE⟩ : ∃ x, refE bs l ⟨4, ⟨kt, ki⟩, ⟨tt, ti⟩, qv, qs, qn⟩ = x := ⟨_, rfl⟩
 have hrf : Hid (∀ u, Below w.heap.size w u → Calls Try.prog 44 #[.agg #[.int .i64 4, .int .i64 kt, .int .u16 ki, .int .i64 tt, .int .u16 ti, .int .i64 qv, .string qs, .int .i64 qn], .agg #[.slice tq tn tc], .slice lq ln lc, .int .i64 (findAt l ⟨kt, ki⟩)] u (fun e w' => e = .returned (.int .i64 RE) ∧ Below u.heap.size u w')) := by
  intro u hu
  have h1 := refused_any 4 kt ki tt ti qv qs qn tq tn tc bs lq ln lc l u (h.below hu (Nat.le_refl _)) (hr.below hu (Nat.le_refl _)) hc hq hrq (by decide)
  unfold RfPost at h1
  rw [hRE] at h1
  exact h1
 have hh := Lib.hid h
 have hr' := Lib.hid hr
 have hc' := Lib.hid hc
 have hq' := Lib.hid hq
 have hrq' := Lib.hid hrq
 have hRE' := Lib.hid hRE
 have y1 : W.cell? ⟨w.heap.size + 1, 1, none⟩ = some (.int .i64 kt) := q0.out.cell 1
 have y2 : W.cell? ⟨w.heap.size + 1, 2, none⟩ = some (.int .u16 ki) := q0.out.cell 2
 clear hbx h hr hc hq hrq hRE
 go_enter Try.func18, Try.ntmps18
 go_wp2_with fail
 clear hW y1 y2
 refine hfd.out.mono ?_
 rintro e u1 ⟨rfl, hb⟩
 clear hfd
 have s1 := Lib.hid (s0.out.below hb)
 have q1 := Lib.hid (q0.out.below hb)
 have z1 := Lib.hid (z0.out.below hb)
 have b1 := Lib.hid (b0.out.trans (hb.mono b0.out.size))
 clear hb s0 q0 z0 b0
 have y0 : u1.cell? ⟨w.heap.size + 1, 0, none⟩ = some (.int .i64 4) := q1.out.cell 0
 have y1 : u1.cell? ⟨w.heap.size + 1, 1, none⟩ = some (.int .i64 kt) := q1.out.cell 1
 have y2 : u1.cell? ⟨w.heap.size + 1, 2, none⟩ = some (.int .u16 ki) := q1.out.cell 2
 have y3 : u1.cell? ⟨w.heap.size + 1, 3, none⟩ = some (.int .i64 tt) := q1.out.cell 3
 have y4 : u1.cell? ⟨w.heap.size + 1, 4, none⟩ = some (.int .u16 ti) := q1.out.cell 4
 have y5 : u1.cell? ⟨w.heap.size + 1, 5, none⟩ = some (.int .i64 qv) := q1.out.cell 5
 have y6 : u1.cell? ⟨w.heap.size + 1, 6, none⟩ = some (.string qs) := q1.out.cell 6
 have y7 : u1.cell? ⟨w.heap.size + 1, 7, none⟩ = some (.int .i64 qn) := q1.out.cell 7
 have x0 : u1.cell? ⟨w.heap.size, 0, none⟩ = some (.slice tq tn tc) := s1.out.cell 0
 obtain ⟨AT, hAT⟩ : ∃ a, findAt l ⟨kt, ki⟩ = a := ⟨_, rfl⟩
 rw [hAT] at hrf ⊢
 have hAT' := Lib.hid hAT
 clear hAT
 go_wp2_with fail
 clear y0 y1 y2 y3 y4 y5 y6 y7 x0
 refine (hrf.out u1 b1.out).mono ?_
 rintro e u2 ⟨rfl, hb⟩
 clear hrf
 have s2 := Lib.hid (s1.out.below hb)
 have q2 := Lib.hid (q1.out.below hb)
 have z2 := Lib.hid (z1.out.below hb)
 have b2 := Lib.hid (b1.out.trans (hb.mono b1.out.size))
 clear hb s1 q1 z1 b1
 by_cases hz : RE = 0
 case neg =>
  have d1 : (RE != 0) = true := by simpa using hz
  have hdr : Hid (docR bs l ⟨4, ⟨kt, ki⟩, ⟨tt, ti⟩, qv, qs, qn⟩ = (l, errA RE)) := by show _ = _; unfold docR; rw [hRE'.out, if_pos hz]
  clear hz
  have x0 : u2.cell? ⟨w.heap.size + 2, 0, none⟩ = some (.int .i64 0) := z2.out.cell 0
  have f0 := z2.out.free 0
  have x1 : u2.cell? ⟨w.heap.size + 2, 1, none⟩ = some (.slice none 0 0) := z2.out.cell 1
  have f1 := z2.out.free 1
  have x2 : u2.cell? ⟨w.heap.size + 2, 2, none⟩ = some (.int .i64 0) := z2.out.cell 2
  have f2 := z2.out.free 2
  obtain ⟨Z, hZ⟩ : ∃ Z, (((u2.setCell ⟨w.heap.size + 2, 0, none⟩ (.int .i64 RE)).setCell ⟨w.heap.size + 2, 1, none⟩ (.slice none 0 0)).setCell ⟨w.heap.size + 2, 2, none⟩ (.int .i64 0)) = Z := ⟨_, rfl⟩
  have hgZ : u2.grownBy Z (some (w.heap.size + 2)) := by rw [← hZ]; exact grown_trans (grown_trans (setCell_grown _ _ _ _) (setCell_grown _ _ _ _)) (setCell_grown _ _ _ _)
  have hgZ' := Lib.hid hgZ
  have zZ : Hid (RowV 35 Z (w.heap.size + 2) [.int .i64 RE, .slice none 0 0, .int .i64 0]) := by
   show RowV _ _ _ _
   rw [← hZ]
   exact ((z2.out.set 0 (.int .i64 RE)).set 1 (.slice none 0 0)).set 2 (.int .i64 0)
  have bZ := Lib.hid (b2.out.grown hgZ b2.out.size (fun k hk => by cases hk; omega))
  clear hgZ
  go_wp2
  have m0 := zZ.out.cell 0
  have m1 := zZ.out.cell 1
  have m2 := zZ.out.cell 2
  simp only [List.getElem?_cons_zero, List.getElem?_cons_succ] at m0 m1 m2
  refine bodyPost_ret (v := .tuple #[.slice lq ln lc, .agg #[.int .i64 RE, .slice none 0 0, .int .i64 0]]) (by simp [results, Try.results18, go_sem, m0, m1, m2]) rfl ?_
  rw [hdr.out]
  exact ⟨_, _, _, _, _, _, _, _, rfl, hr'.out.below bZ.out (Nat.le_refl _), RowsOn.none_ _, rfl, rfl, bZ.out⟩
 subst hz
 have y0 : u2.cell? ⟨w.heap.size + 1, 0, none⟩ = some (.int .i64 4) := q2.out.cell 0
 have hf := refE_found hRE'.out (by simp)
 obtain ⟨i, hi, hdi, hki⟩ := rowK_of hf
 have hat : AT = (i : Int) := by rw [← hAT'.out]; unfold findAt; rw [hi]
 subst hat
 have hlt : i < ln := by have := (List.getElem?_eq_some_iff.1 hdi).1; omega
 obtain ⟨A, r_, rfl, hx_, ok_, hcc⟩ := hr'.out.at hlt
 rw [hdi] at hx_
 obtain rfl := Option.some.inj hx_
 obtain ⟨r_, hrw⟩ : ∃ r, rowK l ⟨kt, ki⟩ = r := ⟨_, rfl⟩
 have hrow0 := row_ok hc'.out hdi
 rw [hrw] at ok_ hcc hrow0
 obtain ⟨⟨dt, di⟩, dv, ds⟩ := r_
 have hrw' := Lib.hid hrw
 have hcw := Lib.hid hcc
 have hcd : Hid (∀ j x, (⟨⟨dt, di⟩, dv, ds⟩ : RowD).cells[j]? = some x → u2.cell? ((A.add (i * 4)).add j) = some x) := fun j x hj => cell_keeps b2.out (Nat.le_refl _) (hcw.out j x hj)
 have ok' := Lib.hid ok_
 have hpi := Lib.hid (rowE_parts hrow0)
 have i0 : (0 : Int) ≤ i := by omega
 have i1 : (i : Int) < ln := by omega
 clear hf hi hdi hki hrw hcc ok_ hAT' hrow0
 have hdr : Hid (docR bs l ⟨4, ⟨kt, ki⟩, ⟨tt, ti⟩, qv, qs, qn⟩ = (outL l ⟨kt, ki⟩, okA)) := by show _ = _; simp [docR, hRE'.out]
 have y1 : u2.cell? ⟨w.heap.size + 1, 1, none⟩ = some (.int .i64 kt) := q2.out.cell 1
 have y2 : u2.cell? ⟨w.heap.size + 1, 2, none⟩ = some (.int .u16 ki) := q2.out.cell 2
 go_wp2_with fail
 clear y0 y1 y2
 refine (without_any (some A) ln lc l kt ki u2 (hr'.out.below b2.out (Nat.le_refl _)) (by omega)).mono ?_
 rintro e u3 ⟨jq, jn, jc, rfl, ho, hl2, hb⟩
 have o3 : Hid (OwnL u3 jq jn jc _) := ⟨ho.mono (Nat.zero_le _), hl2.ok⟩
 have s3 := Lib.hid (s2.out.below hb)
 have q3 := Lib.hid (q2.out.below hb)
 have z3 := Lib.hid (z2.out.below hb)
 have b3 := Lib.hid (b2.out.trans (hb.mono b2.out.size))
 clear hb ho hl2 s2 q2 z2 b2
 have x0 : u3.cell? ⟨w.heap.size + 2, 0, none⟩ = some (.int .i64 0) := z3.out.cell 0
 have f0 := z3.out.free 0
 have x1 : u3.cell? ⟨w.heap.size + 2, 1, none⟩ = some (.slice none 0 0) := z3.out.cell 1
 have f1 := z3.out.free 1
 have x2 : u3.cell? ⟨w.heap.size + 2, 2, none⟩ = some (.int .i64 0) := z3.out.cell 2
 have f2 := z3.out.free 2
 obtain ⟨Z, hZ⟩ : ∃ Z, (((u3.setCell ⟨w.heap.size + 2, 0, none⟩ (.int .i64 0)).setCell ⟨w.heap.size + 2, 1, none⟩ (.slice none 0 0)).setCell ⟨w.heap.size + 2, 2, none⟩ (.int .i64 0)) = Z := ⟨_, rfl⟩
 have hgZ : u3.grownBy Z (some (w.heap.size + 2)) := by rw [← hZ]; exact grown_trans (grown_trans (setCell_grown _ _ _ _) (setCell_grown _ _ _ _)) (setCell_grown _ _ _ _)
 have hgZ' := Lib.hid hgZ
 have zZ : Hid (RowV 35 Z (w.heap.size + 2) [.int .i64 0, .slice none 0 0, .int .i64 0]) := by
  show RowV _ _ _ _
  rw [← hZ]
  exact ((z3.out.set 0 (.int .i64 0)).set 1 (.slice none 0 0)).set 2 (.int .i64 0)
 have bZ := Lib.hid (b3.out.grown hgZ b3.out.size (fun k hk => by cases hk; omega))
 clear hgZ
 go_wp2
 have m0 := zZ.out.cell 0
 have m1 := zZ.out.cell 1
 have m2 := zZ.out.cell 2
 simp only [List.getElem?_cons_zero, List.getElem?_cons_succ] at m0 m1 m2
 refine bodyPost_ret (v := .tuple #[.slice jq jn jc, .agg #[.int .i64 0, .slice none 0 0, .int .i64 0]]) (by simp [results, Try.results18, go_sem, m0, m1, m2]) rfl ?_
 rw [hdr.out]
 exact ⟨_, _, _, _, _, _, _, _, rfl, (o3.out.gt hgZ'.out z3.out (by decide)).reads, RowsOn.none_ _, rfl, rfl, bZ.out⟩
set_option maxHeartbeats 4000000 in
theorem dr_5 (kt ki tt ti qv : Int) (qs : ByteArray) (qn : Int) (tq : Option Addr) (tn tc : Nat) (bs : List BdD) (lq : Option Addr) (ln lc : Nat) (l : List RowD) (w : World) (h : SchOn w tq tn tc bs) (hr : RowsOn w lq ln lc l) (hc : chkList bs l = 0) (hq : ReqOk ⟨5, ⟨kt, ki⟩, ⟨tt, ti⟩, qv, qs, qn⟩) (hrq : reqB bs ⟨5, ⟨kt, ki⟩, ⟨tt, ti⟩, qv, qs, qn⟩ = true) :
 Calls Try.prog 18 #[.agg #[.slice tq tn tc], .slice lq ln lc, .agg #[.int .i64 5, .int .i64 kt, .int .u16 ki, .int .i64 tt, .int .u16 ti, .int .i64 qv, .string qs, .int .i64 qn]] w (DrPost (docR bs l ⟨5, ⟨kt, ki⟩, ⟨tt, ti⟩, qv, qs, qn⟩) w) := by
 obtain ⟨W, hW⟩ : ∃ W, ((w.alloc (.cells #[.slice tq tn tc] 24)).alloc (.cells #[.int .i64 5, .int .i64 kt, .int .u16 ki, .int .i64 tt, .int .u16 ti, .int .i64 qv, .string qs, .int .i64 qn] 30)).alloc (.cells #[.int .i64 0, .slice none 0 0, .int .i64 0] 35) = W := ⟨_, rfl⟩
 have hbx := Lib.hid (three_rowsI (xs := [.slice tq tn tc]) (ys := [.int .i64 5, .int .i64 kt, .int .u16 ki, .int .i64 tt, .int .u16 ti, .int .i64 qv, .string qs, .int .i64 qn]) (zs := [.int .i64 0, .slice none 0 0, .int .i64 0]) hW)
 have b0 := Lib.hid hbx.out.1
 have s0 := Lib.hid hbx.out.2.1
 have q0 := Lib.hid hbx.out.2.2.1
 have z0 := Lib.hid hbx.out.2.2.2.1
 have hlen := hr.len
 have h60 := ((okL_good bs l).1 (chkList_zero hc).2).1
 have hfd := Lib.hid (refFind_any lq ln lc l kt ki W (hr.below b0.out (Nat.le_refl _)) (by omega))
 obtain ⟨RE, hRE⟩ : ∃ x, refE bs l ⟨5, ⟨kt, ki⟩, ⟨tt, ti⟩, qv, qs, qn⟩ = x := ⟨_, rfl⟩
 have hrf : Hid (∀ u, Below w.heap.size w u → Calls Try.prog 44 #[.agg #[.int .i64 5, .int .i64 kt, .int .u16 ki, .int .i64 tt, .int .u16 ti, .int .i64 qv, .string qs, .int .i64 qn], .agg #[.slice tq tn tc], .slice lq ln lc, .int .i64 (findAt l ⟨kt, ki⟩)] u (fun e w' => e = .returned (.int .i64 RE) ∧ Below u.heap.size u w')) := by
  intro u hu
  have h1 := refused_any 5 kt ki tt ti qv qs qn tq tn tc bs lq ln lc l u (h.below hu (Nat.le_refl _)) (hr.below hu (Nat.le_refl _)) hc hq hrq (by decide)
  unfold RfPost at h1
  rw [hRE] at h1
  exact h1
 have hh := Lib.hid h
 have hr' := Lib.hid hr
 have hc' := Lib.hid hc
 have hq' := Lib.hid hq
 have hrq' := Lib.hid hrq
 have hRE' := Lib.hid hRE
 have y1 : W.cell? ⟨w.heap.size + 1, 1, none⟩ = some (.int .i64 kt) := q0.out.cell 1
 have y2 : W.cell? ⟨w.heap.size + 1, 2, none⟩ = some (.int .u16 ki) := q0.out.cell 2
 clear hbx h hr hc hq hrq hRE
 go_enter Try.func18, Try.ntmps18
 go_wp2_with fail
 clear hW y1 y2
 refine hfd.out.mono ?_
 rintro e u1 ⟨rfl, hb⟩
 clear hfd
 have s1 := Lib.hid (s0.out.below hb)
 have q1 := Lib.hid (q0.out.below hb)
 have z1 := Lib.hid (z0.out.below hb)
 have b1 := Lib.hid (b0.out.trans (hb.mono b0.out.size))
 clear hb s0 q0 z0 b0
 have y0 : u1.cell? ⟨w.heap.size + 1, 0, none⟩ = some (.int .i64 5) := q1.out.cell 0
 have y1 : u1.cell? ⟨w.heap.size + 1, 1, none⟩ = some (.int .i64 kt) := q1.out.cell 1
 have y2 : u1.cell? ⟨w.heap.size + 1, 2, none⟩ = some (.int .u16 ki) := q1.out.cell 2
 have y3 : u1.cell? ⟨w.heap.size + 1, 3, none⟩ = some (.int .i64 tt) := q1.out.cell 3
 have y4 : u1.cell? ⟨w.heap.size + 1, 4, none⟩ = some (.int .u16 ti) := q1.out.cell 4
 have y5 : u1.cell? ⟨w.heap.size + 1, 5, none⟩ = some (.int .i64 qv) := q1.out.cell 5
 have y6 : u1.cell? ⟨w.heap.size + 1, 6, none⟩ = some (.string qs) := q1.out.cell 6
 have y7 : u1.cell? ⟨w.heap.size + 1, 7, none⟩ = some (.int .i64 qn) := q1.out.cell 7
 have x0 : u1.cell? ⟨w.heap.size, 0, none⟩ = some (.slice tq tn tc) := s1.out.cell 0
 obtain ⟨AT, hAT⟩ : ∃ a, findAt l ⟨kt, ki⟩ = a := ⟨_, rfl⟩
 rw [hAT] at hrf ⊢
 have hAT' := Lib.hid hAT
 clear hAT
 go_wp2_with fail
 clear y0 y1 y2 y3 y4 y5 y6 y7 x0
 refine (hrf.out u1 b1.out).mono ?_
 rintro e u2 ⟨rfl, hb⟩
 clear hrf
 have s2 := Lib.hid (s1.out.below hb)
 have q2 := Lib.hid (q1.out.below hb)
 have z2 := Lib.hid (z1.out.below hb)
 have b2 := Lib.hid (b1.out.trans (hb.mono b1.out.size))
 clear hb s1 q1 z1 b1
 by_cases hz : RE = 0
 case neg =>
  have d1 : (RE != 0) = true := by simpa using hz
  have hdr : Hid (docR bs l ⟨5, ⟨kt, ki⟩, ⟨tt, ti⟩, qv, qs, qn⟩ = (l, errA RE)) := by show _ = _; unfold docR; rw [hRE'.out, if_pos hz]
  clear hz
  have x0 : u2.cell? ⟨w.heap.size + 2, 0, none⟩ = some (.int .i64 0) := z2.out.cell 0
  have f0 := z2.out.free 0
  have x1 : u2.cell? ⟨w.heap.size + 2, 1, none⟩ = some (.slice none 0 0) := z2.out.cell 1
  have f1 := z2.out.free 1
  have x2 : u2.cell? ⟨w.heap.size + 2, 2, none⟩ = some (.int .i64 0) := z2.out.cell 2
  have f2 := z2.out.free 2
  obtain ⟨Z, hZ⟩ : ∃ Z, (((u2.setCell ⟨w.heap.size + 2, 0, none⟩ (.int .i64 RE)).setCell ⟨w.heap.size + 2, 1, none⟩ (.slice none 0 0)).setCell ⟨w.heap.size + 2, 2, none⟩ (.int .i64 0)) = Z := ⟨_, rfl⟩
  have hgZ : u2.grownBy Z (some (w.heap.size + 2)) := by rw [← hZ]; exact grown_trans (grown_trans (setCell_grown _ _ _ _) (setCell_grown _ _ _ _)) (setCell_grown _ _ _ _)
  have hgZ' := Lib.hid hgZ
  have zZ : Hid (RowV 35 Z (w.heap.size + 2) [.int .i64 RE, .slice none 0 0, .int .i64 0]) := by
   show RowV _ _ _ _
   rw [← hZ]
   exact ((z2.out.set 0 (.int .i64 RE)).set 1 (.slice none 0 0)).set 2 (.int .i64 0)
  have bZ := Lib.hid (b2.out.grown hgZ b2.out.size (fun k hk => by cases hk; omega))
  clear hgZ
  go_wp2
  have m0 := zZ.out.cell 0
  have m1 := zZ.out.cell 1
  have m2 := zZ.out.cell 2
  simp only [List.getElem?_cons_zero, List.getElem?_cons_succ] at m0 m1 m2
  refine bodyPost_ret (v := .tuple #[.slice lq ln lc, .agg #[.int .i64 RE, .slice none 0 0, .int .i64 0]]) (by simp [results, Try.results18, go_sem, m0, m1, m2]) rfl ?_
  rw [hdr.out]
  exact ⟨_, _, _, _, _, _, _, _, rfl, hr'.out.below bZ.out (Nat.le_refl _), RowsOn.none_ _, rfl, rfl, bZ.out⟩
 subst hz
 have y0 : u2.cell? ⟨w.heap.size + 1, 0, none⟩ = some (.int .i64 5) := q2.out.cell 0
 have hf := refE_found hRE'.out (by simp)
 obtain ⟨i, hi, hdi, hki⟩ := rowK_of hf
 have hat : AT = (i : Int) := by rw [← hAT'.out]; unfold findAt; rw [hi]
 subst hat
 have hlt : i < ln := by have := (List.getElem?_eq_some_iff.1 hdi).1; omega
 obtain ⟨A, r_, rfl, hx_, ok_, hcc⟩ := hr'.out.at hlt
 rw [hdi] at hx_
 obtain rfl := Option.some.inj hx_
 obtain ⟨r_, hrw⟩ : ∃ r, rowK l ⟨kt, ki⟩ = r := ⟨_, rfl⟩
 have hrow0 := row_ok hc'.out hdi
 rw [hrw] at ok_ hcc hrow0
 obtain ⟨⟨dt, di⟩, dv, ds⟩ := r_
 have hrw' := Lib.hid hrw
 have hcw := Lib.hid hcc
 have hcd : Hid (∀ j x, (⟨⟨dt, di⟩, dv, ds⟩ : RowD).cells[j]? = some x → u2.cell? ((A.add (i * 4)).add j) = some x) := fun j x hj => cell_keeps b2.out (Nat.le_refl _) (hcw.out j x hj)
 have ok' := Lib.hid ok_
 have hpi := Lib.hid (rowE_parts hrow0)
 have i0 : (0 : Int) ≤ i := by omega
 have i1 : (i : Int) < ln := by omega
 clear hf hi hdi hki hrw hcc ok_ hAT' hrow0
 have hdr : Hid (docR bs l ⟨5, ⟨kt, ki⟩, ⟨tt, ti⟩, qv, qs, qn⟩ = (withL l ⟨⟨dt, di⟩, dv, qs⟩, okA)) := by show _ = _; simp [docR, hRE'.out, hrw'.out, nwNote]
 obtain ⟨V2, hV2⟩ : ∃ V, u2.alloc (.cells #[.int .i64 0, .int .u16 0, .int .i64 0, .string ⟨#[]⟩] 68) = V := ⟨_, rfl⟩
 have hbv := Lib.hid (one_rowI (xs := [.int .i64 0, .int .u16 0, .int .i64 0, .string ⟨#[]⟩]) hV2)
 have rv := Lib.hid hbv.out.2.1
 have bv := Lib.hid (b2.out.trans (hbv.out.1.mono b2.out.size))
 have sv := Lib.hid (s2.out.below hbv.out.1)
 have qv_ := Lib.hid (q2.out.below hbv.out.1)
 have zv := Lib.hid (z2.out.below hbv.out.1)
 have hwu : w.heap.size + 2 < u2.heap.size := z2.out.lt
 have hcv : Hid (∀ j x, ([.int .i64 dt, .int .u16 di, .int .i64 dv, .string ds] : List Value)[j]? = some x → u2.cell? ((A.add (i * 4)).add j) = some x) := hcd.out
 clear hbv s2 q2 z2
 go_wp2_with (first
  | (with_reducible refine wpList_load_at rfl 68 (.tmp 68) rfl Try.underlying68 rfl (sizeRow dt di dv ds) rfl hcv.out ?_)
  | ((with_reducible refine wpList_store_at rfl 68 (.tmp 10) (.tmp 69) rfl (o := 0) (vs := [.int .i64 dt, .int .u16 di, .int .i64 dv, .string ds]) rfl rfl rv.out (sizeRow _ _ _ _) (Nat.le_refl _) (rowC_one dt di dv ds) ?_)
     intro w3 h3 hg3
     have r3 : Hid (RowV 68 w3 u2.heap.size [.int .i64 dt, .int .u16 di, .int .i64 dv, .string ds]) := h3
     have s3 := Lib.hid (sv.out.kept hg3 (by omega))
     have q3 := Lib.hid (qv_.out.kept hg3 (by omega))
     have z3 := Lib.hid (zv.out.kept hg3 (by omega))
     have b3 := Lib.hid (bv.out.grown hg3 bv.out.size (fun k hk => by cases hk; exact b2.out.size))
     clear h3 hg3 rv bv sv qv_ zv y0
     have y0 : w3.cell? ⟨w.heap.size + 1, 0, none⟩ = some (.int .i64 5) := q3.out.cell 0
     have y6 : w3.cell? ⟨w.heap.size + 1, 6, none⟩ = some (.string qs) := q3.out.cell 6
     have c3 := r3.out.cell 3
     have fc := r3.out.free 3
     simp only [List.getElem?_cons_zero, List.getElem?_cons_succ] at c3
     obtain ⟨w4, hw4⟩ : ∃ w4, w3.setCell ⟨u2.heap.size, 3, none⟩ (.string qs) = w4 := ⟨_, rfl⟩
     have hg4 : w3.grownBy w4 (some u2.heap.size) := by rw [← hw4]; exact setCell_grown _ _ _ _
     have r4 : Hid (RowV 68 w4 u2.heap.size [.int .i64 dt, .int .u16 di, .int .i64 dv, .string qs]) := by
      show RowV _ _ _ _
      rw [← hw4]
      exact r3.out.set 3 (.string qs)
     have s4 := Lib.hid (s3.out.kept hg4 (by omega))
     have q4 := Lib.hid (q3.out.kept hg4 (by omega))
     have z4 := Lib.hid (z3.out.kept hg4 (by omega))
     have b4 := Lib.hid (b3.out.grown hg4 b3.out.size (fun k hk => by cases hk; exact b2.out.size))
     have e0 := r4.out.cell 0
     have e1 := r4.out.cell 1
     have e2 := r4.out.cell 2
     have e3 := r4.out.cell 3
     simp only [List.getElem?_cons_zero, List.getElem?_cons_succ] at e0 e1 e2 e3
     clear hg4))
 try clear y0 y6 c3 fc
 try clear hw4
 try clear e0 e1 e2 e3
 clear r3 s3 q3 z3 b3 r4
 have hok : Hid (RowOk ⟨⟨dt, di⟩, dv, qs⟩) := ⟨ok'.out.key, ok'.out.val, hq'.out.note⟩
 refine (with_any (some A) ln lc l dt di dv qs w4 (hr'.out.below b4.out (Nat.le_refl _)) (by omega) hok.out).mono ?_
 rintro e u5 ⟨jq, jn, jc, rfl, ho, hl2, hb⟩
 have o5 : Hid (OwnL u5 jq jn jc _) := ⟨ho.mono (Nat.zero_le _), hl2.ok⟩
 have s5 := Lib.hid (s4.out.below hb)
 have q5 := Lib.hid (q4.out.below hb)
 have z5 := Lib.hid (z4.out.below hb)
 have b5 := Lib.hid (b4.out.trans (hb.mono b4.out.size))
 clear hb ho hl2 s4 q4 z4 b4
 have x0 : u5.cell? ⟨w.heap.size + 2, 0, none⟩ = some (.int .i64 0) := z5.out.cell 0
 have f0 := z5.out.free 0
 have x1 : u5.cell? ⟨w.heap.size + 2, 1, none⟩ = some (.slice none 0 0) := z5.out.cell 1
 have f1 := z5.out.free 1
 have x2 : u5.cell? ⟨w.heap.size + 2, 2, none⟩ = some (.int .i64 0) := z5.out.cell 2
 have f2 := z5.out.free 2
 obtain ⟨Z, hZ⟩ : ∃ Z, (((u5.setCell ⟨w.heap.size + 2, 0, none⟩ (.int .i64 0)).setCell ⟨w.heap.size + 2, 1, none⟩ (.slice none 0 0)).setCell ⟨w.heap.size + 2, 2, none⟩ (.int .i64 0)) = Z := ⟨_, rfl⟩
 have hgZ : u5.grownBy Z (some (w.heap.size + 2)) := by rw [← hZ]; exact grown_trans (grown_trans (setCell_grown _ _ _ _) (setCell_grown _ _ _ _)) (setCell_grown _ _ _ _)
 have hgZ' := Lib.hid hgZ
 have zZ : Hid (RowV 35 Z (w.heap.size + 2) [.int .i64 0, .slice none 0 0, .int .i64 0]) := by
  show RowV _ _ _ _
  rw [← hZ]
  exact ((z5.out.set 0 (.int .i64 0)).set 1 (.slice none 0 0)).set 2 (.int .i64 0)
 have bZ := Lib.hid (b5.out.grown hgZ b5.out.size (fun k hk => by cases hk; omega))
 clear hgZ
 go_wp2
 have m0 := zZ.out.cell 0
 have m1 := zZ.out.cell 1
 have m2 := zZ.out.cell 2
 simp only [List.getElem?_cons_zero, List.getElem?_cons_succ] at m0 m1 m2
 refine bodyPost_ret (v := .tuple #[.slice jq jn jc, .agg #[.int .i64 0, .slice none 0 0, .int .i64 0]]) (by simp [results, Try.results18, go_sem, m0, m1, m2]) rfl ?_
 rw [hdr.out]
 exact ⟨_, _, _, _, _, _, _, _, rfl, (o5.out.gt hgZ'.out z5.out (by decide)).reads, RowsOn.none_ _, rfl, rfl, bZ.out⟩
set_option maxHeartbeats 4000000 in
theorem dr_6 (kt ki tt ti qv : Int) (qs : ByteArray) (qn : Int) (tq : Option Addr) (tn tc : Nat) (bs : List BdD) (lq : Option Addr) (ln lc : Nat) (l : List RowD) (w : World) (h : SchOn w tq tn tc bs) (hr : RowsOn w lq ln lc l) (hc : chkList bs l = 0) (hq : ReqOk ⟨6, ⟨kt, ki⟩, ⟨tt, ti⟩, qv, qs, qn⟩) (hrq : reqB bs ⟨6, ⟨kt, ki⟩, ⟨tt, ti⟩, qv, qs, qn⟩ = true) :
 Calls Try.prog 18 #[.agg #[.slice tq tn tc], .slice lq ln lc, .agg #[.int .i64 6, .int .i64 kt, .int .u16 ki, .int .i64 tt, .int .u16 ti, .int .i64 qv, .string qs, .int .i64 qn]] w (DrPost (docR bs l ⟨6, ⟨kt, ki⟩, ⟨tt, ti⟩, qv, qs, qn⟩) w) := by
 obtain ⟨W, hW⟩ : ∃ W, ((w.alloc (.cells #[.slice tq tn tc] 24)).alloc (.cells #[.int .i64 6, .int .i64 kt, .int .u16 ki, .int .i64 tt, .int .u16 ti, .int .i64 qv, .string qs, .int .i64 qn] 30)).alloc (.cells #[.int .i64 0, .slice none 0 0, .int .i64 0] 35) = W := ⟨_, rfl⟩
 have hbx := Lib.hid (three_rowsI (xs := [.slice tq tn tc]) (ys := [.int .i64 6, .int .i64 kt, .int .u16 ki, .int .i64 tt, .int .u16 ti, .int .i64 qv, .string qs, .int .i64 qn]) (zs := [.int .i64 0, .slice none 0 0, .int .i64 0]) hW)
 have b0 := Lib.hid hbx.out.1
 have s0 := Lib.hid hbx.out.2.1
 have q0 := Lib.hid hbx.out.2.2.1
 have z0 := Lib.hid hbx.out.2.2.2.1
 have hlen := hr.len
 have h60 := ((okL_good bs l).1 (chkList_zero hc).2).1
 have hfd := Lib.hid (refFind_any lq ln lc l kt ki W (hr.below b0.out (Nat.le_refl _)) (by omega))
 obtain ⟨RE, hRE⟩ : ∃ x, refE bs l ⟨6, ⟨kt, ki⟩, ⟨tt, ti⟩, qv, qs, qn⟩ = x := ⟨_, rfl⟩
 have hrf : Hid (∀ u, Below w.heap.size w u → Calls Try.prog 44 #[.agg #[.int .i64 6, .int .i64 kt, .int .u16 ki, .int .i64 tt, .int .u16 ti, .int .i64 qv, .string qs, .int .i64 qn], .agg #[.slice tq tn tc], .slice lq ln lc, .int .i64 (findAt l ⟨kt, ki⟩)] u (fun e w' => e = .returned (.int .i64 RE) ∧ Below u.heap.size u w')) := by
  intro u hu
  have h1 := refused_any 6 kt ki tt ti qv qs qn tq tn tc bs lq ln lc l u (h.below hu (Nat.le_refl _)) (hr.below hu (Nat.le_refl _)) hc hq hrq (by decide)
  unfold RfPost at h1
  rw [hRE] at h1
  exact h1
 have hh := Lib.hid h
 have hr' := Lib.hid hr
 have hc' := Lib.hid hc
 have hq' := Lib.hid hq
 have hrq' := Lib.hid hrq
 have hRE' := Lib.hid hRE
 have y1 : W.cell? ⟨w.heap.size + 1, 1, none⟩ = some (.int .i64 kt) := q0.out.cell 1
 have y2 : W.cell? ⟨w.heap.size + 1, 2, none⟩ = some (.int .u16 ki) := q0.out.cell 2
 clear hbx h hr hc hq hrq hRE
 go_enter Try.func18, Try.ntmps18
 go_wp2_with fail
 clear hW y1 y2
 refine hfd.out.mono ?_
 rintro e u1 ⟨rfl, hb⟩
 clear hfd
 have s1 := Lib.hid (s0.out.below hb)
 have q1 := Lib.hid (q0.out.below hb)
 have z1 := Lib.hid (z0.out.below hb)
 have b1 := Lib.hid (b0.out.trans (hb.mono b0.out.size))
 clear hb s0 q0 z0 b0
 have y0 : u1.cell? ⟨w.heap.size + 1, 0, none⟩ = some (.int .i64 6) := q1.out.cell 0
 have y1 : u1.cell? ⟨w.heap.size + 1, 1, none⟩ = some (.int .i64 kt) := q1.out.cell 1
 have y2 : u1.cell? ⟨w.heap.size + 1, 2, none⟩ = some (.int .u16 ki) := q1.out.cell 2
 have y3 : u1.cell? ⟨w.heap.size + 1, 3, none⟩ = some (.int .i64 tt) := q1.out.cell 3
 have y4 : u1.cell? ⟨w.heap.size + 1, 4, none⟩ = some (.int .u16 ti) := q1.out.cell 4
 have y5 : u1.cell? ⟨w.heap.size + 1, 5, none⟩ = some (.int .i64 qv) := q1.out.cell 5
 have y6 : u1.cell? ⟨w.heap.size + 1, 6, none⟩ = some (.string qs) := q1.out.cell 6
 have y7 : u1.cell? ⟨w.heap.size + 1, 7, none⟩ = some (.int .i64 qn) := q1.out.cell 7
 have x0 : u1.cell? ⟨w.heap.size, 0, none⟩ = some (.slice tq tn tc) := s1.out.cell 0
 obtain ⟨AT, hAT⟩ : ∃ a, findAt l ⟨kt, ki⟩ = a := ⟨_, rfl⟩
 rw [hAT] at hrf ⊢
 have hAT' := Lib.hid hAT
 clear hAT
 go_wp2_with fail
 clear y0 y1 y2 y3 y4 y5 y6 y7 x0
 refine (hrf.out u1 b1.out).mono ?_
 rintro e u2 ⟨rfl, hb⟩
 clear hrf
 have s2 := Lib.hid (s1.out.below hb)
 have q2 := Lib.hid (q1.out.below hb)
 have z2 := Lib.hid (z1.out.below hb)
 have b2 := Lib.hid (b1.out.trans (hb.mono b1.out.size))
 clear hb s1 q1 z1 b1
 by_cases hz : RE = 0
 case neg =>
  have d1 : (RE != 0) = true := by simpa using hz
  have hdr : Hid (docR bs l ⟨6, ⟨kt, ki⟩, ⟨tt, ti⟩, qv, qs, qn⟩ = (l, errA RE)) := by show _ = _; unfold docR; rw [hRE'.out, if_pos hz]
  clear hz
  have x0 : u2.cell? ⟨w.heap.size + 2, 0, none⟩ = some (.int .i64 0) := z2.out.cell 0
  have f0 := z2.out.free 0
  have x1 : u2.cell? ⟨w.heap.size + 2, 1, none⟩ = some (.slice none 0 0) := z2.out.cell 1
  have f1 := z2.out.free 1
  have x2 : u2.cell? ⟨w.heap.size + 2, 2, none⟩ = some (.int .i64 0) := z2.out.cell 2
  have f2 := z2.out.free 2
  obtain ⟨Z, hZ⟩ : ∃ Z, (((u2.setCell ⟨w.heap.size + 2, 0, none⟩ (.int .i64 RE)).setCell ⟨w.heap.size + 2, 1, none⟩ (.slice none 0 0)).setCell ⟨w.heap.size + 2, 2, none⟩ (.int .i64 0)) = Z := ⟨_, rfl⟩
  have hgZ : u2.grownBy Z (some (w.heap.size + 2)) := by rw [← hZ]; exact grown_trans (grown_trans (setCell_grown _ _ _ _) (setCell_grown _ _ _ _)) (setCell_grown _ _ _ _)
  have hgZ' := Lib.hid hgZ
  have zZ : Hid (RowV 35 Z (w.heap.size + 2) [.int .i64 RE, .slice none 0 0, .int .i64 0]) := by
   show RowV _ _ _ _
   rw [← hZ]
   exact ((z2.out.set 0 (.int .i64 RE)).set 1 (.slice none 0 0)).set 2 (.int .i64 0)
  have bZ := Lib.hid (b2.out.grown hgZ b2.out.size (fun k hk => by cases hk; omega))
  clear hgZ
  go_wp2
  have m0 := zZ.out.cell 0
  have m1 := zZ.out.cell 1
  have m2 := zZ.out.cell 2
  simp only [List.getElem?_cons_zero, List.getElem?_cons_succ] at m0 m1 m2
  refine bodyPost_ret (v := .tuple #[.slice lq ln lc, .agg #[.int .i64 RE, .slice none 0 0, .int .i64 0]]) (by simp [results, Try.results18, go_sem, m0, m1, m2]) rfl ?_
  rw [hdr.out]
  exact ⟨_, _, _, _, _, _, _, _, rfl, hr'.out.below bZ.out (Nat.le_refl _), RowsOn.none_ _, rfl, rfl, bZ.out⟩
 subst hz
 have y0 : u2.cell? ⟨w.heap.size + 1, 0, none⟩ = some (.int .i64 6) := q2.out.cell 0
 have hf := refE_found hRE'.out (by simp)
 obtain ⟨i, hi, hdi, hki⟩ := rowK_of hf
 have hat : AT = (i : Int) := by rw [← hAT'.out]; unfold findAt; rw [hi]
 subst hat
 have hlt : i < ln := by have := (List.getElem?_eq_some_iff.1 hdi).1; omega
 obtain ⟨A, r_, rfl, hx_, ok_, hcc⟩ := hr'.out.at hlt
 rw [hdi] at hx_
 obtain rfl := Option.some.inj hx_
 obtain ⟨r_, hrw⟩ : ∃ r, rowK l ⟨kt, ki⟩ = r := ⟨_, rfl⟩
 have hrow0 := row_ok hc'.out hdi
 rw [hrw] at ok_ hcc hrow0
 obtain ⟨⟨dt, di⟩, dv, ds⟩ := r_
 have hrw' := Lib.hid hrw
 have hcw := Lib.hid hcc
 have hcd : Hid (∀ j x, (⟨⟨dt, di⟩, dv, ds⟩ : RowD).cells[j]? = some x → u2.cell? ((A.add (i * 4)).add j) = some x) := fun j x hj => cell_keeps b2.out (Nat.le_refl _) (hcw.out j x hj)
 have ok' := Lib.hid ok_
 have hpi := Lib.hid (rowE_parts hrow0)
 have i0 : (0 : Int) ≤ i := by omega
 have i1 : (i : Int) < ln := by omega
 clear hf hi hdi hki hrw hcc ok_ hAT' hrow0
 have hdr : Hid (docR bs l ⟨6, ⟨kt, ki⟩, ⟨tt, ti⟩, qv, qs, qn⟩ = (withL l ⟨⟨dt, di⟩, qv, ds⟩, okA)) := by show _ = _; simp [docR, hRE'.out, hrw'.out, nwSet]
 obtain ⟨V2, hV2⟩ : ∃ V, u2.alloc (.cells #[.int .i64 0, .int .u16 0, .int .i64 0, .string ⟨#[]⟩] 68) = V := ⟨_, rfl⟩
 have hbv := Lib.hid (one_rowI (xs := [.int .i64 0, .int .u16 0, .int .i64 0, .string ⟨#[]⟩]) hV2)
 have rv := Lib.hid hbv.out.2.1
 have bv := Lib.hid (b2.out.trans (hbv.out.1.mono b2.out.size))
 have sv := Lib.hid (s2.out.below hbv.out.1)
 have qv_ := Lib.hid (q2.out.below hbv.out.1)
 have zv := Lib.hid (z2.out.below hbv.out.1)
 have hwu : w.heap.size + 2 < u2.heap.size := z2.out.lt
 have hcv : Hid (∀ j x, ([.int .i64 dt, .int .u16 di, .int .i64 dv, .string ds] : List Value)[j]? = some x → u2.cell? ((A.add (i * 4)).add j) = some x) := hcd.out
 clear hbv s2 q2 z2
 go_wp2_with (first
  | (with_reducible refine wpList_load_at rfl 68 (.tmp 68) rfl Try.underlying68 rfl (sizeRow dt di dv ds) rfl hcv.out ?_)
  | ((with_reducible refine wpList_store_at rfl 68 (.tmp 10) (.tmp 69) rfl (o := 0) (vs := [.int .i64 dt, .int .u16 di, .int .i64 dv, .string ds]) rfl rfl rv.out (sizeRow _ _ _ _) (Nat.le_refl _) (rowC_one dt di dv ds) ?_)
     intro w3 h3 hg3
     have r3 : Hid (RowV 68 w3 u2.heap.size [.int .i64 dt, .int .u16 di, .int .i64 dv, .string ds]) := h3
     have s3 := Lib.hid (sv.out.kept hg3 (by omega))
     have q3 := Lib.hid (qv_.out.kept hg3 (by omega))
     have z3 := Lib.hid (zv.out.kept hg3 (by omega))
     have b3 := Lib.hid (bv.out.grown hg3 bv.out.size (fun k hk => by cases hk; exact b2.out.size))
     clear h3 hg3 rv bv sv qv_ zv y0
     have y0 : w3.cell? ⟨w.heap.size + 1, 0, none⟩ = some (.int .i64 6) := q3.out.cell 0
     have y5 : w3.cell? ⟨w.heap.size + 1, 5, none⟩ = some (.int .i64 qv) := q3.out.cell 5
     have c2 := r3.out.cell 2
     have fc := r3.out.free 2
     simp only [List.getElem?_cons_zero, List.getElem?_cons_succ] at c2
     obtain ⟨w4, hw4⟩ : ∃ w4, w3.setCell ⟨u2.heap.size, 2, none⟩ (.int .i64 qv) = w4 := ⟨_, rfl⟩
     have hg4 : w3.grownBy w4 (some u2.heap.size) := by rw [← hw4]; exact setCell_grown _ _ _ _
     have r4 : Hid (RowV 68 w4 u2.heap.size [.int .i64 dt, .int .u16 di, .int .i64 qv, .string ds]) := by
      show RowV _ _ _ _
      rw [← hw4]
      exact r3.out.set 2 (.int .i64 qv)
     have s4 := Lib.hid (s3.out.kept hg4 (by omega))
     have q4 := Lib.hid (q3.out.kept hg4 (by omega))
     have z4 := Lib.hid (z3.out.kept hg4 (by omega))
     have b4 := Lib.hid (b3.out.grown hg4 b3.out.size (fun k hk => by cases hk; exact b2.out.size))
     have e0 := r4.out.cell 0
     have e1 := r4.out.cell 1
     have e2 := r4.out.cell 2
     have e3 := r4.out.cell 3
     simp only [List.getElem?_cons_zero, List.getElem?_cons_succ] at e0 e1 e2 e3
     clear hg4))
 try clear y0 y5 c2 fc
 try clear hw4
 try clear e0 e1 e2 e3
 clear r3 s3 q3 z3 b3 r4
 have hok : Hid (RowOk ⟨⟨dt, di⟩, qv, ds⟩) := ⟨ok'.out.key, hq'.out.val, ok'.out.note⟩
 refine (with_any (some A) ln lc l dt di qv ds w4 (hr'.out.below b4.out (Nat.le_refl _)) (by omega) hok.out).mono ?_
 rintro e u5 ⟨jq, jn, jc, rfl, ho, hl2, hb⟩
 have o5 : Hid (OwnL u5 jq jn jc _) := ⟨ho.mono (Nat.zero_le _), hl2.ok⟩
 have s5 := Lib.hid (s4.out.below hb)
 have q5 := Lib.hid (q4.out.below hb)
 have z5 := Lib.hid (z4.out.below hb)
 have b5 := Lib.hid (b4.out.trans (hb.mono b4.out.size))
 clear hb ho hl2 s4 q4 z4 b4
 have x0 : u5.cell? ⟨w.heap.size + 2, 0, none⟩ = some (.int .i64 0) := z5.out.cell 0
 have f0 := z5.out.free 0
 have x1 : u5.cell? ⟨w.heap.size + 2, 1, none⟩ = some (.slice none 0 0) := z5.out.cell 1
 have f1 := z5.out.free 1
 have x2 : u5.cell? ⟨w.heap.size + 2, 2, none⟩ = some (.int .i64 0) := z5.out.cell 2
 have f2 := z5.out.free 2
 obtain ⟨Z, hZ⟩ : ∃ Z, (((u5.setCell ⟨w.heap.size + 2, 0, none⟩ (.int .i64 0)).setCell ⟨w.heap.size + 2, 1, none⟩ (.slice none 0 0)).setCell ⟨w.heap.size + 2, 2, none⟩ (.int .i64 0)) = Z := ⟨_, rfl⟩
 have hgZ : u5.grownBy Z (some (w.heap.size + 2)) := by rw [← hZ]; exact grown_trans (grown_trans (setCell_grown _ _ _ _) (setCell_grown _ _ _ _)) (setCell_grown _ _ _ _)
 have hgZ' := Lib.hid hgZ
 have zZ : Hid (RowV 35 Z (w.heap.size + 2) [.int .i64 0, .slice none 0 0, .int .i64 0]) := by
  show RowV _ _ _ _
  rw [← hZ]
  exact ((z5.out.set 0 (.int .i64 0)).set 1 (.slice none 0 0)).set 2 (.int .i64 0)
 have bZ := Lib.hid (b5.out.grown hgZ b5.out.size (fun k hk => by cases hk; omega))
 clear hgZ
 go_wp2
 have m0 := zZ.out.cell 0
 have m1 := zZ.out.cell 1
 have m2 := zZ.out.cell 2
 simp only [List.getElem?_cons_zero, List.getElem?_cons_succ] at m0 m1 m2
 refine bodyPost_ret (v := .tuple #[.slice jq jn jc, .agg #[.int .i64 0, .slice none 0 0, .int .i64 0]]) (by simp [results, Try.results18, go_sem, m0, m1, m2]) rfl ?_
 rw [hdr.out]
 exact ⟨_, _, _, _, _, _, _, _, rfl, (o5.out.gt hgZ'.out z5.out (by decide)).reads, RowsOn.none_ _, rfl, rfl, bZ.out⟩
set_option maxHeartbeats 4000000 in
theorem dr_7 (kt ki tt ti qv : Int) (qs : ByteArray) (qn : Int) (tq : Option Addr) (tn tc : Nat) (bs : List BdD) (lq : Option Addr) (ln lc : Nat) (l : List RowD) (w : World) (h : SchOn w tq tn tc bs) (hr : RowsOn w lq ln lc l) (hc : chkList bs l = 0) (hq : ReqOk ⟨7, ⟨kt, ki⟩, ⟨tt, ti⟩, qv, qs, qn⟩) (hrq : reqB bs ⟨7, ⟨kt, ki⟩, ⟨tt, ti⟩, qv, qs, qn⟩ = true) :
 Calls Try.prog 18 #[.agg #[.slice tq tn tc], .slice lq ln lc, .agg #[.int .i64 7, .int .i64 kt, .int .u16 ki, .int .i64 tt, .int .u16 ti, .int .i64 qv, .string qs, .int .i64 qn]] w (DrPost (docR bs l ⟨7, ⟨kt, ki⟩, ⟨tt, ti⟩, qv, qs, qn⟩) w) := by
 obtain ⟨W, hW⟩ : ∃ W, ((w.alloc (.cells #[.slice tq tn tc] 24)).alloc (.cells #[.int .i64 7, .int .i64 kt, .int .u16 ki, .int .i64 tt, .int .u16 ti, .int .i64 qv, .string qs, .int .i64 qn] 30)).alloc (.cells #[.int .i64 0, .slice none 0 0, .int .i64 0] 35) = W := ⟨_, rfl⟩
 have hbx := Lib.hid (three_rowsI (xs := [.slice tq tn tc]) (ys := [.int .i64 7, .int .i64 kt, .int .u16 ki, .int .i64 tt, .int .u16 ti, .int .i64 qv, .string qs, .int .i64 qn]) (zs := [.int .i64 0, .slice none 0 0, .int .i64 0]) hW)
 have b0 := Lib.hid hbx.out.1
 have s0 := Lib.hid hbx.out.2.1
 have q0 := Lib.hid hbx.out.2.2.1
 have z0 := Lib.hid hbx.out.2.2.2.1
 have hlen := hr.len
 have h60 := ((okL_good bs l).1 (chkList_zero hc).2).1
 have hfd := Lib.hid (refFind_any lq ln lc l kt ki W (hr.below b0.out (Nat.le_refl _)) (by omega))
 obtain ⟨RE, hRE⟩ : ∃ x, refE bs l ⟨7, ⟨kt, ki⟩, ⟨tt, ti⟩, qv, qs, qn⟩ = x := ⟨_, rfl⟩
 have hrf : Hid (∀ u, Below w.heap.size w u → Calls Try.prog 44 #[.agg #[.int .i64 7, .int .i64 kt, .int .u16 ki, .int .i64 tt, .int .u16 ti, .int .i64 qv, .string qs, .int .i64 qn], .agg #[.slice tq tn tc], .slice lq ln lc, .int .i64 (findAt l ⟨kt, ki⟩)] u (fun e w' => e = .returned (.int .i64 RE) ∧ Below u.heap.size u w')) := by
  intro u hu
  have h1 := refused_any 7 kt ki tt ti qv qs qn tq tn tc bs lq ln lc l u (h.below hu (Nat.le_refl _)) (hr.below hu (Nat.le_refl _)) hc hq hrq (by decide)
  unfold RfPost at h1
  rw [hRE] at h1
  exact h1
 have hh := Lib.hid h
 have hr' := Lib.hid hr
 have hc' := Lib.hid hc
 have hq' := Lib.hid hq
 have hrq' := Lib.hid hrq
 have hRE' := Lib.hid hRE
 have y1 : W.cell? ⟨w.heap.size + 1, 1, none⟩ = some (.int .i64 kt) := q0.out.cell 1
 have y2 : W.cell? ⟨w.heap.size + 1, 2, none⟩ = some (.int .u16 ki) := q0.out.cell 2
 clear hbx h hr hc hq hrq hRE
 go_enter Try.func18, Try.ntmps18
 go_wp2_with fail
 clear hW y1 y2
 refine hfd.out.mono ?_
 rintro e u1 ⟨rfl, hb⟩
 clear hfd
 have s1 := Lib.hid (s0.out.below hb)
 have q1 := Lib.hid (q0.out.below hb)
 have z1 := Lib.hid (z0.out.below hb)
 have b1 := Lib.hid (b0.out.trans (hb.mono b0.out.size))
 clear hb s0 q0 z0 b0
 have y0 : u1.cell? ⟨w.heap.size + 1, 0, none⟩ = some (.int .i64 7) := q1.out.cell 0
 have y1 : u1.cell? ⟨w.heap.size + 1, 1, none⟩ = some (.int .i64 kt) := q1.out.cell 1
 have y2 : u1.cell? ⟨w.heap.size + 1, 2, none⟩ = some (.int .u16 ki) := q1.out.cell 2
 have y3 : u1.cell? ⟨w.heap.size + 1, 3, none⟩ = some (.int .i64 tt) := q1.out.cell 3
 have y4 : u1.cell? ⟨w.heap.size + 1, 4, none⟩ = some (.int .u16 ti) := q1.out.cell 4
 have y5 : u1.cell? ⟨w.heap.size + 1, 5, none⟩ = some (.int .i64 qv) := q1.out.cell 5
 have y6 : u1.cell? ⟨w.heap.size + 1, 6, none⟩ = some (.string qs) := q1.out.cell 6
 have y7 : u1.cell? ⟨w.heap.size + 1, 7, none⟩ = some (.int .i64 qn) := q1.out.cell 7
 have x0 : u1.cell? ⟨w.heap.size, 0, none⟩ = some (.slice tq tn tc) := s1.out.cell 0
 obtain ⟨AT, hAT⟩ : ∃ a, findAt l ⟨kt, ki⟩ = a := ⟨_, rfl⟩
 rw [hAT] at hrf ⊢
 have hAT' := Lib.hid hAT
 clear hAT
 go_wp2_with fail
 clear y0 y1 y2 y3 y4 y5 y6 y7 x0
 refine (hrf.out u1 b1.out).mono ?_
 rintro e u2 ⟨rfl, hb⟩
 clear hrf
 have s2 := Lib.hid (s1.out.below hb)
 have q2 := Lib.hid (q1.out.below hb)
 have z2 := Lib.hid (z1.out.below hb)
 have b2 := Lib.hid (b1.out.trans (hb.mono b1.out.size))
 clear hb s1 q1 z1 b1
 by_cases hz : RE = 0
 case neg =>
  have d1 : (RE != 0) = true := by simpa using hz
  have hdr : Hid (docR bs l ⟨7, ⟨kt, ki⟩, ⟨tt, ti⟩, qv, qs, qn⟩ = (l, errA RE)) := by show _ = _; unfold docR; rw [hRE'.out, if_pos hz]
  clear hz
  have x0 : u2.cell? ⟨w.heap.size + 2, 0, none⟩ = some (.int .i64 0) := z2.out.cell 0
  have f0 := z2.out.free 0
  have x1 : u2.cell? ⟨w.heap.size + 2, 1, none⟩ = some (.slice none 0 0) := z2.out.cell 1
  have f1 := z2.out.free 1
  have x2 : u2.cell? ⟨w.heap.size + 2, 2, none⟩ = some (.int .i64 0) := z2.out.cell 2
  have f2 := z2.out.free 2
  obtain ⟨Z, hZ⟩ : ∃ Z, (((u2.setCell ⟨w.heap.size + 2, 0, none⟩ (.int .i64 RE)).setCell ⟨w.heap.size + 2, 1, none⟩ (.slice none 0 0)).setCell ⟨w.heap.size + 2, 2, none⟩ (.int .i64 0)) = Z := ⟨_, rfl⟩
  have hgZ : u2.grownBy Z (some (w.heap.size + 2)) := by rw [← hZ]; exact grown_trans (grown_trans (setCell_grown _ _ _ _) (setCell_grown _ _ _ _)) (setCell_grown _ _ _ _)
  have hgZ' := Lib.hid hgZ
  have zZ : Hid (RowV 35 Z (w.heap.size + 2) [.int .i64 RE, .slice none 0 0, .int .i64 0]) := by
   show RowV _ _ _ _
   rw [← hZ]
   exact ((z2.out.set 0 (.int .i64 RE)).set 1 (.slice none 0 0)).set 2 (.int .i64 0)
  have bZ := Lib.hid (b2.out.grown hgZ b2.out.size (fun k hk => by cases hk; omega))
  clear hgZ
  go_wp2
  have m0 := zZ.out.cell 0
  have m1 := zZ.out.cell 1
  have m2 := zZ.out.cell 2
  simp only [List.getElem?_cons_zero, List.getElem?_cons_succ] at m0 m1 m2
  refine bodyPost_ret (v := .tuple #[.slice lq ln lc, .agg #[.int .i64 RE, .slice none 0 0, .int .i64 0]]) (by simp [results, Try.results18, go_sem, m0, m1, m2]) rfl ?_
  rw [hdr.out]
  exact ⟨_, _, _, _, _, _, _, _, rfl, hr'.out.below bZ.out (Nat.le_refl _), RowsOn.none_ _, rfl, rfl, bZ.out⟩
 subst hz
 have y0 : u2.cell? ⟨w.heap.size + 1, 0, none⟩ = some (.int .i64 7) := q2.out.cell 0
 have hf := refE_found hRE'.out (by simp)
 obtain ⟨i, hi, hdi, hki⟩ := rowK_of hf
 have hat : AT = (i : Int) := by rw [← hAT'.out]; unfold findAt; rw [hi]
 subst hat
 have hlt : i < ln := by have := (List.getElem?_eq_some_iff.1 hdi).1; omega
 obtain ⟨A, r_, rfl, hx_, ok_, hcc⟩ := hr'.out.at hlt
 rw [hdi] at hx_
 obtain rfl := Option.some.inj hx_
 obtain ⟨r_, hrw⟩ : ∃ r, rowK l ⟨kt, ki⟩ = r := ⟨_, rfl⟩
 have hrow0 := row_ok hc'.out hdi
 rw [hrw] at ok_ hcc hrow0
 obtain ⟨⟨dt, di⟩, dv, ds⟩ := r_
 have hrw' := Lib.hid hrw
 have hcw := Lib.hid hcc
 have hcd : Hid (∀ j x, (⟨⟨dt, di⟩, dv, ds⟩ : RowD).cells[j]? = some x → u2.cell? ((A.add (i * 4)).add j) = some x) := fun j x hj => cell_keeps b2.out (Nat.le_refl _) (hcw.out j x hj)
 have ok' := Lib.hid ok_
 have hpi := Lib.hid (rowE_parts hrow0)
 have i0 : (0 : Int) ≤ i := by omega
 have i1 : (i : Int) < ln := by omega
 clear hf hi hdi hki hrw hcc ok_ hAT' hrow0
 have hdr : Hid (docR bs l ⟨7, ⟨kt, ki⟩, ⟨tt, ti⟩, qv, qs, qn⟩ = (withL l ⟨⟨dt, di⟩, plusN dv qv, ds⟩, okA)) := by show _ = _; simp [docR, hRE'.out, hrw'.out, plusV]
 have hpl : Hid (∀ u, Below w.heap.size w u → Calls Try.prog 48 #[.agg #[.slice tq tn tc], .agg #[.int .i64 dt, .int .u16 di, .int .i64 dv, .string ds], .int .i64 qv] u (fun e w' => e = .returned (.tuple #[.agg #[.int .i64 dt, .int .u16 di, .int .i64 (plusN dv qv), .string ds], .bool (plusB bs ⟨⟨dt, di⟩, dv, ds⟩ qv)]) ∧ Below u.heap.size u w')) := fun u hu => plusD_any tq tn tc bs dt di dv ds qv u (hh.out.below hu (Nat.le_refl _)) hpi.out.1 ok'.out.val hq'.out.val
 obtain ⟨V2, hV2⟩ : ∃ V, u2.alloc (.cells #[.int .i64 0, .int .u16 0, .int .i64 0, .string ⟨#[]⟩] 68) = V := ⟨_, rfl⟩
 have hbv := Lib.hid (one_rowI (xs := [.int .i64 0, .int .u16 0, .int .i64 0, .string ⟨#[]⟩]) hV2)
 have rv := Lib.hid hbv.out.2.1
 have bv := Lib.hid (b2.out.trans (hbv.out.1.mono b2.out.size))
 have sv := Lib.hid (s2.out.below hbv.out.1)
 have qv_ := Lib.hid (q2.out.below hbv.out.1)
 have zv := Lib.hid (z2.out.below hbv.out.1)
 have hwu : w.heap.size + 2 < u2.heap.size := z2.out.lt
 have hcv : Hid (∀ j x, ([.int .i64 dt, .int .u16 di, .int .i64 dv, .string ds] : List Value)[j]? = some x → u2.cell? ((A.add (i * 4)).add j) = some x) := hcd.out
 clear hbv s2 q2 z2
 go_wp2_with (first
  | (with_reducible refine wpList_load_at rfl 68 (.tmp 68) rfl Try.underlying68 rfl (sizeRow dt di dv ds) rfl hcv.out ?_)
  | ((with_reducible refine wpList_store_at rfl 68 (.tmp 10) (.tmp 69) rfl (o := 0) (vs := [.int .i64 dt, .int .u16 di, .int .i64 dv, .string ds]) rfl rfl rv.out (sizeRow _ _ _ _) (Nat.le_refl _) (rowC_one dt di dv ds) ?_)
     intro w3 h3 hg3
     have r3 : Hid (RowV 68 w3 u2.heap.size [.int .i64 dt, .int .u16 di, .int .i64 dv, .string ds]) := h3
     have s3 := Lib.hid (sv.out.kept hg3 (by omega))
     have q3 := Lib.hid (qv_.out.kept hg3 (by omega))
     have z3 := Lib.hid (zv.out.kept hg3 (by omega))
     have b3 := Lib.hid (bv.out.grown hg3 bv.out.size (fun k hk => by cases hk; exact b2.out.size))
     clear h3 hg3 rv bv sv qv_ zv y0
     have y0 : w3.cell? ⟨w.heap.size + 1, 0, none⟩ = some (.int .i64 7) := q3.out.cell 0
     have y5 : w3.cell? ⟨w.heap.size + 1, 5, none⟩ = some (.int .i64 qv) := q3.out.cell 5
     have sx : w3.cell? ⟨w.heap.size, 0, none⟩ = some (.slice tq tn tc) := s3.out.cell 0
     have e0 : w3.cell? ⟨u2.heap.size, 0, none⟩ = some (.int .i64 dt) := r3.out.cell 0
     have e1 : w3.cell? ⟨u2.heap.size, 1, none⟩ = some (.int .u16 di) := r3.out.cell 1
     have e2 : w3.cell? ⟨u2.heap.size, 2, none⟩ = some (.int .i64 dv) := r3.out.cell 2
     have e3 : w3.cell? ⟨u2.heap.size, 3, none⟩ = some (.string ds) := r3.out.cell 3))
 try clear y0 y5 sx e0 e1 e2 e3
 refine (hpl.out w3 b3.out).mono ?_
 rintro e u4 ⟨rfl, hb⟩
 have r4 := Lib.hid (r3.out.below hb)
 have s4 := Lib.hid (s3.out.below hb)
 have q4 := Lib.hid (q3.out.below hb)
 have z4 := Lib.hid (z3.out.below hb)
 have b4 := Lib.hid (b3.out.trans (hb.mono b3.out.size))
 clear hb r3 s3 q3 z3 b3 hpl
 go_wp2_with (first
  | ((with_reducible refine wpList_store_at rfl 68 (.tmp 10) (.tmp 90) rfl (o := 0) (vs := [.int .i64 dt, .int .u16 di, .int .i64 (plusN dv qv), .string ds]) rfl rfl r4.out (sizeRow _ _ _ _) (Nat.le_refl _) (rowC_one dt di (plusN dv qv) ds) ?_)
     intro w5 h5 hg5
     have r5 : Hid (RowV 68 w5 u2.heap.size [.int .i64 dt, .int .u16 di, .int .i64 (plusN dv qv), .string ds]) := h5
     have s5 := Lib.hid (s4.out.kept hg5 (by omega))
     have q5 := Lib.hid (q4.out.kept hg5 (by omega))
     have z5 := Lib.hid (z4.out.kept hg5 (by omega))
     have b5 := Lib.hid (b4.out.grown hg5 b4.out.size (fun k hk => by cases hk; exact b2.out.size))
     clear h5 hg5 r4 s4 q4 z4 b4
     have e0 : w5.cell? ⟨u2.heap.size, 0, none⟩ = some (.int .i64 dt) := r5.out.cell 0
     have e1 : w5.cell? ⟨u2.heap.size, 1, none⟩ = some (.int .u16 di) := r5.out.cell 1
     have e2 : w5.cell? ⟨u2.heap.size, 2, none⟩ = some (.int .i64 (plusN dv qv)) := r5.out.cell 2
     have e3 : w5.cell? ⟨u2.heap.size, 3, none⟩ = some (.string ds) := r5.out.cell 3))
 try clear e0 e1 e2 e3
 have hok : Hid (RowOk ⟨⟨dt, di⟩, plusN dv qv, ds⟩) := ⟨ok'.out.key, plusN_ok _ _, ok'.out.note⟩
 clear r5
 refine (with_any (some A) ln lc l dt di (plusN dv qv) ds w5 (hr'.out.below b5.out (Nat.le_refl _)) (by omega) hok.out).mono ?_
 rintro e u6 ⟨jq, jn, jc, rfl, ho, hl2, hb⟩
 have o6 : Hid (OwnL u6 jq jn jc _) := ⟨ho.mono (Nat.zero_le _), hl2.ok⟩
 have s6 := Lib.hid (s5.out.below hb)
 have q6 := Lib.hid (q5.out.below hb)
 have z6 := Lib.hid (z5.out.below hb)
 have b6 := Lib.hid (b5.out.trans (hb.mono b5.out.size))
 clear hb ho hl2 s5 q5 z5 b5
 have x0 : u6.cell? ⟨w.heap.size + 2, 0, none⟩ = some (.int .i64 0) := z6.out.cell 0
 have f0 := z6.out.free 0
 have x1 : u6.cell? ⟨w.heap.size + 2, 1, none⟩ = some (.slice none 0 0) := z6.out.cell 1
 have f1 := z6.out.free 1
 have x2 : u6.cell? ⟨w.heap.size + 2, 2, none⟩ = some (.int .i64 0) := z6.out.cell 2
 have f2 := z6.out.free 2
 obtain ⟨Z, hZ⟩ : ∃ Z, (((u6.setCell ⟨w.heap.size + 2, 0, none⟩ (.int .i64 0)).setCell ⟨w.heap.size + 2, 1, none⟩ (.slice none 0 0)).setCell ⟨w.heap.size + 2, 2, none⟩ (.int .i64 0)) = Z := ⟨_, rfl⟩
 have hgZ : u6.grownBy Z (some (w.heap.size + 2)) := by rw [← hZ]; exact grown_trans (grown_trans (setCell_grown _ _ _ _) (setCell_grown _ _ _ _)) (setCell_grown _ _ _ _)
 have hgZ' := Lib.hid hgZ
 have zZ : Hid (RowV 35 Z (w.heap.size + 2) [.int .i64 0, .slice none 0 0, .int .i64 0]) := by
  show RowV _ _ _ _
  rw [← hZ]
  exact ((z6.out.set 0 (.int .i64 0)).set 1 (.slice none 0 0)).set 2 (.int .i64 0)
 have bZ := Lib.hid (b6.out.grown hgZ b6.out.size (fun k hk => by cases hk; omega))
 clear hgZ
 go_wp2
 have m0 := zZ.out.cell 0
 have m1 := zZ.out.cell 1
 have m2 := zZ.out.cell 2
 simp only [List.getElem?_cons_zero, List.getElem?_cons_succ] at m0 m1 m2
 refine bodyPost_ret (v := .tuple #[.slice jq jn jc, .agg #[.int .i64 0, .slice none 0 0, .int .i64 0]]) (by simp [results, Try.results18, go_sem, m0, m1, m2]) rfl ?_
 rw [hdr.out]
 exact ⟨_, _, _, _, _, _, _, _, rfl, (o6.out.gt hgZ'.out z6.out (by decide)).reads, RowsOn.none_ _, rfl, rfl, bZ.out⟩
set_option maxHeartbeats 4000000 in
theorem dr_8 (kt ki tt ti qv : Int) (qs : ByteArray) (qn : Int) (tq : Option Addr) (tn tc : Nat) (bs : List BdD) (lq : Option Addr) (ln lc : Nat) (l : List RowD) (w : World) (h : SchOn w tq tn tc bs) (hr : RowsOn w lq ln lc l) (hc : chkList bs l = 0) (hq : ReqOk ⟨8, ⟨kt, ki⟩, ⟨tt, ti⟩, qv, qs, qn⟩) (hrq : reqB bs ⟨8, ⟨kt, ki⟩, ⟨tt, ti⟩, qv, qs, qn⟩ = true) :
 Calls Try.prog 18 #[.agg #[.slice tq tn tc], .slice lq ln lc, .agg #[.int .i64 8, .int .i64 kt, .int .u16 ki, .int .i64 tt, .int .u16 ti, .int .i64 qv, .string qs, .int .i64 qn]] w (DrPost (docR bs l ⟨8, ⟨kt, ki⟩, ⟨tt, ti⟩, qv, qs, qn⟩) w) := by
 obtain ⟨W, hW⟩ : ∃ W, ((w.alloc (.cells #[.slice tq tn tc] 24)).alloc (.cells #[.int .i64 8, .int .i64 kt, .int .u16 ki, .int .i64 tt, .int .u16 ti, .int .i64 qv, .string qs, .int .i64 qn] 30)).alloc (.cells #[.int .i64 0, .slice none 0 0, .int .i64 0] 35) = W := ⟨_, rfl⟩
 have hbx := Lib.hid (three_rowsI (xs := [.slice tq tn tc]) (ys := [.int .i64 8, .int .i64 kt, .int .u16 ki, .int .i64 tt, .int .u16 ti, .int .i64 qv, .string qs, .int .i64 qn]) (zs := [.int .i64 0, .slice none 0 0, .int .i64 0]) hW)
 have b0 := Lib.hid hbx.out.1
 have s0 := Lib.hid hbx.out.2.1
 have q0 := Lib.hid hbx.out.2.2.1
 have z0 := Lib.hid hbx.out.2.2.2.1
 have hlen := hr.len
 have h60 := ((okL_good bs l).1 (chkList_zero hc).2).1
 have hfd := Lib.hid (refFind_any lq ln lc l kt ki W (hr.below b0.out (Nat.le_refl _)) (by omega))
 obtain ⟨RE, hRE⟩ : ∃ x, refE bs l ⟨8, ⟨kt, ki⟩, ⟨tt, ti⟩, qv, qs, qn⟩ = x := ⟨_, rfl⟩
 have hrf : Hid (∀ u, Below w.heap.size w u → Calls Try.prog 44 #[.agg #[.int .i64 8, .int .i64 kt, .int .u16 ki, .int .i64 tt, .int .u16 ti, .int .i64 qv, .string qs, .int .i64 qn], .agg #[.slice tq tn tc], .slice lq ln lc, .int .i64 (findAt l ⟨kt, ki⟩)] u (fun e w' => e = .returned (.int .i64 RE) ∧ Below u.heap.size u w')) := by
  intro u hu
  have h1 := refused_any 8 kt ki tt ti qv qs qn tq tn tc bs lq ln lc l u (h.below hu (Nat.le_refl _)) (hr.below hu (Nat.le_refl _)) hc hq hrq (by decide)
  unfold RfPost at h1
  rw [hRE] at h1
  exact h1
 have hh := Lib.hid h
 have hr' := Lib.hid hr
 have hc' := Lib.hid hc
 have hq' := Lib.hid hq
 have hrq' := Lib.hid hrq
 have hRE' := Lib.hid hRE
 have y1 : W.cell? ⟨w.heap.size + 1, 1, none⟩ = some (.int .i64 kt) := q0.out.cell 1
 have y2 : W.cell? ⟨w.heap.size + 1, 2, none⟩ = some (.int .u16 ki) := q0.out.cell 2
 clear hbx h hr hc hq hrq hRE
 go_enter Try.func18, Try.ntmps18
 go_wp2_with fail
 clear hW y1 y2
 refine hfd.out.mono ?_
 rintro e u1 ⟨rfl, hb⟩
 clear hfd
 have s1 := Lib.hid (s0.out.below hb)
 have q1 := Lib.hid (q0.out.below hb)
 have z1 := Lib.hid (z0.out.below hb)
 have b1 := Lib.hid (b0.out.trans (hb.mono b0.out.size))
 clear hb s0 q0 z0 b0
 have y0 : u1.cell? ⟨w.heap.size + 1, 0, none⟩ = some (.int .i64 8) := q1.out.cell 0
 have y1 : u1.cell? ⟨w.heap.size + 1, 1, none⟩ = some (.int .i64 kt) := q1.out.cell 1
 have y2 : u1.cell? ⟨w.heap.size + 1, 2, none⟩ = some (.int .u16 ki) := q1.out.cell 2
 have y3 : u1.cell? ⟨w.heap.size + 1, 3, none⟩ = some (.int .i64 tt) := q1.out.cell 3
 have y4 : u1.cell? ⟨w.heap.size + 1, 4, none⟩ = some (.int .u16 ti) := q1.out.cell 4
 have y5 : u1.cell? ⟨w.heap.size + 1, 5, none⟩ = some (.int .i64 qv) := q1.out.cell 5
 have y6 : u1.cell? ⟨w.heap.size + 1, 6, none⟩ = some (.string qs) := q1.out.cell 6
 have y7 : u1.cell? ⟨w.heap.size + 1, 7, none⟩ = some (.int .i64 qn) := q1.out.cell 7
 have x0 : u1.cell? ⟨w.heap.size, 0, none⟩ = some (.slice tq tn tc) := s1.out.cell 0
 obtain ⟨AT, hAT⟩ : ∃ a, findAt l ⟨kt, ki⟩ = a := ⟨_, rfl⟩
 rw [hAT] at hrf ⊢
 have hAT' := Lib.hid hAT
 clear hAT
 go_wp2_with fail
 clear y0 y1 y2 y3 y4 y5 y6 y7 x0
 refine (hrf.out u1 b1.out).mono ?_
 rintro e u2 ⟨rfl, hb⟩
 clear hrf
 have s2 := Lib.hid (s1.out.below hb)
 have q2 := Lib.hid (q1.out.below hb)
 have z2 := Lib.hid (z1.out.below hb)
 have b2 := Lib.hid (b1.out.trans (hb.mono b1.out.size))
 clear hb s1 q1 z1 b1
 by_cases hz : RE = 0
 case neg =>
  have d1 : (RE != 0) = true := by simpa using hz
  have hdr : Hid (docR bs l ⟨8, ⟨kt, ki⟩, ⟨tt, ti⟩, qv, qs, qn⟩ = (l, errA RE)) := by show _ = _; unfold docR; rw [hRE'.out, if_pos hz]
  clear hz
  have x0 : u2.cell? ⟨w.heap.size + 2, 0, none⟩ = some (.int .i64 0) := z2.out.cell 0
  have f0 := z2.out.free 0
  have x1 : u2.cell? ⟨w.heap.size + 2, 1, none⟩ = some (.slice none 0 0) := z2.out.cell 1
  have f1 := z2.out.free 1
  have x2 : u2.cell? ⟨w.heap.size + 2, 2, none⟩ = some (.int .i64 0) := z2.out.cell 2
  have f2 := z2.out.free 2
  obtain ⟨Z, hZ⟩ : ∃ Z, (((u2.setCell ⟨w.heap.size + 2, 0, none⟩ (.int .i64 RE)).setCell ⟨w.heap.size + 2, 1, none⟩ (.slice none 0 0)).setCell ⟨w.heap.size + 2, 2, none⟩ (.int .i64 0)) = Z := ⟨_, rfl⟩
  have hgZ : u2.grownBy Z (some (w.heap.size + 2)) := by rw [← hZ]; exact grown_trans (grown_trans (setCell_grown _ _ _ _) (setCell_grown _ _ _ _)) (setCell_grown _ _ _ _)
  have hgZ' := Lib.hid hgZ
  have zZ : Hid (RowV 35 Z (w.heap.size + 2) [.int .i64 RE, .slice none 0 0, .int .i64 0]) := by
   show RowV _ _ _ _
   rw [← hZ]
   exact ((z2.out.set 0 (.int .i64 RE)).set 1 (.slice none 0 0)).set 2 (.int .i64 0)
  have bZ := Lib.hid (b2.out.grown hgZ b2.out.size (fun k hk => by cases hk; omega))
  clear hgZ
  go_wp2
  have m0 := zZ.out.cell 0
  have m1 := zZ.out.cell 1
  have m2 := zZ.out.cell 2
  simp only [List.getElem?_cons_zero, List.getElem?_cons_succ] at m0 m1 m2
  refine bodyPost_ret (v := .tuple #[.slice lq ln lc, .agg #[.int .i64 RE, .slice none 0 0, .int .i64 0]]) (by simp [results, Try.results18, go_sem, m0, m1, m2]) rfl ?_
  rw [hdr.out]
  exact ⟨_, _, _, _, _, _, _, _, rfl, hr'.out.below bZ.out (Nat.le_refl _), RowsOn.none_ _, rfl, rfl, bZ.out⟩
 subst hz
 have y0 : u2.cell? ⟨w.heap.size + 1, 0, none⟩ = some (.int .i64 8) := q2.out.cell 0
 have hf := refE_found hRE'.out (by simp)
 obtain ⟨i, hi, hdi, hki⟩ := rowK_of hf
 have hat : AT = (i : Int) := by rw [← hAT'.out]; unfold findAt; rw [hi]
 subst hat
 have hlt : i < ln := by have := (List.getElem?_eq_some_iff.1 hdi).1; omega
 obtain ⟨A, r_, rfl, hx_, ok_, hcc⟩ := hr'.out.at hlt
 rw [hdi] at hx_
 obtain rfl := Option.some.inj hx_
 obtain ⟨r_, hrw⟩ : ∃ r, rowK l ⟨kt, ki⟩ = r := ⟨_, rfl⟩
 have hrow0 := row_ok hc'.out hdi
 rw [hrw] at ok_ hcc hrow0
 obtain ⟨⟨dt, di⟩, dv, ds⟩ := r_
 have hrw' := Lib.hid hrw
 have hcw := Lib.hid hcc
 have hcd : Hid (∀ j x, (⟨⟨dt, di⟩, dv, ds⟩ : RowD).cells[j]? = some x → u2.cell? ((A.add (i * 4)).add j) = some x) := fun j x hj => cell_keeps b2.out (Nat.le_refl _) (hcw.out j x hj)
 have ok' := Lib.hid ok_
 have hpi := Lib.hid (rowE_parts hrow0)
 have i0 : (0 : Int) ≤ i := by omega
 have i1 : (i : Int) < ln := by omega
 clear hf hi hdi hki hrw hcc ok_ hAT' hrow0
 have hqn : Hid (I64 (-qv)) := by have h1 := hq'.out.val; have h2 := reqB_move hrq'.out rfl; show I64 _; unfold I64 at h1 ⊢; simp only at h1 h2; omega
 have hneg : (IntKind.i64.wrap (0 - qv) : Int) = -qv := by have h1 := hq'.out.val; have h2 := reqB_move hrq'.out rfl; unfold I64 at h1; simp only at h1 h2; exact neg_int qv ⟨h2, by omega⟩
 have hneg2 : (IntKind.i64.wrap (-qv) : Int) = -qv := by have h1 := hq'.out.val; have h2 := reqB_move hrq'.out rfl; unfold I64 at h1; simp only at h1 h2; exact neg_int' qv ⟨h2, by omega⟩
 have hpl : Hid (∀ u, Below w.heap.size w u → Calls Try.prog 48 #[.agg #[.slice tq tn tc], .agg #[.int .i64 dt, .int .u16 di, .int .i64 dv, .string ds], .int .i64 (-qv)] u (fun e w' => e = .returned (.tuple #[.agg #[.int .i64 dt, .int .u16 di, .int .i64 (plusN dv (-qv)), .string ds], .bool (plusB bs ⟨⟨dt, di⟩, dv, ds⟩ (-qv))]) ∧ Below u.heap.size u w')) := fun u hu => plusD_any tq tn tc bs dt di dv ds (-qv) u (hh.out.below hu (Nat.le_refl _)) hpi.out.1 ok'.out.val hqn.out
 obtain ⟨V2, hV2⟩ : ∃ V, u2.alloc (.cells #[.int .i64 0, .int .u16 0, .int .i64 0, .string ⟨#[]⟩] 68) = V := ⟨_, rfl⟩
 have hbv := Lib.hid (one_rowI (xs := [.int .i64 0, .int .u16 0, .int .i64 0, .string ⟨#[]⟩]) hV2)
 have rv := Lib.hid hbv.out.2.1
 have bv := Lib.hid (b2.out.trans (hbv.out.1.mono b2.out.size))
 have sv := Lib.hid (s2.out.below hbv.out.1)
 have qv_ := Lib.hid (q2.out.below hbv.out.1)
 have zv := Lib.hid (z2.out.below hbv.out.1)
 have hwu : w.heap.size + 2 < u2.heap.size := z2.out.lt
 have hcv : Hid (∀ j x, ([.int .i64 dt, .int .u16 di, .int .i64 dv, .string ds] : List Value)[j]? = some x → u2.cell? ((A.add (i * 4)).add j) = some x) := hcd.out
 clear hbv s2 q2 z2
 go_wp2_with (first
  | (with_reducible refine wpList_load_at rfl 68 (.tmp 68) rfl Try.underlying68 rfl (sizeRow dt di dv ds) rfl hcv.out ?_)
  | ((with_reducible refine wpList_store_at rfl 68 (.tmp 10) (.tmp 69) rfl (o := 0) (vs := [.int .i64 dt, .int .u16 di, .int .i64 dv, .string ds]) rfl rfl rv.out (sizeRow _ _ _ _) (Nat.le_refl _) (rowC_one dt di dv ds) ?_)
     intro w3 h3 hg3
     have r3 : Hid (RowV 68 w3 u2.heap.size [.int .i64 dt, .int .u16 di, .int .i64 dv, .string ds]) := h3
     have s3 := Lib.hid (sv.out.kept hg3 (by omega))
     have q3 := Lib.hid (qv_.out.kept hg3 (by omega))
     have z3 := Lib.hid (zv.out.kept hg3 (by omega))
     have b3 := Lib.hid (bv.out.grown hg3 bv.out.size (fun k hk => by cases hk; exact b2.out.size))
     clear h3 hg3 rv bv sv qv_ zv y0
     have y0 : w3.cell? ⟨w.heap.size + 1, 0, none⟩ = some (.int .i64 8) := q3.out.cell 0
     have y5 : w3.cell? ⟨w.heap.size + 1, 5, none⟩ = some (.int .i64 qv) := q3.out.cell 5
     have sx : w3.cell? ⟨w.heap.size, 0, none⟩ = some (.slice tq tn tc) := s3.out.cell 0
     have e0 : w3.cell? ⟨u2.heap.size, 0, none⟩ = some (.int .i64 dt) := r3.out.cell 0
     have e1 : w3.cell? ⟨u2.heap.size, 1, none⟩ = some (.int .u16 di) := r3.out.cell 1
     have e2 : w3.cell? ⟨u2.heap.size, 2, none⟩ = some (.int .i64 dv) := r3.out.cell 2
     have e3 : w3.cell? ⟨u2.heap.size, 3, none⟩ = some (.string ds) := r3.out.cell 3))
 try clear y0 y5 sx e0 e1 e2 e3
 clear hneg hneg2
 refine (hpl.out w3 b3.out).mono ?_
 rintro e u4 ⟨rfl, hb⟩
 have r4 := Lib.hid (r3.out.below hb)
 have s4 := Lib.hid (s3.out.below hb)
 have q4 := Lib.hid (q3.out.below hb)
 have z4 := Lib.hid (z3.out.below hb)
 have b4 := Lib.hid (b3.out.trans (hb.mono b3.out.size))
 clear hb r3 s3 q3 z3 b3 hpl
 go_wp2_with (first
  | ((with_reducible refine wpList_store_at rfl 68 (.tmp 10) (.tmp 101) rfl (o := 0) (vs := [.int .i64 dt, .int .u16 di, .int .i64 (plusN dv (-qv)), .string ds]) rfl rfl r4.out (sizeRow _ _ _ _) (Nat.le_refl _) (rowC_one dt di (plusN dv (-qv)) ds) ?_)
     intro w5 h5 hg5
     have r5 : Hid (RowV 68 w5 u2.heap.size [.int .i64 dt, .int .u16 di, .int .i64 (plusN dv (-qv)), .string ds]) := h5
     have s5 := Lib.hid (s4.out.kept hg5 (by omega))
     have q5 := Lib.hid (q4.out.kept hg5 (by omega))
     have z5 := Lib.hid (z4.out.kept hg5 (by omega))
     have b5 := Lib.hid (b4.out.grown hg5 b4.out.size (fun k hk => by cases hk; exact b2.out.size))
     clear h5 hg5 r4 s4 q4 z4 b4
 ))
 have hg := refE_to hRE'.out rfl
 obtain ⟨m, hm, hdm, hkm⟩ := rowK_of hg
 have hfm : Hid (∀ u, Below w.heap.size w u → Calls Try.prog 43 #[.slice (some A) ln lc, .agg #[.int .i64 tt, .int .u16 ti]] u (fun e w' => e = .returned (.int .i64 (m : Int)) ∧ Below u.heap.size u w')) := by
  intro u hu
  have h1 := refFind_any (some A) ln lc l tt ti u (hr'.out.below hu (Nat.le_refl _)) (by omega)
  rw [show findAt l ⟨tt, ti⟩ = (m : Int) by unfold findAt; rw [hm]] at h1
  exact h1
 have hltm : m < ln := by have := (List.getElem?_eq_some_iff.1 hdm).1; omega
 obtain ⟨A2, r_, hqA, hx_, ok_, hcc⟩ := (hr'.out.below b5.out (Nat.le_refl _)).at hltm
 rw [hdm] at hx_
 obtain rfl := Option.some.inj hx_
 obtain rfl : A = A2 := by injection hqA
 have hrow1 := row_ok hc'.out hdm
 obtain ⟨r_, hrw⟩ : ∃ r, rowK l ⟨tt, ti⟩ = r := ⟨_, rfl⟩
 rw [hrw] at ok_ hcc hrow1
 obtain ⟨⟨ct, cid⟩, cv, cs⟩ := r_
 have hce := Lib.hid hcc
 have oke := Lib.hid ok_
 have hpm := Lib.hid (rowE_parts hrow1)
 have hdr : Hid (docR bs l ⟨8, ⟨kt, ki⟩, ⟨tt, ti⟩, qv, qs, qn⟩ = (withL (withL l ⟨⟨ct, cid⟩, plusN cv qv, cs⟩) ⟨⟨dt, di⟩, plusN dv (-qv), ds⟩, okA)) := by show _ = _; simp [docR, hRE'.out, hrw'.out, hrw, plusV]
 have m0 : (0 : Int) ≤ m := by omega
 have m1 : (m : Int) < ln := by omega
 clear hrw hcc ok_ hg hm hdm hkm hqA hrow1
 have hpm2 : Hid (∀ u, Below w.heap.size w u → Calls Try.prog 48 #[.agg #[.slice tq tn tc], .agg #[.int .i64 ct, .int .u16 cid, .int .i64 cv, .string cs], .int .i64 qv] u (fun e w' => e = .returned (.tuple #[.agg #[.int .i64 ct, .int .u16 cid, .int .i64 (plusN cv qv), .string cs], .bool (plusB bs ⟨⟨ct, cid⟩, cv, cs⟩ qv)]) ∧ Below u.heap.size u w')) := fun u hu => plusD_any tq tn tc bs ct cid cv cs qv u (hh.out.below hu (Nat.le_refl _)) hpm.out.1 oke.out.val hq'.out.val
 go_wp2
 refine wp_region_held (S := fun u => Below w5.heap.size w5 u) (by kernel_rfl) ?_
 change wpAnyH _ _ _ _ _ _ _ _ (World.drew w5)
 have hX0 : Hid (Below w5.heap.size w5 w5.drew) := below_drew w5
 refine held_tk (i := 0) (dst := some 104) (v := .agg #[.slice tq tn tc]) rfl rfl (.inl ⟨rfl, fun u hu => by have y0 : u.cell? ⟨w.heap.size, 0, none⟩ = some (.slice tq tn tc) := (s5.out.below hu).cell 0; go_simp⟩) hX0.out ?_
 go_frame
 refine held_tk (i := 1) (dst := some 105) (v := .slice (some A) ln lc) rfl rfl (y_move (.tmp 1) rfl rfl rfl) hX0.out ?_
 go_frame
 refine held_tk (i := 2) (dst := some 106) (v := .slice (some A) ln lc) rfl rfl (y_move (.tmp 1) rfl rfl rfl) hX0.out ?_
 go_frame
 refine held_tk (i := 3) (dst := some 107) (v := .pointer (some ⟨w.heap.size + 1, 3, none⟩)) rfl rfl (.inl ⟨rfl, fun u _ => by go_simp⟩) hX0.out ?_
 go_frame
 refine held_tk (i := 4) (dst := some 108) (v := .agg #[.int .i64 tt, .int .u16 ti]) rfl rfl (.inl ⟨rfl, fun u hu => by have y0 : u.cell? ⟨w.heap.size + 1, 3, none⟩ = some (.int .i64 tt) := (q5.out.below hu).cell 3; have y1 : u.cell? ⟨w.heap.size + 1, 4, none⟩ = some (.int .u16 ti) := (q5.out.below hu).cell 4; go_simp⟩) hX0.out ?_
 go_frame
 refine held_tk (i := 8) (dst := some 112) (v := .pointer (some ⟨w.heap.size + 1, 5, none⟩)) rfl rfl (.inl ⟨rfl, fun u _ => by go_simp⟩) hX0.out ?_
 go_frame
 refine held_tk (i := 9) (dst := some 113) (v := .int .i64 qv) rfl rfl (.inl ⟨rfl, fun u hu => by have y0 : u.cell? ⟨w.heap.size + 1, 5, none⟩ = some (.int .i64 qv) := (q5.out.below hu).cell 5; go_simp⟩) hX0.out ?_
 go_frame
 refine any_two (i := 5) (j := 14) (by kernel_rfl) ?_ ?_
 · refine call_op (dst := some 109) rfl rfl rfl (by go_simp) (hfm.out w5.drew (b5.out.trans (hX0.out.mono b5.out.size))) ?_
   rintro e v1 ⟨rfl, hb⟩
   have hX1 : Hid (Below w5.heap.size w5 v1) := hX0.out.trans (hb.mono hX0.out.size)
   clear hb
   refine ⟨_, rfl, hX1.out, ?_⟩
   go_frame
   refine held_tk (i := 6) (dst := some 110) (v := .pointer (some (A.add (m * 4)))) rfl rfl (.inl ⟨rfl, fun u _ => by go_simp⟩) hX1.out ?_
   go_frame
   refine held_tk (i := 7) (dst := some 111) (v := .agg #[.int .i64 ct, .int .u16 cid, .int .i64 cv, .string cs]) rfl rfl (y_load_agg 68 (.tmp 110) rfl rfl rfl (fun u hu => run_loadVar_at Try.underlying68 rfl (sizeRow ct cid cv cs) _ (fun j x hj => cell_keeps hu (Nat.le_refl _) (hce.out j x hj)))) hX1.out ?_
   go_frame
   refine any_two (i := 10) (j := 14) (by kernel_rfl) ?_ ?_
   · refine call_op (dst := some 114) rfl rfl rfl (by go_simp) (hpm2.out v1 (b5.out.trans (hX1.out.mono b5.out.size))) ?_
     rintro e v2 ⟨rfl, hb⟩
     have hX2 : Hid (Below w5.heap.size w5 v2) := hX1.out.trans (hb.mono hX1.out.size)
     clear hb
     refine ⟨_, rfl, hX2.out, ?_⟩
     go_frame
     refine held_tk (i := 11) (dst := some 103) (v := .tuple #[.agg #[.int .i64 ct, .int .u16 cid, .int .i64 (plusN cv qv), .string cs], .bool (plusB bs ⟨⟨ct, cid⟩, cv, cs⟩ qv)]) rfl rfl (y_move (.tmp 114) rfl rfl rfl) hX2.out ?_
     go_frame
     refine held_tk (i := 12) (dst := some 115) (v := .agg #[.int .i64 ct, .int .u16 cid, .int .i64 (plusN cv qv), .string cs]) rfl rfl (.inl ⟨rfl, fun u _ => by go_simp⟩) hX2.out ?_
     go_frame
     refine held_tk (i := 13) (dst := some 116) (v := .bool (plusB bs ⟨⟨ct, cid⟩, cv, cs⟩ qv)) rfl rfl (.inl ⟨rfl, fun u _ => by go_simp⟩) hX2.out ?_
     go_frame
     obtain ⟨v3, hv3⟩ : ∃ u, v2.alloc (.cells #[.int .i64 0, .int .u16 0, .int .i64 0, .string ⟨#[]⟩] 68) = u := ⟨_, rfl⟩
     have hbx1 := one_rowI (xs := [.int .i64 0, .int .u16 0, .int .i64 0, .string ⟨#[]⟩]) hv3
     have hX3 : Hid (Below w5.heap.size w5 v3) := hX2.out.trans (hbx1.1.mono hX2.out.size)
     have hal : Hid (w5.heap.size ≤ v2.heap.size) := hX2.out.size
     refine held_value (i := 14) (dst := some 11) (w' := v3) (v := .pointer (some ⟨v2.heap.size, 0, none⟩)) rfl rfl (by kernel_rfl) rfl (by rw [← hv3]; go_simp) hX3.out ?_
     go_frame
     clear hv3
     obtain ⟨w6, hst, h6, hg6⟩ := run_storeVar_at (P := Try.prog) (ty := 68) (o := 0) (vs := [.int .i64 ct, .int .u16 cid, .int .i64 (plusN cv qv), .string cs]) hbx1.2.1 (sizeRow _ _ _ _) (Nat.le_refl _) (RowD.one ⟨⟨ct, cid⟩, plusN cv qv, cs⟩)
     have hX6 : Hid (Below w5.heap.size w5 w6) := hX3.out.grown hg6 hX3.out.size (fun k hk => by cases hk; exact hal.out)
     refine held_skip (i := 15) (dst := none) (w' := w6) rfl rfl (by kernel_rfl) rfl (run_store_op rfl rfl rfl hst) hX6.out ?_
     go_frame
     refine held_tk (i := 16) (dst := some 12) (v := .bool (plusB bs ⟨⟨ct, cid⟩, cv, cs⟩ qv)) rfl rfl (.inl ⟨rfl, fun u _ => by go_simp⟩) hX6.out ?_
     go_frame
     refine wpAnyH_done (by kernel_rfl) ?_ _
     have t6 : Hid (RowV 68 w6 (v2.heap.size) [.int .i64 ct, .int .u16 cid, .int .i64 (plusN cv qv), .string cs]) := h6
     have r6 := Lib.hid (r5.out.below hX6.out)
     have s6 := Lib.hid (s5.out.below hX6.out)
     have q6 := Lib.hid (q5.out.below hX6.out)
     have z6 := Lib.hid (z5.out.below hX6.out)
     have b6 := Lib.hid (b5.out.trans (hX6.out.mono b5.out.size))
     clear hst h6 hg6 hX6 hX0 hal r5 s5 q5 z5 b5
     have e0 : w6.cell? ⟨v2.heap.size, 0, none⟩ = some (.int .i64 ct) := t6.out.cell 0
     have e1 : w6.cell? ⟨v2.heap.size, 1, none⟩ = some (.int .u16 cid) := t6.out.cell 1
     have e2 : w6.cell? ⟨v2.heap.size, 2, none⟩ = some (.int .i64 (plusN cv qv)) := t6.out.cell 2
     have e3 : w6.cell? ⟨v2.heap.size, 3, none⟩ = some (.string cs) := t6.out.cell 3
     have hok : Hid (RowOk ⟨⟨ct, cid⟩, plusN cv qv, cs⟩) := ⟨oke.out.key, plusN_ok _ _, oke.out.note⟩
     have hok2 : Hid (RowOk ⟨⟨dt, di⟩, plusN dv (-qv), ds⟩) := ⟨ok'.out.key, plusN_ok _ _, ok'.out.note⟩
     go_wp2_with fail
     clear e0 e1 e2 e3
     refine (with_any (some A) ln lc l ct cid (plusN cv qv) cs w6 (hr'.out.below b6.out (Nat.le_refl _)) (by omega) hok.out).mono ?_
     rintro e w7 ⟨gq, gn, gc, rfl, ho, hl2, hb⟩
     have hr7 := Lib.hid hl2
     have r7 := Lib.hid (r6.out.below hb)
     have s7 := Lib.hid (s6.out.below hb)
     have q7 := Lib.hid (q6.out.below hb)
     have z7 := Lib.hid (z6.out.below hb)
     have b7 := Lib.hid (b6.out.trans (hb.mono b6.out.size))
     have hgn : gn ≤ 100 := by have h1 := hr7.out.len; unfold withL at h1; rw [insL_len] at h1; have h2 := outL_len l ⟨ct, cid⟩; simp only at h1 h2; omega
     clear hb ho hl2 r6 s6 q6 z6 b6 t6
     have e0 : w7.cell? ⟨u2.heap.size, 0, none⟩ = some (.int .i64 dt) := r7.out.cell 0
     have e1 : w7.cell? ⟨u2.heap.size, 1, none⟩ = some (.int .u16 di) := r7.out.cell 1
     have e2 : w7.cell? ⟨u2.heap.size, 2, none⟩ = some (.int .i64 (plusN dv (-qv))) := r7.out.cell 2
     have e3 : w7.cell? ⟨u2.heap.size, 3, none⟩ = some (.string ds) := r7.out.cell 3
     go_wp2_with fail
     clear e0 e1 e2 e3 r7
     refine (with_any gq gn gc (withL l ⟨⟨ct, cid⟩, plusN cv qv, cs⟩) dt di (plusN dv (-qv)) ds w7 hr7.out (by omega) hok2.out).mono ?_
     rintro e w8 ⟨jq, jn, jc, rfl, ho, hl2, hb⟩
     have o8 : Hid (OwnL w8 jq jn jc _) := ⟨ho.mono (Nat.zero_le _), hl2.ok⟩
     have s8 := Lib.hid (s7.out.below hb)
     have q8 := Lib.hid (q7.out.below hb)
     have z8 := Lib.hid (z7.out.below hb)
     have b8 := Lib.hid (b7.out.trans (hb.mono b7.out.size))
     clear hb ho hl2 s7 q7 z7 b7
     have x0 : w8.cell? ⟨w.heap.size + 2, 0, none⟩ = some (.int .i64 0) := z8.out.cell 0
     have f0 := z8.out.free 0
     have x1 : w8.cell? ⟨w.heap.size + 2, 1, none⟩ = some (.slice none 0 0) := z8.out.cell 1
     have f1 := z8.out.free 1
     have x2 : w8.cell? ⟨w.heap.size + 2, 2, none⟩ = some (.int .i64 0) := z8.out.cell 2
     have f2 := z8.out.free 2
     obtain ⟨Z, hZ⟩ : ∃ Z, (((w8.setCell ⟨w.heap.size + 2, 0, none⟩ (.int .i64 0)).setCell ⟨w.heap.size + 2, 1, none⟩ (.slice none 0 0)).setCell ⟨w.heap.size + 2, 2, none⟩ (.int .i64 0)) = Z := ⟨_, rfl⟩
     have hgZ : w8.grownBy Z (some (w.heap.size + 2)) := by rw [← hZ]; exact grown_trans (grown_trans (setCell_grown _ _ _ _) (setCell_grown _ _ _ _)) (setCell_grown _ _ _ _)
     have hgZ' := Lib.hid hgZ
     have zZ : Hid (RowV 35 Z (w.heap.size + 2) [.int .i64 0, .slice none 0 0, .int .i64 0]) := by
      show RowV _ _ _ _
      rw [← hZ]
      exact ((z8.out.set 0 (.int .i64 0)).set 1 (.slice none 0 0)).set 2 (.int .i64 0)
     have bZ := Lib.hid (b8.out.grown hgZ b8.out.size (fun k hk => by cases hk; omega))
     clear hgZ
     go_wp2
     have m0 := zZ.out.cell 0
     have m1 := zZ.out.cell 1
     have m2 := zZ.out.cell 2
     simp only [List.getElem?_cons_zero, List.getElem?_cons_succ] at m0 m1 m2
     refine bodyPost_ret (v := .tuple #[.slice jq jn jc, .agg #[.int .i64 0, .slice none 0 0, .int .i64 0]]) (by simp [results, Try.results18, go_sem, m0, m1, m2]) rfl ?_
     rw [hdr.out]
     exact ⟨_, _, _, _, _, _, _, _, rfl, (o8.out.gt hgZ'.out z8.out (by decide)).reads, RowsOn.none_ _, rfl, rfl, bZ.out⟩
   · obtain ⟨v2, hv2⟩ : ∃ u, v1.alloc (.cells #[.int .i64 0, .int .u16 0, .int .i64 0, .string ⟨#[]⟩] 68) = u := ⟨_, rfl⟩
     have hbx1 := one_rowI (xs := [.int .i64 0, .int .u16 0, .int .i64 0, .string ⟨#[]⟩]) hv2
     have hX2 : Hid (Below w5.heap.size w5 v2) := hX1.out.trans (hbx1.1.mono hX1.out.size)
     have hal : Hid (w5.heap.size ≤ v1.heap.size) := hX1.out.size
     refine value_op (dst := some 11) (w' := v2) (v := .pointer (some ⟨v1.heap.size, 0, none⟩)) rfl rfl rfl (by rw [← hv2]; go_simp) ⟨hX2.out, ?_⟩
     go_frame
     clear hv2
     refine held_call (i := 10) (dst := some 114) rfl rfl (by kernel_rfl) rfl (by go_simp) (hpm2.out v2 (b5.out.trans (hX2.out.mono b5.out.size))) ?_
     rintro e v3 ⟨rfl, hb⟩
     have hX3 : Hid (Below w5.heap.size w5 v3) := hX2.out.trans (hb.mono hX2.out.size)
     have hrz := hbx1.2.1.below hb
     clear hb
     refine ⟨_, rfl, hX3.out, ?_⟩
     go_frame
     refine held_tk (i := 11) (dst := some 103) (v := .tuple #[.agg #[.int .i64 ct, .int .u16 cid, .int .i64 (plusN cv qv), .string cs], .bool (plusB bs ⟨⟨ct, cid⟩, cv, cs⟩ qv)]) rfl rfl (y_move (.tmp 114) rfl rfl rfl) hX3.out ?_
     go_frame
     refine held_tk (i := 12) (dst := some 115) (v := .agg #[.int .i64 ct, .int .u16 cid, .int .i64 (plusN cv qv), .string cs]) rfl rfl (.inl ⟨rfl, fun u _ => by go_simp⟩) hX3.out ?_
     go_frame
     refine held_tk (i := 13) (dst := some 116) (v := .bool (plusB bs ⟨⟨ct, cid⟩, cv, cs⟩ qv)) rfl rfl (.inl ⟨rfl, fun u _ => by go_simp⟩) hX3.out ?_
     go_frame
     obtain ⟨w6, hst, h6, hg6⟩ := run_storeVar_at (P := Try.prog) (ty := 68) (o := 0) (vs := [.int .i64 ct, .int .u16 cid, .int .i64 (plusN cv qv), .string cs]) hrz (sizeRow _ _ _ _) (Nat.le_refl _) (RowD.one ⟨⟨ct, cid⟩, plusN cv qv, cs⟩)
     have hX6 : Hid (Below w5.heap.size w5 w6) := hX3.out.grown hg6 hX3.out.size (fun k hk => by cases hk; exact hal.out)
     refine held_skip (i := 15) (dst := none) (w' := w6) rfl rfl (by kernel_rfl) rfl (run_store_op rfl rfl rfl hst) hX6.out ?_
     go_frame
     refine held_tk (i := 16) (dst := some 12) (v := .bool (plusB bs ⟨⟨ct, cid⟩, cv, cs⟩ qv)) rfl rfl (.inl ⟨rfl, fun u _ => by go_simp⟩) hX6.out ?_
     go_frame
     refine wpAnyH_done (by kernel_rfl) ?_ _
     have t6 : Hid (RowV 68 w6 (v1.heap.size) [.int .i64 ct, .int .u16 cid, .int .i64 (plusN cv qv), .string cs]) := h6
     have r6 := Lib.hid (r5.out.below hX6.out)
     have s6 := Lib.hid (s5.out.below hX6.out)
     have q6 := Lib.hid (q5.out.below hX6.out)
     have z6 := Lib.hid (z5.out.below hX6.out)
     have b6 := Lib.hid (b5.out.trans (hX6.out.mono b5.out.size))
     clear hst h6 hg6 hX6 hX0 hal r5 s5 q5 z5 b5
     have e0 : w6.cell? ⟨v1.heap.size, 0, none⟩ = some (.int .i64 ct) := t6.out.cell 0
     have e1 : w6.cell? ⟨v1.heap.size, 1, none⟩ = some (.int .u16 cid) := t6.out.cell 1
     have e2 : w6.cell? ⟨v1.heap.size, 2, none⟩ = some (.int .i64 (plusN cv qv)) := t6.out.cell 2
     have e3 : w6.cell? ⟨v1.heap.size, 3, none⟩ = some (.string cs) := t6.out.cell 3
     have hok : Hid (RowOk ⟨⟨ct, cid⟩, plusN cv qv, cs⟩) := ⟨oke.out.key, plusN_ok _ _, oke.out.note⟩
     have hok2 : Hid (RowOk ⟨⟨dt, di⟩, plusN dv (-qv), ds⟩) := ⟨ok'.out.key, plusN_ok _ _, ok'.out.note⟩
     go_wp2_with fail
     clear e0 e1 e2 e3
     refine (with_any (some A) ln lc l ct cid (plusN cv qv) cs w6 (hr'.out.below b6.out (Nat.le_refl _)) (by omega) hok.out).mono ?_
     rintro e w7 ⟨gq, gn, gc, rfl, ho, hl2, hb⟩
     have hr7 := Lib.hid hl2
     have r7 := Lib.hid (r6.out.below hb)
     have s7 := Lib.hid (s6.out.below hb)
     have q7 := Lib.hid (q6.out.below hb)
     have z7 := Lib.hid (z6.out.below hb)
     have b7 := Lib.hid (b6.out.trans (hb.mono b6.out.size))
     have hgn : gn ≤ 100 := by have h1 := hr7.out.len; unfold withL at h1; rw [insL_len] at h1; have h2 := outL_len l ⟨ct, cid⟩; simp only at h1 h2; omega
     clear hb ho hl2 r6 s6 q6 z6 b6 t6
     have e0 : w7.cell? ⟨u2.heap.size, 0, none⟩ = some (.int .i64 dt) := r7.out.cell 0
     have e1 : w7.cell? ⟨u2.heap.size, 1, none⟩ = some (.int .u16 di) := r7.out.cell 1
     have e2 : w7.cell? ⟨u2.heap.size, 2, none⟩ = some (.int .i64 (plusN dv (-qv))) := r7.out.cell 2
     have e3 : w7.cell? ⟨u2.heap.size, 3, none⟩ = some (.string ds) := r7.out.cell 3
     go_wp2_with fail
     clear e0 e1 e2 e3 r7
     refine (with_any gq gn gc (withL l ⟨⟨ct, cid⟩, plusN cv qv, cs⟩) dt di (plusN dv (-qv)) ds w7 hr7.out (by omega) hok2.out).mono ?_
     rintro e w8 ⟨jq, jn, jc, rfl, ho, hl2, hb⟩
     have o8 : Hid (OwnL w8 jq jn jc _) := ⟨ho.mono (Nat.zero_le _), hl2.ok⟩
     have s8 := Lib.hid (s7.out.below hb)
     have q8 := Lib.hid (q7.out.below hb)
     have z8 := Lib.hid (z7.out.below hb)
     have b8 := Lib.hid (b7.out.trans (hb.mono b7.out.size))
     clear hb ho hl2 s7 q7 z7 b7
     have x0 : w8.cell? ⟨w.heap.size + 2, 0, none⟩ = some (.int .i64 0) := z8.out.cell 0
     have f0 := z8.out.free 0
     have x1 : w8.cell? ⟨w.heap.size + 2, 1, none⟩ = some (.slice none 0 0) := z8.out.cell 1
     have f1 := z8.out.free 1
     have x2 : w8.cell? ⟨w.heap.size + 2, 2, none⟩ = some (.int .i64 0) := z8.out.cell 2
     have f2 := z8.out.free 2
     obtain ⟨Z, hZ⟩ : ∃ Z, (((w8.setCell ⟨w.heap.size + 2, 0, none⟩ (.int .i64 0)).setCell ⟨w.heap.size + 2, 1, none⟩ (.slice none 0 0)).setCell ⟨w.heap.size + 2, 2, none⟩ (.int .i64 0)) = Z := ⟨_, rfl⟩
     have hgZ : w8.grownBy Z (some (w.heap.size + 2)) := by rw [← hZ]; exact grown_trans (grown_trans (setCell_grown _ _ _ _) (setCell_grown _ _ _ _)) (setCell_grown _ _ _ _)
     have hgZ' := Lib.hid hgZ
     have zZ : Hid (RowV 35 Z (w.heap.size + 2) [.int .i64 0, .slice none 0 0, .int .i64 0]) := by
      show RowV _ _ _ _
      rw [← hZ]
      exact ((z8.out.set 0 (.int .i64 0)).set 1 (.slice none 0 0)).set 2 (.int .i64 0)
     have bZ := Lib.hid (b8.out.grown hgZ b8.out.size (fun k hk => by cases hk; omega))
     clear hgZ
     go_wp2
     have m0 := zZ.out.cell 0
     have m1 := zZ.out.cell 1
     have m2 := zZ.out.cell 2
     simp only [List.getElem?_cons_zero, List.getElem?_cons_succ] at m0 m1 m2
     refine bodyPost_ret (v := .tuple #[.slice jq jn jc, .agg #[.int .i64 0, .slice none 0 0, .int .i64 0]]) (by simp [results, Try.results18, go_sem, m0, m1, m2]) rfl ?_
     rw [hdr.out]
     exact ⟨_, _, _, _, _, _, _, _, rfl, (o8.out.gt hgZ'.out z8.out (by decide)).reads, RowsOn.none_ _, rfl, rfl, bZ.out⟩
 · obtain ⟨v1, hv1⟩ : ∃ u, w5.drew.alloc (.cells #[.int .i64 0, .int .u16 0, .int .i64 0, .string ⟨#[]⟩] 68) = u := ⟨_, rfl⟩
   have hbx1 := one_rowI (xs := [.int .i64 0, .int .u16 0, .int .i64 0, .string ⟨#[]⟩]) hv1
   have hX1 : Hid (Below w5.heap.size w5 v1) := hX0.out.trans (hbx1.1.mono hX0.out.size)
   have hal : Hid (w5.heap.size ≤ w5.drew.heap.size) := hX0.out.size
   refine value_op (dst := some 11) (w' := v1) (v := .pointer (some ⟨w5.drew.heap.size, 0, none⟩)) rfl rfl rfl (by rw [← hv1]; go_simp) ⟨hX1.out, ?_⟩
   go_frame
   clear hv1
   refine held_call (i := 5) (dst := some 109) rfl rfl (by kernel_rfl) rfl (by go_simp) (hfm.out v1 (b5.out.trans (hX1.out.mono b5.out.size))) ?_
   rintro e v2 ⟨rfl, hb⟩
   have hX2 : Hid (Below w5.heap.size w5 v2) := hX1.out.trans (hb.mono hX1.out.size)
   have hbx2 := (hbx1.2.1.below hb)
   clear hb
   refine ⟨_, rfl, hX2.out, ?_⟩
   go_frame
   refine held_tk (i := 6) (dst := some 110) (v := .pointer (some (A.add (m * 4)))) rfl rfl (.inl ⟨rfl, fun u _ => by go_simp⟩) hX2.out ?_
   go_frame
   refine held_tk (i := 7) (dst := some 111) (v := .agg #[.int .i64 ct, .int .u16 cid, .int .i64 cv, .string cs]) rfl rfl (y_load_agg 68 (.tmp 110) rfl rfl rfl (fun u hu => run_loadVar_at Try.underlying68 rfl (sizeRow ct cid cv cs) _ (fun j x hj => cell_keeps hu (Nat.le_refl _) (hce.out j x hj)))) hX2.out ?_
   go_frame
   refine held_call (i := 10) (dst := some 114) rfl rfl (by kernel_rfl) rfl (by go_simp) (hpm2.out v2 (b5.out.trans (hX2.out.mono b5.out.size))) ?_
   rintro e v3 ⟨rfl, hb⟩
   have hX3 : Hid (Below w5.heap.size w5 v3) := hX2.out.trans (hb.mono hX2.out.size)
   have hrz := hbx2.below hb
   clear hb
   refine ⟨_, rfl, hX3.out, ?_⟩
   go_frame
   refine held_tk (i := 11) (dst := some 103) (v := .tuple #[.agg #[.int .i64 ct, .int .u16 cid, .int .i64 (plusN cv qv), .string cs], .bool (plusB bs ⟨⟨ct, cid⟩, cv, cs⟩ qv)]) rfl rfl (y_move (.tmp 114) rfl rfl rfl) hX3.out ?_
   go_frame
   refine held_tk (i := 12) (dst := some 115) (v := .agg #[.int .i64 ct, .int .u16 cid, .int .i64 (plusN cv qv), .string cs]) rfl rfl (.inl ⟨rfl, fun u _ => by go_simp⟩) hX3.out ?_
   go_frame
   refine held_tk (i := 13) (dst := some 116) (v := .bool (plusB bs ⟨⟨ct, cid⟩, cv, cs⟩ qv)) rfl rfl (.inl ⟨rfl, fun u _ => by go_simp⟩) hX3.out ?_
   go_frame
   obtain ⟨w6, hst, h6, hg6⟩ := run_storeVar_at (P := Try.prog) (ty := 68) (o := 0) (vs := [.int .i64 ct, .int .u16 cid, .int .i64 (plusN cv qv), .string cs]) hrz (sizeRow _ _ _ _) (Nat.le_refl _) (RowD.one ⟨⟨ct, cid⟩, plusN cv qv, cs⟩)
   have hX6 : Hid (Below w5.heap.size w5 w6) := hX3.out.grown hg6 hX3.out.size (fun k hk => by cases hk; exact hal.out)
   refine held_skip (i := 15) (dst := none) (w' := w6) rfl rfl (by kernel_rfl) rfl (run_store_op rfl rfl rfl hst) hX6.out ?_
   go_frame
   refine held_tk (i := 16) (dst := some 12) (v := .bool (plusB bs ⟨⟨ct, cid⟩, cv, cs⟩ qv)) rfl rfl (.inl ⟨rfl, fun u _ => by go_simp⟩) hX6.out ?_
   go_frame
   refine wpAnyH_done (by kernel_rfl) ?_ _
   have t6 : Hid (RowV 68 w6 (w5.heap.size) [.int .i64 ct, .int .u16 cid, .int .i64 (plusN cv qv), .string cs]) := h6
   have r6 := Lib.hid (r5.out.below hX6.out)
   have s6 := Lib.hid (s5.out.below hX6.out)
   have q6 := Lib.hid (q5.out.below hX6.out)
   have z6 := Lib.hid (z5.out.below hX6.out)
   have b6 := Lib.hid (b5.out.trans (hX6.out.mono b5.out.size))
   clear hst h6 hg6 hX6 hX0 hal r5 s5 q5 z5 b5
   have e0 : w6.cell? ⟨w5.heap.size, 0, none⟩ = some (.int .i64 ct) := t6.out.cell 0
   have e1 : w6.cell? ⟨w5.heap.size, 1, none⟩ = some (.int .u16 cid) := t6.out.cell 1
   have e2 : w6.cell? ⟨w5.heap.size, 2, none⟩ = some (.int .i64 (plusN cv qv)) := t6.out.cell 2
   have e3 : w6.cell? ⟨w5.heap.size, 3, none⟩ = some (.string cs) := t6.out.cell 3
   have hok : Hid (RowOk ⟨⟨ct, cid⟩, plusN cv qv, cs⟩) := ⟨oke.out.key, plusN_ok _ _, oke.out.note⟩
   have hok2 : Hid (RowOk ⟨⟨dt, di⟩, plusN dv (-qv), ds⟩) := ⟨ok'.out.key, plusN_ok _ _, ok'.out.note⟩
   go_wp2_with fail
   clear e0 e1 e2 e3
   refine (with_any (some A) ln lc l ct cid (plusN cv qv) cs w6 (hr'.out.below b6.out (Nat.le_refl _)) (by omega) hok.out).mono ?_
   rintro e w7 ⟨gq, gn, gc, rfl, ho, hl2, hb⟩
   have hr7 := Lib.hid hl2
   have r7 := Lib.hid (r6.out.below hb)
   have s7 := Lib.hid (s6.out.below hb)
   have q7 := Lib.hid (q6.out.below hb)
   have z7 := Lib.hid (z6.out.below hb)
   have b7 := Lib.hid (b6.out.trans (hb.mono b6.out.size))
   have hgn : gn ≤ 100 := by have h1 := hr7.out.len; unfold withL at h1; rw [insL_len] at h1; have h2 := outL_len l ⟨ct, cid⟩; simp only at h1 h2; omega
   clear hb ho hl2 r6 s6 q6 z6 b6 t6
   have e0 : w7.cell? ⟨u2.heap.size, 0, none⟩ = some (.int .i64 dt) := r7.out.cell 0
   have e1 : w7.cell? ⟨u2.heap.size, 1, none⟩ = some (.int .u16 di) := r7.out.cell 1
   have e2 : w7.cell? ⟨u2.heap.size, 2, none⟩ = some (.int .i64 (plusN dv (-qv))) := r7.out.cell 2
   have e3 : w7.cell? ⟨u2.heap.size, 3, none⟩ = some (.string ds) := r7.out.cell 3
   go_wp2_with fail
   clear e0 e1 e2 e3 r7
   refine (with_any gq gn gc (withL l ⟨⟨ct, cid⟩, plusN cv qv, cs⟩) dt di (plusN dv (-qv)) ds w7 hr7.out (by omega) hok2.out).mono ?_
   rintro e w8 ⟨jq, jn, jc, rfl, ho, hl2, hb⟩
   have o8 : Hid (OwnL w8 jq jn jc _) := ⟨ho.mono (Nat.zero_le _), hl2.ok⟩
   have s8 := Lib.hid (s7.out.below hb)
   have q8 := Lib.hid (q7.out.below hb)
   have z8 := Lib.hid (z7.out.below hb)
   have b8 := Lib.hid (b7.out.trans (hb.mono b7.out.size))
   clear hb ho hl2 s7 q7 z7 b7
   have x0 : w8.cell? ⟨w.heap.size + 2, 0, none⟩ = some (.int .i64 0) := z8.out.cell 0
   have f0 := z8.out.free 0
   have x1 : w8.cell? ⟨w.heap.size + 2, 1, none⟩ = some (.slice none 0 0) := z8.out.cell 1
   have f1 := z8.out.free 1
   have x2 : w8.cell? ⟨w.heap.size + 2, 2, none⟩ = some (.int .i64 0) := z8.out.cell 2
   have f2 := z8.out.free 2
   obtain ⟨Z, hZ⟩ : ∃ Z, (((w8.setCell ⟨w.heap.size + 2, 0, none⟩ (.int .i64 0)).setCell ⟨w.heap.size + 2, 1, none⟩ (.slice none 0 0)).setCell ⟨w.heap.size + 2, 2, none⟩ (.int .i64 0)) = Z := ⟨_, rfl⟩
   have hgZ : w8.grownBy Z (some (w.heap.size + 2)) := by rw [← hZ]; exact grown_trans (grown_trans (setCell_grown _ _ _ _) (setCell_grown _ _ _ _)) (setCell_grown _ _ _ _)
   have hgZ' := Lib.hid hgZ
   have zZ : Hid (RowV 35 Z (w.heap.size + 2) [.int .i64 0, .slice none 0 0, .int .i64 0]) := by
    show RowV _ _ _ _
    rw [← hZ]
    exact ((z8.out.set 0 (.int .i64 0)).set 1 (.slice none 0 0)).set 2 (.int .i64 0)
   have bZ := Lib.hid (b8.out.grown hgZ b8.out.size (fun k hk => by cases hk; omega))
   clear hgZ
   go_wp2
   have m0 := zZ.out.cell 0
   have m1 := zZ.out.cell 1
   have m2 := zZ.out.cell 2
   simp only [List.getElem?_cons_zero, List.getElem?_cons_succ] at m0 m1 m2
   refine bodyPost_ret (v := .tuple #[.slice jq jn jc, .agg #[.int .i64 0, .slice none 0 0, .int .i64 0]]) (by simp [results, Try.results18, go_sem, m0, m1, m2]) rfl ?_
   rw [hdr.out]
   exact ⟨_, _, _, _, _, _, _, _, rfl, (o8.out.gt hgZ'.out z8.out (by decide)).reads, RowsOn.none_ _, rfl, rfl, bZ.out⟩
theorem refDo_any (qk kt ki tt ti qv : Int) (qs : ByteArray) (qn : Int) (tq : Option Addr) (tn tc : Nat) (bs : List BdD) (lq : Option Addr) (ln lc : Nat) (l : List RowD) (w : World) (h : SchOn w tq tn tc bs) (hr : RowsOn w lq ln lc l) (hc : chkList bs l = 0) (hq : ReqOk ⟨qk, ⟨kt, ki⟩, ⟨tt, ti⟩, qv, qs, qn⟩) (hrq : reqB bs ⟨qk, ⟨kt, ki⟩, ⟨tt, ti⟩, qv, qs, qn⟩ = true) (h8 : qk ≤ 8) :
 Calls Try.prog 18 #[.agg #[.slice tq tn tc], .slice lq ln lc, .agg #[.int .i64 qk, .int .i64 kt, .int .u16 ki, .int .i64 tt, .int .u16 ti, .int .i64 qv, .string qs, .int .i64 qn]] w (DrPost (doM bs l ⟨qk, ⟨kt, ki⟩, ⟨tt, ti⟩, qv, qs, qn⟩) w) := by
 rw [doc_eq hc hrq h8]
 have hk1 : 1 ≤ qk := (reqB_kind hrq).1
 have hcase : qk = 1 ∨ qk = 2 ∨ qk = 3 ∨ qk = 4 ∨ qk = 5 ∨ qk = 6 ∨ qk = 7 ∨ qk = 8 := by omega
 clear hk1 h8
 rcases hcase with rfl | rfl | rfl | rfl | rfl | rfl | rfl | rfl
 · exact dr_1 kt ki tt ti qv qs qn tq tn tc bs lq ln lc l w h hr hc hq hrq
 · exact dr_2 kt ki tt ti qv qs qn tq tn tc bs lq ln lc l w h hr hc hq hrq
 · exact dr_3 kt ki tt ti qv qs qn tq tn tc bs lq ln lc l w h hr hc hq hrq
 · exact dr_4 kt ki tt ti qv qs qn tq tn tc bs lq ln lc l w h hr hc hq hrq
 · exact dr_5 kt ki tt ti qv qs qn tq tn tc bs lq ln lc l w h hr hc hq hrq
 · exact dr_6 kt ki tt ti qv qs qn tq tn tc bs lq ln lc l w h hr hc hq hrq
 · exact dr_7 kt ki tt ti qv qs qn tq tn tc bs lq ln lc l w h hr hc hq hrq
 · exact dr_8 kt ki tt ti qv qs qn tq tn tc bs lq ln lc l w h hr hc hq hrq
end Go.Proofs.Ytkdkncbccofpdaa
