/- PageLeaves: for every content and row the law returns true, and its arguments read as they did. No condition. -/
import Derived.Test.YtaiepdhmlmnggaaPLd
import Derived.Test.YtaiepdhmlmnggaaPLm
namespace Go.Proofs.Ytaiepdhmlmnggaa
open Go.RowKit

def PutD (c : ContD) (r : RowD) (d : ContD) (x : Int) : Prop := ((isR c.rows r.key = false ∧ c.rows.length = 4) ∧ x = 6 ∧ d = zeroC) ∨ (¬ (isR c.rows r.key = false ∧ c.rows.length = 4) ∧ x = 0 ∧ d = ⟨1, withL c.rows r, []⟩)
def PutDPost (c : ContD) (r : RowD) (w : World) (e : Ending) (w' : World) : Prop := ∃ (va : CV) (d : ContD) (x : Int), e = .returned (.tuple #[va.val, .int .i64 x]) ∧ PutD c r d x ∧ va.On w' d ∧ Below w.heap.size w w'
set_option maxRecDepth 100000 in
set_option maxHeartbeats 4000000 in
theorem refPut_any (u : CV) (c : ContD) (t id v : Int) (s : ByteArray) (w : World) (h : u.On w c) (hs : c.rows.Pairwise RlR) (hn : u.rn ≤ 1000) (hok : RowOk ⟨⟨t, id⟩, v, s⟩) :
    Calls Try.prog 21 #[u.val, .agg #[.int .i64 t, .int .u16 id, .int .i64 v, .string s]] w (PutDPost c ⟨⟨t, id⟩, v, s⟩ w) := by
  have hrows : Hid (RowsOn w u.rq u.rn u.rc c.rows) := h.rows
  have hrl := Lib.hid h.rl
  obtain ⟨k, rq, rn, rc, kq, kn, kc⟩ := u
  have hrows : Hid (RowsOn w rq rn rc c.rows) := hrows
  have hrl : Hid (c.rows.length = rn) := hrl
  have hn : rn ≤ 1000 := hn
  have hok' := Lib.hid hok
  obtain ⟨W, hW⟩ : ∃ W, ((w.alloc (.cells #[.int .i64 k, .slice rq rn rc, .slice kq kn kc] 25)).alloc (.cells #[.int .i64 t, .int .u16 id, .int .i64 v, .string s] 30)).alloc (.cells #[.int .i64 0, .slice none 0 0, .slice none 0 0] 25) = W := ⟨_, rfl⟩
  have hbx := Lib.hid (three_rows (xs := [.int .i64 k, .slice rq rn rc, .slice kq kn kc]) (ys := [.int .i64 t, .int .u16 id, .int .i64 v, .string s]) (zs := [.int .i64 0, .slice none 0 0, .slice none 0 0]) hW)
  have hs2 := sizeRow t id v s
  have hs3 := sizeKey t id
  have hz := sizeCont (.int .i64 0) (.slice none 0 0) (.slice none 0 0)
  have bk := Lib.hid (Boxed.key hbx.out.2.2.1.boxed)
  have c1 := hbx.out.2.1.boxed.cell 1 rfl
  have hw2 : Hid (w.heap.size ≤ w.heap.size + 2) := Nat.le_add_right _ _
  have hfd := findAt_is hs (k := ⟨t, id⟩)
  have hfi := Lib.hid (refFind_any rq rn rc c.rows t id W (hrows.out.below hbx.out.1 (Nat.le_refl _)) (by omega))
  obtain ⟨fi, hfe⟩ : ∃ z, findAt c.rows ⟨t, id⟩ = z := ⟨_, rfl⟩
  rw [hfe] at hfi hfd
  have hfd := Lib.hid hfd
  clear h hok hs hfe
  show Calls _ _ #[.agg #[.int .i64 k, .slice rq rn rc, .slice kq kn kc], .agg #[.int .i64 t, .int .u16 id, .int .i64 v, .string s]] _ _
  go_enter Try.func21, Try.ntmps21
  go_wp2_with (first
    | (with_reducible refine wpList_load_at rfl 28 (.tmp 8) rfl Try.underlying28 rfl hs3 rfl bk.out ?_))
  refine hfi.out.mono ?_
  clear hfi hW c1
  rintro e w1 ⟨rfl, hb1⟩
  have hd := Lib.hid (below_step hb1 hbx.out.1)
  have c1 := (hbx.out.2.1.boxed.below hb1 (Nat.le_refl _)).cell 1 rfl
  have br := Lib.hid (hbx.out.2.2.1.boxed.below hb1 (Nat.le_refl _))
  have rr := Lib.hid (hbx.out.2.2.2.1.below hb1)
  clear hb1 hbx bk
  have fin : Hid (∀ (x : Int), x = x) := fun _ => rfl
  rcases hfd.out with ⟨hi, i, rfl, _⟩ | ⟨hi, rfl⟩
  · have hi' := Lib.hid hi
    have hlt : decide ((i : Int) < 0) = false := decide_eq_false (by omega)
    clear hi hfd
    go_wp2_with (first
      | (with_reducible refine wpList_load_at rfl 30 (.tmp 3) rfl Try.underlying30 rfl hs2 rfl br.out.all ?_)
      | (go_at_call 51
         refine (with_any rq rn rc c.rows t id v s w1 (hrows.out.below hd.out (Nat.le_refl _)) (by omega) hok'.out).mono ?_
         rintro e w4 ⟨q4, n4, c4, rfl, h6, h7, h8⟩
         have hr7 := Lib.hid h7
         have hb8 := Lib.hid (below_step h8 hd.out)
         have rr5 := Lib.hid (rr.out.below h8)
         have hf7 : Hid (∀ a, q4 = some a → a.block ≠ w.heap.size + 2) := fun a ha => by have h1 := (h6.far a ha).1; have h2 := rr.out.lt; omega
         clear h6 h7 h8)
      | (go_at_call 24
         refine (refLeaf_any q4 n4 c4 w4).mono ?_
         rintro e w5 ⟨rfl, hb9⟩
         have hd5 := Lib.hid (below_step hb9 hb8.out)
         have rr6 := Lib.hid (rr5.out.below hb9)
         have hr8 := Lib.hid (hr7.out.below hb9 (Nat.le_refl _))
         clear hb9)
      | ((with_reducible refine wpList_store_at rfl 25 (.tmp 4) (.tmp 23) rfl (o := 0) (vs := [.int .i64 1, .slice q4 n4 c4, .slice none 0 0]) rfl rfl rr6.out (sizeCont (.int .i64 1) (.slice q4 n4 c4) (.slice none 0 0)) (Nat.le_refl _) (cont_one _ _ _ _ _ _ _) ?_)
         intro w9 h9 hg9
         have q9 := Lib.hid h9
         have hg9' := Lib.hid hg9
         clear h9 hg9))
    have s9 : RowV 25 w9 (w.heap.size + 2) [.int .i64 1, .slice q4 n4 c4, .slice none 0 0] := q9.out
    have m90 := s9.cell 0
    have m91 := s9.cell 1
    have m92 := s9.cell 2
    simp only [List.getElem?_cons_zero, List.getElem?_cons_succ] at m90 m91 m92
    refine bodyPost_ret (v := .tuple #[CV.val ⟨1, q4, n4, c4, none, 0, 0⟩, .int .i64 0]) (by simp [results, Try.results21, go_sem, m90, m91, m92]) rfl ?_
    exact ⟨⟨1, q4, n4, c4, none, 0, 0⟩, _, 0, rfl, .inr ⟨(fun h => by have := hi'.out; rw [h.1] at this; cases this), rfl, rfl⟩, ⟨rfl, hr8.out.gr hg9'.out hf7.out, KidsOn.none_ _⟩, Gr.below hg9'.out hd5.out hw2.out⟩
  · have hi' := Lib.hid hi
    clear hi hfd
    by_cases h4 : rn = 4
    · subst h4
      go_wp2_with (first
        | ((with_reducible refine wpList_store_at rfl 25 (.tmp 4) (.tmp 18) rfl (o := 0) (vs := [.int .i64 0, .slice none 0 0, .slice none 0 0]) rfl rfl rr.out hz (Nat.le_refl _) (cont_one _ _ _ _ _ _ _) ?_)
           intro w9 h9 hg9
           have q9 := Lib.hid h9
           have hg9' := Lib.hid hg9
           clear h9 hg9))
      have s9 : RowV 25 w9 (w.heap.size + 2) [.int .i64 0, .slice none 0 0, .slice none 0 0] := q9.out
      have m90 := s9.cell 0
      have m91 := s9.cell 1
      have m92 := s9.cell 2
      simp only [List.getElem?_cons_zero, List.getElem?_cons_succ] at m90 m91 m92
      refine bodyPost_ret (v := .tuple #[CV.val zV, .int .i64 6]) (by simp [results, Try.results21, go_sem, m90, m91, m92, zV]) rfl ?_
      exact ⟨zV, zeroC, 6, rfl, .inl ⟨⟨hi'.out, hrl.out⟩, rfl, rfl⟩, zV_on _, Gr.below hg9'.out hd.out hw2.out⟩
    · have h40 : ((rn : Int) == 4) = false := by rw [beq_eq_false_iff_ne]; omega
      have h4' := Lib.hid h4
      clear h4
      go_wp2_with (first
        | (with_reducible refine wpList_load_at rfl 30 (.tmp 3) rfl Try.underlying30 rfl hs2 rfl br.out.all ?_)
        | (go_at_call 51
           refine (with_any rq rn rc c.rows t id v s w1 (hrows.out.below hd.out (Nat.le_refl _)) (by omega) hok'.out).mono ?_
           rintro e w4 ⟨q4, n4, c4, rfl, h6, h7, h8⟩
           have hr7 := Lib.hid h7
           have hb8 := Lib.hid (below_step h8 hd.out)
           have rr5 := Lib.hid (rr.out.below h8)
           have hf7 : Hid (∀ a, q4 = some a → a.block ≠ w.heap.size + 2) := fun a ha => by have h1 := (h6.far a ha).1; have h2 := rr.out.lt; omega
           clear h6 h7 h8)
        | (go_at_call 24
           refine (refLeaf_any q4 n4 c4 w4).mono ?_
           rintro e w5 ⟨rfl, hb9⟩
           have hd5 := Lib.hid (below_step hb9 hb8.out)
           have rr6 := Lib.hid (rr5.out.below hb9)
           have hr8 := Lib.hid (hr7.out.below hb9 (Nat.le_refl _))
           clear hb9)
        | ((with_reducible refine wpList_store_at rfl 25 (.tmp 4) (.tmp 23) rfl (o := 0) (vs := [.int .i64 1, .slice q4 n4 c4, .slice none 0 0]) rfl rfl rr6.out (sizeCont (.int .i64 1) (.slice q4 n4 c4) (.slice none 0 0)) (Nat.le_refl _) (cont_one _ _ _ _ _ _ _) ?_)
           intro w9 h9 hg9
           have q9 := Lib.hid h9
           have hg9' := Lib.hid hg9
           clear h9 hg9))
      have s9 : RowV 25 w9 (w.heap.size + 2) [.int .i64 1, .slice q4 n4 c4, .slice none 0 0] := q9.out
      have m90 := s9.cell 0
      have m91 := s9.cell 1
      have m92 := s9.cell 2
      simp only [List.getElem?_cons_zero, List.getElem?_cons_succ] at m90 m91 m92
      refine bodyPost_ret (v := .tuple #[CV.val ⟨1, q4, n4, c4, none, 0, 0⟩, .int .i64 0]) (by simp [results, Try.results21, go_sem, m90, m91, m92]) rfl ?_
      exact ⟨⟨1, q4, n4, c4, none, 0, 0⟩, _, 0, rfl, .inr ⟨(fun h => h4'.out (by rw [← hrl.out]; exact h.2)), rfl, rfl⟩, ⟨rfl, hr8.out.gr hg9'.out hf7.out, KidsOn.none_ _⟩, Gr.below hg9'.out hd5.out hw2.out⟩

theorem GetR.no {c : ContD} {k : KeyD} {r : RowD} {x N : Int} (h : GetR c k r x) (hN : ∀ y, kindE c 1 211 y → y = N) (h0 : N ≠ 0) : x = N ∧ r = zR := by
  rcases h with ⟨h1, _, h2⟩ | ⟨hg, hk, _⟩
  · exact ⟨hN _ h1, h2⟩
  · exact absurd (hN 0 (.inr (.inr ⟨hg, hk, rfl⟩))).symm h0
theorem PutR.no {c d : ContD} {r : RowD} {x N : Int} (h : PutR c r d x) (hN : ∀ y, kindE c 1 211 y → y = N) (h0 : N ≠ 0) : x = N ∧ d = zeroC := by
  rcases h with ⟨h1, _, h2⟩ | ⟨hg, hk, _⟩
  · exact ⟨hN _ h1, h2⟩
  · exact absurd (hN 0 (.inr (.inr ⟨hg, hk, rfl⟩))).symm h0
theorem TakeR.nothing {c d : ContD} {k : KeyD} {r : RowD} {x N : Int} (h : TakeR c k d r x) (hN : ∀ y, kindE c 1 211 y → y = N) (h0 : N ≠ 0) : x = N ∧ d = zeroC ∧ r = zR := by
  rcases h with ⟨h1, _, h2, h3⟩ | ⟨hg, hk, _⟩
  · exact ⟨hN _ h1, h2, h3⟩
  · exact absurd (hN 0 (.inr (.inr ⟨hg, hk, rfl⟩))).symm h0
theorem kind_bad {c : ContD} (hg : ¬ GoodC c) : ∀ y, kindE c 1 211 y → y = 160 := fun y h => by
  rcases h with ⟨h, _⟩ | ⟨h, _⟩ | ⟨h, _⟩
  · exact h
  · exact absurd h hg
  · exact absurd h hg
theorem kind_other {c : ContD} (hg : GoodC c) (hk : c.kind ≠ 1) : ∀ y, kindE c 1 211 y → y = 211 := fun y h => by
  rcases h with ⟨_, h⟩ | ⟨_, _, h⟩ | ⟨_, h, _⟩
  · exact absurd hg h
  · exact h
  · exact absurd h hk

section
variable {c d : ContD} {r : RowD} {k : KeyD} {x : Int} (hg : GoodC c) (hk : c.kind = 1)
include hg hk
theorem leaf_srt : c.rows.Pairwise RlR := (goodR_iff.1 (good_leaf hg hk).1).2.2
theorem get_is (h : GetR c k r x) (hi : isR c.rows k = true) : x = 0 ∧ r ∈ c.rows ∧ r.key = k := by
  rcases h.s hg hk with h | ⟨_, _, h⟩
  · exact h
  · obtain ⟨y, hy, hyk⟩ := isR_true hi
    exact absurd hyk (h y (List.mem_of_getElem? hy))
theorem get_not (h : GetR c k r x) (hi : isR c.rows k = false) : x = 4 ∧ r = zR := by
  rcases h.s hg hk with ⟨_, h1, h2⟩ | ⟨h1, h2, _⟩
  · exact absurd h2 (isR_false (leaf_srt hg hk) hi r h1)
  · exact ⟨h1, h2⟩
theorem take_is (h : TakeR c k d r x) (hi : isR c.rows k = true) : x = 0 ∧ d = ⟨1, cutL c.rows k, []⟩ ∧ r ∈ c.rows ∧ r.key = k := by
  by_cases hx : x = 0
  · subst hx
    obtain ⟨_, _, _, h1, h2, _, _, h3⟩ := h.ok rfl
    exact ⟨rfl, h3, h1, h2⟩
  · rcases h with ⟨h1, h2, _⟩ | ⟨_, _, ⟨h1, _⟩ | ⟨_, h1, _⟩⟩
    · exact (kind_no hg hk h1 h2).elim
    · rw [hi] at h1; cases h1
    · exact absurd h1 hx
theorem take_not (h : TakeR c k d r x) (hi : isR c.rows k = false) : x = 4 ∧ d = zeroC ∧ r = zR := by
  rcases h with ⟨h1, h2, _⟩ | ⟨_, _, ⟨_, h1⟩ | ⟨h1, _⟩⟩
  · exact (kind_no hg hk h1 h2).elim
  · exact h1
  · rw [hi] at h1; cases h1
theorem put_bad (h : PutR c r d x) (hc : chkRowC r ≠ 0) : x = 151 ∧ d = zeroC := by
  rcases h with ⟨h1, h2, _⟩ | ⟨_, _, ⟨_, h1⟩ | ⟨h1, _⟩⟩
  · exact (kind_no hg hk h1 h2).elim
  · exact h1
  · exact absurd h1 hc
/-- what Put says is what the document's Put says -/
theorem put_doc {d2 : ContD} {x2 : Int} (h : PutR c r d x) (hc : chkRowC r = 0) (h2 : PutD c r d2 x2) : x2 = x ∧ d2 = d := by
  have hs := leaf_srt hg hk
  have hsz : sizeC c = c.rows.length := by unfold sizeC; rw [(good_leaf hg hk).2]; simp
  have hw := withL_putL hs r
  rcases h with ⟨h1, h3, _⟩ | ⟨_, _, ⟨h1, _⟩ | ⟨_, ⟨h1, rfl, rfl⟩ | ⟨h1, h4, rfl, rfl⟩ | ⟨h1, h4, rfl, rfl⟩⟩⟩
  · exact (kind_no hg hk h1 h3).elim
  · exact absurd hc h1
  · rcases h2 with ⟨⟨h3, _⟩, _⟩ | ⟨_, h3, h5⟩
    · rw [h1] at h3; cases h3
    · refine ⟨h3, h5.trans ?_⟩
      rw [hw]; unfold putL; rw [if_pos h1]
  · rcases h2 with ⟨_, h3, h5⟩ | ⟨h3, _⟩
    · exact ⟨h3, h5⟩
    · exact absurd ⟨h1, by rw [← hsz]; exact h4⟩ h3
  · rcases h2 with ⟨⟨_, h3⟩, _⟩ | ⟨_, h3, h5⟩
    · exact absurd (hsz.trans h3) h4
    · refine ⟨h3, h5.trans ?_⟩
      rw [hw]; unfold putL; rw [if_neg (by rw [h1]; decide)]
end
end Go.Proofs.Ytaiepdhmlmnggaa
namespace Go.Proofs.Ytaiepdhmlmnggaa
open Go.ChangeShapes Go.WideShapes Go.ChangeAt Go.RowKit Go.Deep Go.Joins

theorem row_one (t id v : Int) (s : ByteArray) : ∀ x ∈ ([.int .i64 t, .int .u16 id, .int .i64 v, .string s] : List Value), x.oneCell' = true := RowD.one ⟨⟨t, id⟩, v, s⟩
section
set_option maxRecDepth 100000
variable {H : Type} {enc : TypeId × Value → H} {W : World}
theorem open_key {r : Reach} {b0 : Nat} {v : Value} {d : DataW H} {p : List MemPlace} (hv : Value.okWide Try.prog W r b0 28 v) (h : DataW.Trod enc Try.prog W 0 (fun _ => true) true 28 v d p) : ∃ k : KeyD, v = .agg #[.int .i64 k.t, .int .u16 k.id] ∧ KeyOk k := by
  obtain ⟨cs, rfl, hsz⟩ := okWide_struct Try.underlying28 hv
  obtain ⟨fuel, hf⟩ := h
  obtain ⟨l⟩ := cs
  obtain ⟨k, hk, ok⟩ := key_cells hf
  have e : l = k.cells := by simpa [Value.cells] using hk
  exact ⟨k, by rw [e]; rfl, ok⟩

theorem open_row {r : Reach} {b0 : Nat} {v : Value} {d : DataW H} {p : List MemPlace} (hv : Value.okWide Try.prog W r b0 30 v) (h : DataW.Trod enc Try.prog W 0 (fun _ => true) true 30 v d p) : ∃ x : RowD, v = .agg #[.int .i64 x.key.t, .int .u16 x.key.id, .int .i64 x.val, .string x.note] ∧ RowOk x := by
  obtain ⟨cs, rfl, hsz⟩ := okWide_struct Try.underlying30 hv
  obtain ⟨fuel, hf⟩ := h
  obtain ⟨l⟩ := cs
  obtain ⟨k, hk, ok⟩ := row_cells hf
  have e : l = k.cells := by simpa [Value.cells] using hk
  exact ⟨k, by rw [e]; rfl, ok⟩
end

set_option maxRecDepth 100000 in
set_option maxHeartbeats 16000000 in
theorem leaves_law (k : Int) (rq : Option Addr) (rn rc : Nat) (kq : Option Addr) (kn kc : Nat) (c : ContD) (t id v : Int) (s : ByteArray) (w : World) (hon : ContOn w k rq rn rc kq kn kc c) (hro : RowOk ⟨⟨t, id⟩, v, s⟩) :
    Calls Try.prog 3 #[.agg #[.int .i64 k, .slice rq rn rc, .slice kq kn kc], .agg #[.int .i64 t, .int .u16 id, .int .i64 v, .string s]] w (fun e w' => e = .returned (.bool true) ∧ Below w.heap.size w w') := by
  have hon : CV.On ⟨k, rq, rn, rc, kq, kn, kc⟩ w c := hon
  have hkd : Hid (k = c.kind) := hon.kind
  have hv := Lib.hid (fun u (hu : Below w.heap.size w u) => hon.below hu (Nat.le_refl _))
  have hrl := Lib.hid hon.rl
  have hro' := Lib.hid hro
  have hsn := hro.note
  unfold maxLen at hsn
  obtain ⟨W, hW⟩ : ∃ W, (w.alloc (.cells #[.int .i64 k, .slice rq rn rc, .slice kq kn kc] 25)).alloc (.cells #[.int .i64 t, .int .u16 id, .int .i64 v, .string s] 30) = W := ⟨_, rfl⟩
  have hbx := Lib.hid (two_rows (xs := [.int .i64 k, .slice rq rn rc, .slice kq kn kc]) (ys := [.int .i64 t, .int .u16 id, .int .i64 v, .string s]) hW)
  have hs := sizeCont (.int .i64 k) (.slice rq rn rc) (.slice kq kn kc)
  clear hon hro
  go_enter Try.func3, Try.ntmps3
  go_wp2_with fail
  clear hW
  refine (wakes_any W).mono ?_
  rintro e w1 ⟨rfl, hb⟩
  have hd := Lib.hid (below_step hb hbx.out.1)
  have bc := Lib.hid (hbx.out.2.1.boxed.below hb (Nat.le_refl _))
  have br := Lib.hid (hbx.out.2.2.1.boxed.below hb (Nat.le_refl _))
  clear hb hbx
  obtain ⟨wO, hwO⟩ : ∃ x, w1.alloc (.cells #[.int .i64 k, .slice rq rn rc, .slice kq kn kc] 25) = x := ⟨_, rfl⟩
  have hbO := Lib.hid (one_box (xs := [.int .i64 k, .slice rq rn rc, .slice kq kn kc]) hwO)
  have hdO := Lib.hid (below_step hbO.out.1 hd.out)
  have hov := Lib.hid (over_any 1 w1.heap.size wO (by decide) (fun j hj => ⟨⟨k, rq, rn, rc, kq, kn, kc⟩, c, hv.out _ hdO.out, by
    obtain rfl : j = 0 := by omega
    exact hbO.out.2.1⟩))
  go_wp2_with (first
    | (with_reducible refine wpList_load_at rfl 25 (.tmp 2) rfl Try.underlying25 rfl hs rfl bc.out.all ?_))
  refine hov.out.mono ?_
  clear hov hwO
  rintro e w2 ⟨o, rfl, hb⟩
  have hd := Lib.hid (below_step hb hdO.out)
  have bc := Lib.hid ((bc.out.below hbO.out.1 (Nat.le_refl _)).below hb (Nat.le_refl _))
  have br := Lib.hid ((br.out.below hbO.out.1 (Nat.le_refl _)).below hb (Nat.le_refl _))
  have r3 := br.out.cell 3 rfl
  clear hb hdO hbO hs
  cases o with
  | true =>
    clear hv hro' hkd hrl
    go_wp2
    go_ret
    exact ⟨rfl, hd.out⟩
  | false =>
    by_cases hlong : 100 < s.size
    · have hl1 : decide ((100 : Int) < s.size) = true := decide_eq_true (by omega)
      clear hv hro' hkd hrl
      go_wp2
      go_ret
      exact ⟨rfl, hd.out⟩
    have hl1 : decide ((100 : Int) < s.size) = false := decide_eq_false (by omega)
    have b0 := bc.out.cell 0 rfl
    have b1 := bc.out.cell 1 rfl
    have b2 := bc.out.cell 2 rfl
    go_wp2_with fail
    refine (right_doc k rq rn rc kq kn kc c w2 (hv.out _ hd.out)).mono ?_
    rintro e w3 ⟨gb, rfl, hgb, hb⟩
    have hd := Lib.hid (below_step hb hd.out)
    have bc := Lib.hid (bc.out.below hb (Nat.le_refl _))
    have br := Lib.hid (br.out.below hb (Nat.le_refl _))
    clear hb b0 b1 b2 r3 hl1 hlong hsn
    cases gb with
    | false =>
      have hnG : Hid (¬ GoodC c) := fun h => by have := hgb.2 h; cases this
      clear hgb hkd hrl
      have b0 := bc.out.cell 0 rfl
      have b1 := bc.out.cell 1 rfl
      have b2 := bc.out.cell 2 rfl
      go_wp2_with fail
      refine (pSize_any ⟨k, rq, rn, rc, kq, kn, kc⟩ c w3 (hv.out _ hd.out) 0 ⟨fun h => absurd h hnG.out, fun _ => rfl⟩).mono ?_
      rintro e wa ⟨rfl, hb⟩
      have hd := Lib.hid (below_step hb hd.out)
      have bc := Lib.hid (bc.out.below hb (Nat.le_refl _))
      have br := Lib.hid (br.out.below hb (Nat.le_refl _))
      clear hb b0 b1 b2 
      have b0 := bc.out.cell 0 rfl
      have b1 := bc.out.cell 1 rfl
      have b2 := bc.out.cell 2 rfl
      go_wp2_with fail
      refine (full_any ⟨k, rq, rn, rc, kq, kn, kc⟩ c false ⟨fun h => (by cases h), fun h => absurd h.1.1 hnG.out⟩ wa (hv.out _ hd.out)).mono ?_
      rintro e wb ⟨rfl, hb⟩
      have hd := Lib.hid (below_step hb hd.out)
      have bc := Lib.hid (bc.out.below hb (Nat.le_refl _))
      have br := Lib.hid (br.out.below hb (Nat.le_refl _))
      clear hb b0 b1 b2 
      have b0 := bc.out.cell 0 rfl
      have b1 := bc.out.cell 1 rfl
      have b2 := bc.out.cell 2 rfl
      go_wp2_with fail
      refine (small_any ⟨k, rq, rn, rc, kq, kn, kc⟩ c false ⟨fun h => (by cases h), fun h => absurd h.1.1 hnG.out⟩ wb (hv.out _ hd.out)).mono ?_
      rintro e wc ⟨rfl, hb⟩
      have hd := Lib.hid (below_step hb hd.out)
      have bc := Lib.hid (bc.out.below hb (Nat.le_refl _))
      have br := Lib.hid (br.out.below hb (Nat.le_refl _))
      clear hb b0 b1 b2 
      have b0 := bc.out.cell 0 rfl
      have b1 := bc.out.cell 1 rfl
      have b2 := bc.out.cell 2 rfl
      have r0 := br.out.cell 0 rfl
      have r1 := br.out.cell 1 rfl
      have r2 := br.out.cell 2 rfl
      have r3 := br.out.cell 3 rfl
      go_wp2_with fail
      refine (get_any ⟨k, rq, rn, rc, kq, kn, kc⟩ c t id wc (hv.out _ hd.out)).mono ?_
      rintro e wd ⟨⟨⟨ta, ia⟩, va, sa⟩, ea, rfl, hga, hoka, hb⟩
      have hd := Lib.hid (below_step hb hd.out)
      have bc := Lib.hid (bc.out.below hb (Nat.le_refl _))
      have br := Lib.hid (br.out.below hb (Nat.le_refl _))
      clear hb b0 b1 b2 r0 r1 r2 r3 
      unfold rowV
      have hga := Lib.hid hga
      clear hoka
      obtain ⟨y0, hy0⟩ : ∃ x, wd.alloc (.cells #[.int .i64 0, .int .u16 0, .int .i64 0, .string ⟨#[]⟩] 30) = x := ⟨_, rfl⟩
      have y0r := Lib.hid (one_row (xs := [.int .i64 0, .int .u16 0, .int .i64 0, .string ⟨#[]⟩]) hy0)
      have y0j := Lib.hid y0r.out.2.1
      have y0b := Lib.hid y0r.out.1
      clear y0r
      go_wp2_with (first
        | ((with_reducible refine wpList_store_at rfl 30 (.tmp 9) (.tmp 66) rfl (o := 0) (vs := [.int .i64 ta, .int .u16 ia, .int .i64 va, .string sa]) rfl rfl y0j.out (sizeRow ta ia va sa) (Nat.le_refl _) (row_one ta ia va sa) ?_)
           intro y0w h9 hg9
           have xa : Hid (Boxed y0w wd.heap.size [.int .i64 ta, .int .u16 ia, .int .i64 va, .string sa]) := RowV.boxed h9
           have y0q := Lib.hid (Gr.below hg9 y0b.out (Nat.le_refl _))
           have bc := Lib.hid (bc.out.below y0q.out (Nat.le_refl _))
           have br := Lib.hid (br.out.below y0q.out (Nat.le_refl _))
           have hd := Lib.hid (below_step y0q.out hd.out)
           have b0 := bc.out.cell 0 rfl
           have b1 := bc.out.cell 1 rfl
           have b2 := bc.out.cell 2 rfl
           have r0 := br.out.cell 0 rfl
           have r1 := br.out.cell 1 rfl
           have r2 := br.out.cell 2 rfl
           have r3 := br.out.cell 3 rfl
           clear h9 hg9 y0j y0b y0q))
      refine (put_any ⟨k, rq, rn, rc, kq, kn, kc⟩ c t id v s y0w (hv.out _ hd.out) hro'.out).mono ?_
      rintro e we ⟨⟨kp, rqp, rnp, rcp, kqp, knp, kcp⟩, dp, ep, rfl, hP, honp, hb⟩
      have hd := Lib.hid (below_step hb hd.out)
      have bc := Lib.hid (bc.out.below hb (Nat.le_refl _))
      have br := Lib.hid (br.out.below hb (Nat.le_refl _))
      have xa := Lib.hid (xa.out.below hb (Nat.le_refl _))
      have hP := Lib.hid hP
      have honp := Lib.hid honp
      simp only [CV.val]
      clear hb b0 b1 b2 r0 r1 r2 r3
      obtain ⟨y1, hy1⟩ : ∃ x, we.alloc (.cells #[.int .i64 0, .slice none 0 0, .slice none 0 0] 25) = x := ⟨_, rfl⟩
      have y1r := Lib.hid (one_row (xs := [.int .i64 0, .slice none 0 0, .slice none 0 0]) hy1)
      have y1j := Lib.hid y1r.out.2.1
      have y1b := Lib.hid y1r.out.1
      clear y1r
      go_wp2_with (first
        | ((with_reducible refine wpList_store_at rfl 25 (.tmp 11) (.tmp 72) rfl (o := 0) (vs := [.int .i64 kp, .slice rqp rnp rcp, .slice kqp knp kcp]) rfl rfl y1j.out (sizeCont (.int .i64 kp) (.slice rqp rnp rcp) (.slice kqp knp kcp)) (Nat.le_refl _) (cont_one _ _ _ _ _ _ _) ?_)
           intro y1w h9 hg9
           have xp : Hid (Boxed y1w we.heap.size [.int .i64 kp, .slice rqp rnp rcp, .slice kqp knp kcp]) := RowV.boxed h9
           have y1q := Lib.hid (Gr.below hg9 y1b.out (Nat.le_refl _))
           have bc := Lib.hid (bc.out.below y1q.out (Nat.le_refl _))
           have br := Lib.hid (br.out.below y1q.out (Nat.le_refl _))
           have xa := Lib.hid (xa.out.below y1q.out (Nat.le_refl _))
           have honp := Lib.hid (honp.out.below y1q.out (Nat.le_refl _))
           have hd := Lib.hid (below_step y1q.out hd.out)
           have b0 := bc.out.cell 0 rfl
           have b1 := bc.out.cell 1 rfl
           have b2 := bc.out.cell 2 rfl
           have r0 := br.out.cell 0 rfl
           have r1 := br.out.cell 1 rfl
           have r2 := br.out.cell 2 rfl
           have r3 := br.out.cell 3 rfl
           clear h9 hg9 y1j y1b y1q))
      refine (take_any ⟨k, rq, rn, rc, kq, kn, kc⟩ c t id y1w (hv.out _ hd.out)).mono ?_
      rintro e wf ⟨⟨kt, rqt, rnt, rct, kqt, knt, kct⟩, dt, ⟨⟨ty, iy⟩, vy, sy⟩, et, rfl, hT, hont, hokt, hb⟩
      have hd := Lib.hid (below_step hb hd.out)
      have bc := Lib.hid (bc.out.below hb (Nat.le_refl _))
      have br := Lib.hid (br.out.below hb (Nat.le_refl _))
      have xa := Lib.hid (xa.out.below hb (Nat.le_refl _))
      have honp := Lib.hid (honp.out.below hb (Nat.le_refl _))
      have xp := Lib.hid (xp.out.below hb (Nat.le_refl _))
      unfold rowV
      have hT := Lib.hid hT
      have hont := Lib.hid hont
      simp only [CV.val]
      clear hb hokt b0 b1 b2 r0 r1 r2 r3
      obtain ⟨y2, hy2⟩ : ∃ x, (wf.alloc (.cells #[.int .i64 0, .slice none 0 0, .slice none 0 0] 25)).alloc (.cells #[.int .i64 0, .int .u16 0, .int .i64 0, .string ⟨#[]⟩] 30) = x := ⟨_, rfl⟩
      have y2r := Lib.hid (two_rows (xs := [.int .i64 0, .slice none 0 0, .slice none 0 0]) (ys := [.int .i64 0, .int .u16 0, .int .i64 0, .string ⟨#[]⟩]) hy2)
      have y2j := Lib.hid y2r.out.2.1
      have y2k := Lib.hid y2r.out.2.2.1
      have y2b := Lib.hid y2r.out.1
      clear y2r
      have hN := kind_bad hnG.out
      obtain ⟨rfl, hza⟩ := GetR.no hga.out hN (by decide)
      obtain ⟨rfl, rfl⟩ := PutR.no hP.out hN (by decide)
      obtain ⟨rfl, rfl, hzy⟩ := TakeR.nothing hT.out hN (by decide)
      have her := fun u => eql_row u ta ia va sa 0 0 0 ⟨#[]⟩
      have hRa : eqR ⟨⟨ta, ia⟩, va, sa⟩ ⟨⟨0, 0⟩, 0, ⟨#[]⟩⟩ = true := eqR_iff.2 hza
      rw [hRa] at her
      have hey := fun u => eql_row u ty iy vy sy 0 0 0 ⟨#[]⟩
      have hRy : eqR ⟨⟨ty, iy⟩, vy, sy⟩ ⟨⟨0, 0⟩, 0, ⟨#[]⟩⟩ = true := eqR_iff.2 hzy
      rw [hRy] at hey
      clear hga hP hT hza hzy hRa hRy hN
      go_wp2_with (first
        | ((with_reducible refine wpList_store_at rfl 25 (.tmp 13) (.tmp 79) rfl (o := 0) (vs := [.int .i64 kt, .slice rqt rnt rct, .slice kqt knt kct]) rfl rfl y2j.out (sizeCont (.int .i64 kt) (.slice rqt rnt rct) (.slice kqt knt kct)) (Nat.le_refl _) (cont_one _ _ _ _ _ _ _) ?_)
           intro y2v h9 hg9
           have xt : Hid (Boxed y2v wf.heap.size [.int .i64 kt, .slice rqt rnt rct, .slice kqt knt kct]) := RowV.boxed h9
           have y2k := Lib.hid (RowV.gr y2k.out hg9 (by omega))
           have y2b := Lib.hid (Gr.below hg9 y2b.out (Nat.le_refl _))
           clear h9 hg9 y2j)
        | ((with_reducible refine wpList_store_at rfl 30 (.tmp 14) (.tmp 80) rfl (o := 0) (vs := [.int .i64 ty, .int .u16 iy, .int .i64 vy, .string sy]) rfl rfl y2k.out (sizeRow ty iy vy sy) (Nat.le_refl _) (row_one ty iy vy sy) ?_)
           intro y2w h9 hg9
           have xy : Hid (Boxed y2w (wf.heap.size + 1) [.int .i64 ty, .int .u16 iy, .int .i64 vy, .string sy]) := RowV.boxed h9
           have xt := Lib.hid (xt.out.gr hg9 (by omega))
           have y2q := Lib.hid (Gr.below hg9 y2b.out (by omega))
           have bc := Lib.hid (bc.out.below y2q.out (Nat.le_refl _))
           have br := Lib.hid (br.out.below y2q.out (Nat.le_refl _))
           have xa := Lib.hid (xa.out.below y2q.out (Nat.le_refl _))
           have honp := Lib.hid (honp.out.below y2q.out (Nat.le_refl _))
           have xp := Lib.hid (xp.out.below y2q.out (Nat.le_refl _))
           have hont := Lib.hid (hont.out.below y2q.out (Nat.le_refl _))
           have hd := Lib.hid (below_step y2q.out hd.out)
           have b0 := bc.out.cell 0 rfl
           have b1 := bc.out.cell 1 rfl
           have b2 := bc.out.cell 2 rfl
           have a0 := xa.out.cell 0 rfl
           have a1 := xa.out.cell 1 rfl
           have a2 := xa.out.cell 2 rfl
           have a3 := xa.out.cell 3 rfl
           have p0 := xp.out.cell 0 rfl
           have p1 := xp.out.cell 1 rfl
           have p2 := xp.out.cell 2 rfl
           have u0 := xt.out.cell 0 rfl
           have u1 := xt.out.cell 1 rfl
           have u2 := xt.out.cell 2 rfl
           obtain ⟨wN, hwN⟩ : ∃ x, y2w.alloc (.cells #[.int .i64 kp, .slice rqp rnp rcp, .slice kqp knp kcp, .int .i64 kt, .slice rqt rnt rct, .slice kqt knt kct] 25) = x := ⟨_, rfl⟩
           have hbN := Lib.hid (one_box (xs := [.int .i64 kp, .slice rqp rnp rcp, .slice kqp knp kcp, .int .i64 kt, .slice rqt rnt rct, .slice kqt knt kct]) hwN)
           clear h9 hg9 y2k y2b y2q))
      clear b0 b1 b2 a0 a1 a2 a3 p0 p1 p2 u0 u1 u2
      have hno := none_any 2 y2w.heap.size wN (by decide) (fun j hj => by
        have hb := hbN.out.2.1
        match j, hj with
        | 0, _ => exact ⟨⟨kp, rqp, rnp, rcp, kqp, knp, kcp⟩, honp.out.below hbN.out.1 (Nat.le_refl _), fun i x hx => by
            rw [show ((⟨y2w.heap.size, 0 * 3, none⟩ : Addr).add i) = ⟨y2w.heap.size, 0 + i, none⟩ by unfold Addr.add; split <;> simp_all]
            match i, hx with
            | 0, hx => cases hx; exact hb.cell 0 rfl
            | 1, hx => cases hx; exact hb.cell 1 rfl
            | 2, hx => cases hx; exact hb.cell 2 rfl
            | i + 3, hx => simp at hx⟩
        | 1, _ => exact ⟨⟨kt, rqt, rnt, rct, kqt, knt, kct⟩, hont.out.below hbN.out.1 (Nat.le_refl _), fun i x hx => by
            rw [show ((⟨y2w.heap.size, 1 * 3, none⟩ : Addr).add i) = ⟨y2w.heap.size, 3 + i, none⟩ by unfold Addr.add; split <;> simp_all]
            match i, hx with
            | 0, hx => cases hx; exact hb.cell 3 rfl
            | 1, hx => cases hx; exact hb.cell 4 rfl
            | 2, hx => cases hx; exact hb.cell 5 rfl
            | i + 3, hx => simp at hx⟩
        | j + 2, hj => omega)
      have hd := Lib.hid (below_step hbN.out.1 hd.out)
      have bc := Lib.hid (bc.out.below hbN.out.1 (Nat.le_refl _))
      have br := Lib.hid (br.out.below hbN.out.1 (Nat.le_refl _))
      have xa := Lib.hid (xa.out.below hbN.out.1 (Nat.le_refl _))
      have honp := Lib.hid (honp.out.below hbN.out.1 (Nat.le_refl _))
      have xp := Lib.hid (xp.out.below hbN.out.1 (Nat.le_refl _))
      have hont := Lib.hid (hont.out.below hbN.out.1 (Nat.le_refl _))
      have xt := Lib.hid (xt.out.below hbN.out.1 (Nat.le_refl _))
      have xy := Lib.hid (xy.out.below hbN.out.1 (Nat.le_refl _))
      refine hno.mono ?_
      clear hno hwN
      rintro e wz ⟨rfl, hb⟩
      have hd := Lib.hid (below_step hb hd.out)
      have bc := Lib.hid (bc.out.below hb (Nat.le_refl _))
      have br := Lib.hid (br.out.below hb (Nat.le_refl _))
      have xa := Lib.hid (xa.out.below hb (Nat.le_refl _))
      have honp := Lib.hid (honp.out.below hb (Nat.le_refl _))
      have xp := Lib.hid (xp.out.below hb (Nat.le_refl _))
      have hont := Lib.hid (hont.out.below hb (Nat.le_refl _))
      have xt := Lib.hid (xt.out.below hb (Nat.le_refl _))
      have xy := Lib.hid (xy.out.below hb (Nat.le_refl _))
      clear hb hbN
      have y0 := xy.out.cell 0 rfl
      have y1 := xy.out.cell 1 rfl
      have y2 := xy.out.cell 2 rfl
      have y3 := xy.out.cell 3 rfl
      go_wp2
      go_ret
      exact ⟨rfl, hd.out⟩
    | true =>
      have hG := Lib.hid (hgb.1 rfl)
      have hz4 := good_size hG.out
      clear hgb
      by_cases hk0 : c.kind = 0
      · have hkk := Lib.hid hk0
        have hkd0 := hkd.out
        rw [hk0] at hkd0
        subst hkd0
        clear hk0 hrl hkd
        have hsz := Lib.hid (refSize_any ⟨0, rq, rn, rc, kq, kn, kc⟩ c w3 (hv.out _ hd.out) (by omega))
        obtain ⟨sz, hsze⟩ : ∃ n, sizeC c = n := ⟨_, rfl⟩
        rw [hsze] at hsz
        have hsze' := Lib.hid hsze
        rw [hsze] at hz4
        obtain ⟨fl, hfl⟩ := bool_of (c.kind ≠ 0 ∧ sizeC c = 4)
        have hfl' := Lib.hid hfl
        have hrf := Lib.hid (fun u (hu : Below w.heap.size w u) => refFull_any ⟨0, rq, rn, rc, kq, kn, kc⟩ c fl hfl u (hv.out _ hu) (by rw [hsze]; omega))
        obtain ⟨sm, hsm⟩ : ∃ q : Bool, decide ((sz : Int) ≤ 2) = q := ⟨_, rfl⟩
        have hsm' := Lib.hid hsm
        clear hfl hsze
        have b0 := bc.out.cell 0 rfl
        have b1 := bc.out.cell 1 rfl
        have b2 := bc.out.cell 2 rfl
        go_wp2_with fail
        refine hsz.out.mono ?_
        rintro e w4 ⟨rfl, hb⟩
        have hd := Lib.hid (below_step hb hd.out)
        have bc := Lib.hid (bc.out.below hb (Nat.le_refl _))
        have br := Lib.hid (br.out.below hb (Nat.le_refl _))
        clear hb hsz b0 b1 b2
        have hsc := sizeCont (.int .i64 0) (.slice rq rn rc) (.slice kq kn kc)
        go_wp2_with fail
        refine wp_region_held (S := fun y => Below w4.heap.size w4 y) (by kernel_rfl) ?_
        change wpAnyH _ _ _ _ _ _ _ _ (World.drew w4)
        refine wpF.held _ _ _ ?_ _ (below_drew w4)
        refine fx (i := 0) (dst := some 36) rfl rfl (fx_load 25 (.tmp 2) (fun y hy => run_loadVar_at Try.underlying25 rfl hsc _ (bc.out.below hy (Nat.le_refl _)).all)) ?_; go_frame
        refine fx (i := 1) (dst := some 37) (v := .bool fl) rfl rfl (fx_call (fun y hy => (hrf.out y (below_step hy hd.out)).mono fun e z h => ⟨h.1, below_step h.2 hy⟩)) ?_; go_frame
        refine fx (i := 2) (dst := some 38) (v := .pointer (some ⟨w.heap.size, 0, none⟩)) rfl rfl (fx_read (fun y hy => by go_simp)) ?_; go_frame
        refine fx (i := 3) (dst := some 39) (v := .int .i64 0) rfl rfl (fx_read (fun y hy => by have c0 := (bc.out.below hy (Nat.le_refl _)).cell 0 rfl; go_simp)) ?_; go_frame
        refine fx (i := 4) (dst := some 40) (v := .bool false) rfl rfl (fx_read (fun y hy => by go_simp)) ?_; go_frame
        refine fx (i := 5) (dst := some 41) (v := .bool false) rfl rfl (fx_read (fun y hy => by go_simp)) ?_; go_frame
        refine fx (i := 6) (dst := some 42) rfl rfl fx_off ?_; go_frame
        refine fx (i := 7) (dst := some 43) rfl rfl fx_off ?_; go_frame
        refine fx (i := 8) (dst := some 44) (v := .bool false) rfl rfl (fx_read (fun y hy => by go_simp)) ?_; go_frame
        refine fx (i := 9) (dst := some 7) (v := .bool fl) rfl rfl (fx_read (fun y hy => by go_simp)) ?_; go_frame
        refine fx (i := 10) (dst := some 8) (v := .bool false) rfl rfl (fx_read (fun y hy => by go_simp)) ?_; go_frame
        refine fx_done (fun w5 hy => ?_) (by kernel_rfl) _
        have hd := Lib.hid (below_step hy hd.out)
        have bc := Lib.hid (bc.out.below hy (Nat.le_refl _))
        have br := Lib.hid (br.out.below hy (Nat.le_refl _))
        clear hy hrf hsm hsc
        have hee1 : ((sz : Int) != sz) = false := by simp
        have hee2 : (fl != fl) = false := by simp
        have hee3 : (sm != sm) = false := by simp
        have b0 := bc.out.cell 0 rfl
        have b1 := bc.out.cell 1 rfl
        have b2 := bc.out.cell 2 rfl
        go_wp2_with fail
        refine (pSize_any ⟨0, rq, rn, rc, kq, kn, kc⟩ c w5 (hv.out _ hd.out) (sz : Int) ⟨fun _ => by rw [hsze'.out], fun h => absurd hG.out h⟩).mono ?_
        rintro e wa ⟨rfl, hb⟩
        have hd := Lib.hid (below_step hb hd.out)
        have bc := Lib.hid (bc.out.below hb (Nat.le_refl _))
        have br := Lib.hid (br.out.below hb (Nat.le_refl _))
        clear hb b0 b1 b2 
        have b0 := bc.out.cell 0 rfl
        have b1 := bc.out.cell 1 rfl
        have b2 := bc.out.cell 2 rfl
        go_wp2_with fail
        refine (full_any ⟨0, rq, rn, rc, kq, kn, kc⟩ c fl ⟨fun h => ⟨⟨hG.out, (hfl'.out.1 h).1⟩, (hfl'.out.1 h).2⟩, fun h => hfl'.out.2 ⟨h.1.2, h.2⟩⟩ wa (hv.out _ hd.out)).mono ?_
        rintro e wb ⟨rfl, hb⟩
        have hd := Lib.hid (below_step hb hd.out)
        have bc := Lib.hid (bc.out.below hb (Nat.le_refl _))
        have br := Lib.hid (br.out.below hb (Nat.le_refl _))
        clear hb b0 b1 b2 
        have b0 := bc.out.cell 0 rfl
        have b1 := bc.out.cell 1 rfl
        have b2 := bc.out.cell 2 rfl
        go_wp2_with fail
        refine (small_any ⟨0, rq, rn, rc, kq, kn, kc⟩ c false ⟨fun h => (by cases h), fun h => absurd hkk.out h.1.2⟩ wb (hv.out _ hd.out)).mono ?_
        rintro e wc ⟨rfl, hb⟩
        have hd := Lib.hid (below_step hb hd.out)
        have bc := Lib.hid (bc.out.below hb (Nat.le_refl _))
        have br := Lib.hid (br.out.below hb (Nat.le_refl _))
        clear hb b0 b1 b2 
        have b0 := bc.out.cell 0 rfl
        have b1 := bc.out.cell 1 rfl
        have b2 := bc.out.cell 2 rfl
        have r0 := br.out.cell 0 rfl
        have r1 := br.out.cell 1 rfl
        have r2 := br.out.cell 2 rfl
        have r3 := br.out.cell 3 rfl
        go_wp2_with fail
        refine (get_any ⟨0, rq, rn, rc, kq, kn, kc⟩ c t id wc (hv.out _ hd.out)).mono ?_
        rintro e wd ⟨⟨⟨ta, ia⟩, va, sa⟩, ea, rfl, hga, hoka, hb⟩
        have hd := Lib.hid (below_step hb hd.out)
        have bc := Lib.hid (bc.out.below hb (Nat.le_refl _))
        have br := Lib.hid (br.out.below hb (Nat.le_refl _))
        clear hb b0 b1 b2 r0 r1 r2 r3 
        unfold rowV
        have hga := Lib.hid hga
        clear hoka
        obtain ⟨y0, hy0⟩ : ∃ x, wd.alloc (.cells #[.int .i64 0, .int .u16 0, .int .i64 0, .string ⟨#[]⟩] 30) = x := ⟨_, rfl⟩
        have y0r := Lib.hid (one_row (xs := [.int .i64 0, .int .u16 0, .int .i64 0, .string ⟨#[]⟩]) hy0)
        have y0j := Lib.hid y0r.out.2.1
        have y0b := Lib.hid y0r.out.1
        clear y0r
        go_wp2_with (first
          | ((with_reducible refine wpList_store_at rfl 30 (.tmp 9) (.tmp 66) rfl (o := 0) (vs := [.int .i64 ta, .int .u16 ia, .int .i64 va, .string sa]) rfl rfl y0j.out (sizeRow ta ia va sa) (Nat.le_refl _) (row_one ta ia va sa) ?_)
             intro y0w h9 hg9
             have xa : Hid (Boxed y0w wd.heap.size [.int .i64 ta, .int .u16 ia, .int .i64 va, .string sa]) := RowV.boxed h9
             have y0q := Lib.hid (Gr.below hg9 y0b.out (Nat.le_refl _))
             have bc := Lib.hid (bc.out.below y0q.out (Nat.le_refl _))
             have br := Lib.hid (br.out.below y0q.out (Nat.le_refl _))
             have hd := Lib.hid (below_step y0q.out hd.out)
             have b0 := bc.out.cell 0 rfl
             have b1 := bc.out.cell 1 rfl
             have b2 := bc.out.cell 2 rfl
             have r0 := br.out.cell 0 rfl
             have r1 := br.out.cell 1 rfl
             have r2 := br.out.cell 2 rfl
             have r3 := br.out.cell 3 rfl
             clear h9 hg9 y0j y0b y0q))
        refine (put_any ⟨0, rq, rn, rc, kq, kn, kc⟩ c t id v s y0w (hv.out _ hd.out) hro'.out).mono ?_
        rintro e we ⟨⟨kp, rqp, rnp, rcp, kqp, knp, kcp⟩, dp, ep, rfl, hP, honp, hb⟩
        have hd := Lib.hid (below_step hb hd.out)
        have bc := Lib.hid (bc.out.below hb (Nat.le_refl _))
        have br := Lib.hid (br.out.below hb (Nat.le_refl _))
        have xa := Lib.hid (xa.out.below hb (Nat.le_refl _))
        have hP := Lib.hid hP
        have honp := Lib.hid honp
        simp only [CV.val]
        clear hb b0 b1 b2 r0 r1 r2 r3
        obtain ⟨y1, hy1⟩ : ∃ x, we.alloc (.cells #[.int .i64 0, .slice none 0 0, .slice none 0 0] 25) = x := ⟨_, rfl⟩
        have y1r := Lib.hid (one_row (xs := [.int .i64 0, .slice none 0 0, .slice none 0 0]) hy1)
        have y1j := Lib.hid y1r.out.2.1
        have y1b := Lib.hid y1r.out.1
        clear y1r
        go_wp2_with (first
          | ((with_reducible refine wpList_store_at rfl 25 (.tmp 11) (.tmp 72) rfl (o := 0) (vs := [.int .i64 kp, .slice rqp rnp rcp, .slice kqp knp kcp]) rfl rfl y1j.out (sizeCont (.int .i64 kp) (.slice rqp rnp rcp) (.slice kqp knp kcp)) (Nat.le_refl _) (cont_one _ _ _ _ _ _ _) ?_)
             intro y1w h9 hg9
             have xp : Hid (Boxed y1w we.heap.size [.int .i64 kp, .slice rqp rnp rcp, .slice kqp knp kcp]) := RowV.boxed h9
             have y1q := Lib.hid (Gr.below hg9 y1b.out (Nat.le_refl _))
             have bc := Lib.hid (bc.out.below y1q.out (Nat.le_refl _))
             have br := Lib.hid (br.out.below y1q.out (Nat.le_refl _))
             have xa := Lib.hid (xa.out.below y1q.out (Nat.le_refl _))
             have honp := Lib.hid (honp.out.below y1q.out (Nat.le_refl _))
             have hd := Lib.hid (below_step y1q.out hd.out)
             have b0 := bc.out.cell 0 rfl
             have b1 := bc.out.cell 1 rfl
             have b2 := bc.out.cell 2 rfl
             have r0 := br.out.cell 0 rfl
             have r1 := br.out.cell 1 rfl
             have r2 := br.out.cell 2 rfl
             have r3 := br.out.cell 3 rfl
             clear h9 hg9 y1j y1b y1q))
        refine (take_any ⟨0, rq, rn, rc, kq, kn, kc⟩ c t id y1w (hv.out _ hd.out)).mono ?_
        rintro e wf ⟨⟨kt, rqt, rnt, rct, kqt, knt, kct⟩, dt, ⟨⟨ty, iy⟩, vy, sy⟩, et, rfl, hT, hont, hokt, hb⟩
        have hd := Lib.hid (below_step hb hd.out)
        have bc := Lib.hid (bc.out.below hb (Nat.le_refl _))
        have br := Lib.hid (br.out.below hb (Nat.le_refl _))
        have xa := Lib.hid (xa.out.below hb (Nat.le_refl _))
        have honp := Lib.hid (honp.out.below hb (Nat.le_refl _))
        have xp := Lib.hid (xp.out.below hb (Nat.le_refl _))
        unfold rowV
        have hT := Lib.hid hT
        have hont := Lib.hid hont
        simp only [CV.val]
        clear hb hokt b0 b1 b2 r0 r1 r2 r3
        obtain ⟨y2, hy2⟩ : ∃ x, (wf.alloc (.cells #[.int .i64 0, .slice none 0 0, .slice none 0 0] 25)).alloc (.cells #[.int .i64 0, .int .u16 0, .int .i64 0, .string ⟨#[]⟩] 30) = x := ⟨_, rfl⟩
        have y2r := Lib.hid (two_rows (xs := [.int .i64 0, .slice none 0 0, .slice none 0 0]) (ys := [.int .i64 0, .int .u16 0, .int .i64 0, .string ⟨#[]⟩]) hy2)
        have y2j := Lib.hid y2r.out.2.1
        have y2k := Lib.hid y2r.out.2.2.1
        have y2b := Lib.hid y2r.out.1
        clear y2r
        have hN := kind_other hG.out (by rw [hkk.out]; decide)
        obtain ⟨rfl, hza⟩ := GetR.no hga.out hN (by decide)
        obtain ⟨rfl, rfl⟩ := PutR.no hP.out hN (by decide)
        obtain ⟨rfl, rfl, hzy⟩ := TakeR.nothing hT.out hN (by decide)
        have her := fun u => eql_row u ta ia va sa 0 0 0 ⟨#[]⟩
        have hRa : eqR ⟨⟨ta, ia⟩, va, sa⟩ ⟨⟨0, 0⟩, 0, ⟨#[]⟩⟩ = true := eqR_iff.2 hza
        rw [hRa] at her
        have hey := fun u => eql_row u ty iy vy sy 0 0 0 ⟨#[]⟩
        have hRy : eqR ⟨⟨ty, iy⟩, vy, sy⟩ ⟨⟨0, 0⟩, 0, ⟨#[]⟩⟩ = true := eqR_iff.2 hzy
        rw [hRy] at hey
        clear hga hP hT hza hzy hRa hRy hN
        go_wp2_with (first
          | ((with_reducible refine wpList_store_at rfl 25 (.tmp 13) (.tmp 79) rfl (o := 0) (vs := [.int .i64 kt, .slice rqt rnt rct, .slice kqt knt kct]) rfl rfl y2j.out (sizeCont (.int .i64 kt) (.slice rqt rnt rct) (.slice kqt knt kct)) (Nat.le_refl _) (cont_one _ _ _ _ _ _ _) ?_)
             intro y2v h9 hg9
             have xt : Hid (Boxed y2v wf.heap.size [.int .i64 kt, .slice rqt rnt rct, .slice kqt knt kct]) := RowV.boxed h9
             have y2k := Lib.hid (RowV.gr y2k.out hg9 (by omega))
             have y2b := Lib.hid (Gr.below hg9 y2b.out (Nat.le_refl _))
             clear h9 hg9 y2j)
          | ((with_reducible refine wpList_store_at rfl 30 (.tmp 14) (.tmp 80) rfl (o := 0) (vs := [.int .i64 ty, .int .u16 iy, .int .i64 vy, .string sy]) rfl rfl y2k.out (sizeRow ty iy vy sy) (Nat.le_refl _) (row_one ty iy vy sy) ?_)
             intro y2w h9 hg9
             have xy : Hid (Boxed y2w (wf.heap.size + 1) [.int .i64 ty, .int .u16 iy, .int .i64 vy, .string sy]) := RowV.boxed h9
             have xt := Lib.hid (xt.out.gr hg9 (by omega))
             have y2q := Lib.hid (Gr.below hg9 y2b.out (by omega))
             have bc := Lib.hid (bc.out.below y2q.out (Nat.le_refl _))
             have br := Lib.hid (br.out.below y2q.out (Nat.le_refl _))
             have xa := Lib.hid (xa.out.below y2q.out (Nat.le_refl _))
             have honp := Lib.hid (honp.out.below y2q.out (Nat.le_refl _))
             have xp := Lib.hid (xp.out.below y2q.out (Nat.le_refl _))
             have hont := Lib.hid (hont.out.below y2q.out (Nat.le_refl _))
             have hd := Lib.hid (below_step y2q.out hd.out)
             have b0 := bc.out.cell 0 rfl
             have b1 := bc.out.cell 1 rfl
             have b2 := bc.out.cell 2 rfl
             have a0 := xa.out.cell 0 rfl
             have a1 := xa.out.cell 1 rfl
             have a2 := xa.out.cell 2 rfl
             have a3 := xa.out.cell 3 rfl
             have p0 := xp.out.cell 0 rfl
             have p1 := xp.out.cell 1 rfl
             have p2 := xp.out.cell 2 rfl
             have u0 := xt.out.cell 0 rfl
             have u1 := xt.out.cell 1 rfl
             have u2 := xt.out.cell 2 rfl
             obtain ⟨wN, hwN⟩ : ∃ x, y2w.alloc (.cells #[.int .i64 kp, .slice rqp rnp rcp, .slice kqp knp kcp, .int .i64 kt, .slice rqt rnt rct, .slice kqt knt kct] 25) = x := ⟨_, rfl⟩
             have hbN := Lib.hid (one_box (xs := [.int .i64 kp, .slice rqp rnp rcp, .slice kqp knp kcp, .int .i64 kt, .slice rqt rnt rct, .slice kqt knt kct]) hwN)
             clear h9 hg9 y2k y2b y2q))
        clear b0 b1 b2 a0 a1 a2 a3 p0 p1 p2 u0 u1 u2
        have hno := none_any 2 y2w.heap.size wN (by decide) (fun j hj => by
          have hb := hbN.out.2.1
          match j, hj with
          | 0, _ => exact ⟨⟨kp, rqp, rnp, rcp, kqp, knp, kcp⟩, honp.out.below hbN.out.1 (Nat.le_refl _), fun i x hx => by
              rw [show ((⟨y2w.heap.size, 0 * 3, none⟩ : Addr).add i) = ⟨y2w.heap.size, 0 + i, none⟩ by unfold Addr.add; split <;> simp_all]
              match i, hx with
              | 0, hx => cases hx; exact hb.cell 0 rfl
              | 1, hx => cases hx; exact hb.cell 1 rfl
              | 2, hx => cases hx; exact hb.cell 2 rfl
              | i + 3, hx => simp at hx⟩
          | 1, _ => exact ⟨⟨kt, rqt, rnt, rct, kqt, knt, kct⟩, hont.out.below hbN.out.1 (Nat.le_refl _), fun i x hx => by
              rw [show ((⟨y2w.heap.size, 1 * 3, none⟩ : Addr).add i) = ⟨y2w.heap.size, 3 + i, none⟩ by unfold Addr.add; split <;> simp_all]
              match i, hx with
              | 0, hx => cases hx; exact hb.cell 3 rfl
              | 1, hx => cases hx; exact hb.cell 4 rfl
              | 2, hx => cases hx; exact hb.cell 5 rfl
              | i + 3, hx => simp at hx⟩
          | j + 2, hj => omega)
        have hd := Lib.hid (below_step hbN.out.1 hd.out)
        have bc := Lib.hid (bc.out.below hbN.out.1 (Nat.le_refl _))
        have br := Lib.hid (br.out.below hbN.out.1 (Nat.le_refl _))
        have xa := Lib.hid (xa.out.below hbN.out.1 (Nat.le_refl _))
        have honp := Lib.hid (honp.out.below hbN.out.1 (Nat.le_refl _))
        have xp := Lib.hid (xp.out.below hbN.out.1 (Nat.le_refl _))
        have hont := Lib.hid (hont.out.below hbN.out.1 (Nat.le_refl _))
        have xt := Lib.hid (xt.out.below hbN.out.1 (Nat.le_refl _))
        have xy := Lib.hid (xy.out.below hbN.out.1 (Nat.le_refl _))
        refine hno.mono ?_
        clear hno hwN
        rintro e wz ⟨rfl, hb⟩
        have hd := Lib.hid (below_step hb hd.out)
        have bc := Lib.hid (bc.out.below hb (Nat.le_refl _))
        have br := Lib.hid (br.out.below hb (Nat.le_refl _))
        have xa := Lib.hid (xa.out.below hb (Nat.le_refl _))
        have honp := Lib.hid (honp.out.below hb (Nat.le_refl _))
        have xp := Lib.hid (xp.out.below hb (Nat.le_refl _))
        have hont := Lib.hid (hont.out.below hb (Nat.le_refl _))
        have xt := Lib.hid (xt.out.below hb (Nat.le_refl _))
        have xy := Lib.hid (xy.out.below hb (Nat.le_refl _))
        clear hb hbN
        have y0 := xy.out.cell 0 rfl
        have y1 := xy.out.cell 1 rfl
        have y2 := xy.out.cell 2 rfl
        have y3 := xy.out.cell 3 rfl
        go_wp2
        go_ret
        exact ⟨rfl, hd.out⟩
      by_cases hk2 : c.kind = 2
      · have hkk := Lib.hid hk2
        have hkd0 := hkd.out
        rw [hk2] at hkd0
        subst hkd0
        clear hk2 hrl hkd
        have hsz := Lib.hid (refSize_any ⟨2, rq, rn, rc, kq, kn, kc⟩ c w3 (hv.out _ hd.out) (by omega))
        obtain ⟨sz, hsze⟩ : ∃ n, sizeC c = n := ⟨_, rfl⟩
        rw [hsze] at hsz
        have hsze' := Lib.hid hsze
        rw [hsze] at hz4
        obtain ⟨fl, hfl⟩ := bool_of (c.kind ≠ 0 ∧ sizeC c = 4)
        have hfl' := Lib.hid hfl
        have hrf := Lib.hid (fun u (hu : Below w.heap.size w u) => refFull_any ⟨2, rq, rn, rc, kq, kn, kc⟩ c fl hfl u (hv.out _ hu) (by rw [hsze]; omega))
        obtain ⟨sm, hsm⟩ : ∃ q : Bool, decide ((sz : Int) ≤ 2) = q := ⟨_, rfl⟩
        have hsm' := Lib.hid hsm
        clear hfl hsze
        have b0 := bc.out.cell 0 rfl
        have b1 := bc.out.cell 1 rfl
        have b2 := bc.out.cell 2 rfl
        go_wp2_with fail
        refine hsz.out.mono ?_
        rintro e w4 ⟨rfl, hb⟩
        have hd := Lib.hid (below_step hb hd.out)
        have bc := Lib.hid (bc.out.below hb (Nat.le_refl _))
        have br := Lib.hid (br.out.below hb (Nat.le_refl _))
        clear hb hsz b0 b1 b2
        have hsc := sizeCont (.int .i64 2) (.slice rq rn rc) (.slice kq kn kc)
        go_wp2_with fail
        refine wp_region_held (S := fun y => Below w4.heap.size w4 y) (by kernel_rfl) ?_
        change wpAnyH _ _ _ _ _ _ _ _ (World.drew w4)
        refine wpF.held _ _ _ ?_ _ (below_drew w4)
        refine fx (i := 0) (dst := some 36) rfl rfl (fx_load 25 (.tmp 2) (fun y hy => run_loadVar_at Try.underlying25 rfl hsc _ (bc.out.below hy (Nat.le_refl _)).all)) ?_; go_frame
        refine fx (i := 1) (dst := some 37) (v := .bool fl) rfl rfl (fx_call (fun y hy => (hrf.out y (below_step hy hd.out)).mono fun e z h => ⟨h.1, below_step h.2 hy⟩)) ?_; go_frame
        refine fx (i := 2) (dst := some 38) (v := .pointer (some ⟨w.heap.size, 0, none⟩)) rfl rfl (fx_read (fun y hy => by go_simp)) ?_; go_frame
        refine fx (i := 3) (dst := some 39) (v := .int .i64 2) rfl rfl (fx_read (fun y hy => by have c0 := (bc.out.below hy (Nat.le_refl _)).cell 0 rfl; go_simp)) ?_; go_frame
        refine fx (i := 4) (dst := some 40) (v := .bool true) rfl rfl (fx_read (fun y hy => by go_simp)) ?_; go_frame
        refine fx (i := 5) (dst := some 41) (v := .bool true) rfl rfl (fx_read (fun y hy => by go_simp)) ?_; go_frame
        refine fx (i := 6) (dst := some 42) (v := .int .i64 (sz : Int)) rfl rfl (fx_read (fun y hy => by go_simp)) ?_; go_frame
        refine fx (i := 7) (dst := some 43) (v := .bool sm) rfl rfl (fx_read (fun y hy => by go_simp)) ?_; go_frame
        refine fx (i := 8) (dst := some 44) (v := .bool sm) rfl rfl (fx_read (fun y hy => by go_simp)) ?_; go_frame
        refine fx (i := 9) (dst := some 7) (v := .bool fl) rfl rfl (fx_read (fun y hy => by go_simp)) ?_; go_frame
        refine fx (i := 10) (dst := some 8) (v := .bool sm) rfl rfl (fx_read (fun y hy => by go_simp)) ?_; go_frame
        refine fx_done (fun w5 hy => ?_) (by kernel_rfl) _
        have hd := Lib.hid (below_step hy hd.out)
        have bc := Lib.hid (bc.out.below hy (Nat.le_refl _))
        have br := Lib.hid (br.out.below hy (Nat.le_refl _))
        clear hy hrf hsm hsc
        have hee1 : ((sz : Int) != sz) = false := by simp
        have hee2 : (fl != fl) = false := by simp
        have hee3 : (sm != sm) = false := by simp
        have b0 := bc.out.cell 0 rfl
        have b1 := bc.out.cell 1 rfl
        have b2 := bc.out.cell 2 rfl
        go_wp2_with fail
        refine (pSize_any ⟨2, rq, rn, rc, kq, kn, kc⟩ c w5 (hv.out _ hd.out) (sz : Int) ⟨fun _ => by rw [hsze'.out], fun h => absurd hG.out h⟩).mono ?_
        rintro e wa ⟨rfl, hb⟩
        have hd := Lib.hid (below_step hb hd.out)
        have bc := Lib.hid (bc.out.below hb (Nat.le_refl _))
        have br := Lib.hid (br.out.below hb (Nat.le_refl _))
        clear hb b0 b1 b2 
        have b0 := bc.out.cell 0 rfl
        have b1 := bc.out.cell 1 rfl
        have b2 := bc.out.cell 2 rfl
        go_wp2_with fail
        refine (full_any ⟨2, rq, rn, rc, kq, kn, kc⟩ c fl ⟨fun h => ⟨⟨hG.out, (hfl'.out.1 h).1⟩, (hfl'.out.1 h).2⟩, fun h => hfl'.out.2 ⟨h.1.2, h.2⟩⟩ wa (hv.out _ hd.out)).mono ?_
        rintro e wb ⟨rfl, hb⟩
        have hd := Lib.hid (below_step hb hd.out)
        have bc := Lib.hid (bc.out.below hb (Nat.le_refl _))
        have br := Lib.hid (br.out.below hb (Nat.le_refl _))
        clear hb b0 b1 b2 
        have b0 := bc.out.cell 0 rfl
        have b1 := bc.out.cell 1 rfl
        have b2 := bc.out.cell 2 rfl
        go_wp2_with fail
        refine (small_any ⟨2, rq, rn, rc, kq, kn, kc⟩ c sm ⟨fun h => ⟨⟨hG.out, by rw [hkk.out]; decide⟩, by rw [hsze'.out]; have := of_decide_eq_true (hsm'.out.trans h); omega⟩, fun h => by rw [← hsm'.out]; exact decide_eq_true (by have := h.2; rw [hsze'.out] at this; omega)⟩ wb (hv.out _ hd.out)).mono ?_
        rintro e wc ⟨rfl, hb⟩
        have hd := Lib.hid (below_step hb hd.out)
        have bc := Lib.hid (bc.out.below hb (Nat.le_refl _))
        have br := Lib.hid (br.out.below hb (Nat.le_refl _))
        clear hb b0 b1 b2 
        have b0 := bc.out.cell 0 rfl
        have b1 := bc.out.cell 1 rfl
        have b2 := bc.out.cell 2 rfl
        have r0 := br.out.cell 0 rfl
        have r1 := br.out.cell 1 rfl
        have r2 := br.out.cell 2 rfl
        have r3 := br.out.cell 3 rfl
        go_wp2_with fail
        refine (get_any ⟨2, rq, rn, rc, kq, kn, kc⟩ c t id wc (hv.out _ hd.out)).mono ?_
        rintro e wd ⟨⟨⟨ta, ia⟩, va, sa⟩, ea, rfl, hga, hoka, hb⟩
        have hd := Lib.hid (below_step hb hd.out)
        have bc := Lib.hid (bc.out.below hb (Nat.le_refl _))
        have br := Lib.hid (br.out.below hb (Nat.le_refl _))
        clear hb b0 b1 b2 r0 r1 r2 r3 
        unfold rowV
        have hga := Lib.hid hga
        clear hoka
        obtain ⟨y0, hy0⟩ : ∃ x, wd.alloc (.cells #[.int .i64 0, .int .u16 0, .int .i64 0, .string ⟨#[]⟩] 30) = x := ⟨_, rfl⟩
        have y0r := Lib.hid (one_row (xs := [.int .i64 0, .int .u16 0, .int .i64 0, .string ⟨#[]⟩]) hy0)
        have y0j := Lib.hid y0r.out.2.1
        have y0b := Lib.hid y0r.out.1
        clear y0r
        go_wp2_with (first
          | ((with_reducible refine wpList_store_at rfl 30 (.tmp 9) (.tmp 66) rfl (o := 0) (vs := [.int .i64 ta, .int .u16 ia, .int .i64 va, .string sa]) rfl rfl y0j.out (sizeRow ta ia va sa) (Nat.le_refl _) (row_one ta ia va sa) ?_)
             intro y0w h9 hg9
             have xa : Hid (Boxed y0w wd.heap.size [.int .i64 ta, .int .u16 ia, .int .i64 va, .string sa]) := RowV.boxed h9
             have y0q := Lib.hid (Gr.below hg9 y0b.out (Nat.le_refl _))
             have bc := Lib.hid (bc.out.below y0q.out (Nat.le_refl _))
             have br := Lib.hid (br.out.below y0q.out (Nat.le_refl _))
             have hd := Lib.hid (below_step y0q.out hd.out)
             have b0 := bc.out.cell 0 rfl
             have b1 := bc.out.cell 1 rfl
             have b2 := bc.out.cell 2 rfl
             have r0 := br.out.cell 0 rfl
             have r1 := br.out.cell 1 rfl
             have r2 := br.out.cell 2 rfl
             have r3 := br.out.cell 3 rfl
             clear h9 hg9 y0j y0b y0q))
        refine (put_any ⟨2, rq, rn, rc, kq, kn, kc⟩ c t id v s y0w (hv.out _ hd.out) hro'.out).mono ?_
        rintro e we ⟨⟨kp, rqp, rnp, rcp, kqp, knp, kcp⟩, dp, ep, rfl, hP, honp, hb⟩
        have hd := Lib.hid (below_step hb hd.out)
        have bc := Lib.hid (bc.out.below hb (Nat.le_refl _))
        have br := Lib.hid (br.out.below hb (Nat.le_refl _))
        have xa := Lib.hid (xa.out.below hb (Nat.le_refl _))
        have hP := Lib.hid hP
        have honp := Lib.hid honp
        simp only [CV.val]
        clear hb b0 b1 b2 r0 r1 r2 r3
        obtain ⟨y1, hy1⟩ : ∃ x, we.alloc (.cells #[.int .i64 0, .slice none 0 0, .slice none 0 0] 25) = x := ⟨_, rfl⟩
        have y1r := Lib.hid (one_row (xs := [.int .i64 0, .slice none 0 0, .slice none 0 0]) hy1)
        have y1j := Lib.hid y1r.out.2.1
        have y1b := Lib.hid y1r.out.1
        clear y1r
        go_wp2_with (first
          | ((with_reducible refine wpList_store_at rfl 25 (.tmp 11) (.tmp 72) rfl (o := 0) (vs := [.int .i64 kp, .slice rqp rnp rcp, .slice kqp knp kcp]) rfl rfl y1j.out (sizeCont (.int .i64 kp) (.slice rqp rnp rcp) (.slice kqp knp kcp)) (Nat.le_refl _) (cont_one _ _ _ _ _ _ _) ?_)
             intro y1w h9 hg9
             have xp : Hid (Boxed y1w we.heap.size [.int .i64 kp, .slice rqp rnp rcp, .slice kqp knp kcp]) := RowV.boxed h9
             have y1q := Lib.hid (Gr.below hg9 y1b.out (Nat.le_refl _))
             have bc := Lib.hid (bc.out.below y1q.out (Nat.le_refl _))
             have br := Lib.hid (br.out.below y1q.out (Nat.le_refl _))
             have xa := Lib.hid (xa.out.below y1q.out (Nat.le_refl _))
             have honp := Lib.hid (honp.out.below y1q.out (Nat.le_refl _))
             have hd := Lib.hid (below_step y1q.out hd.out)
             have b0 := bc.out.cell 0 rfl
             have b1 := bc.out.cell 1 rfl
             have b2 := bc.out.cell 2 rfl
             have r0 := br.out.cell 0 rfl
             have r1 := br.out.cell 1 rfl
             have r2 := br.out.cell 2 rfl
             have r3 := br.out.cell 3 rfl
             clear h9 hg9 y1j y1b y1q))
        refine (take_any ⟨2, rq, rn, rc, kq, kn, kc⟩ c t id y1w (hv.out _ hd.out)).mono ?_
        rintro e wf ⟨⟨kt, rqt, rnt, rct, kqt, knt, kct⟩, dt, ⟨⟨ty, iy⟩, vy, sy⟩, et, rfl, hT, hont, hokt, hb⟩
        have hd := Lib.hid (below_step hb hd.out)
        have bc := Lib.hid (bc.out.below hb (Nat.le_refl _))
        have br := Lib.hid (br.out.below hb (Nat.le_refl _))
        have xa := Lib.hid (xa.out.below hb (Nat.le_refl _))
        have honp := Lib.hid (honp.out.below hb (Nat.le_refl _))
        have xp := Lib.hid (xp.out.below hb (Nat.le_refl _))
        unfold rowV
        have hT := Lib.hid hT
        have hont := Lib.hid hont
        simp only [CV.val]
        clear hb hokt b0 b1 b2 r0 r1 r2 r3
        obtain ⟨y2, hy2⟩ : ∃ x, (wf.alloc (.cells #[.int .i64 0, .slice none 0 0, .slice none 0 0] 25)).alloc (.cells #[.int .i64 0, .int .u16 0, .int .i64 0, .string ⟨#[]⟩] 30) = x := ⟨_, rfl⟩
        have y2r := Lib.hid (two_rows (xs := [.int .i64 0, .slice none 0 0, .slice none 0 0]) (ys := [.int .i64 0, .int .u16 0, .int .i64 0, .string ⟨#[]⟩]) hy2)
        have y2j := Lib.hid y2r.out.2.1
        have y2k := Lib.hid y2r.out.2.2.1
        have y2b := Lib.hid y2r.out.1
        clear y2r
        have hN := kind_other hG.out (by rw [hkk.out]; decide)
        obtain ⟨rfl, hza⟩ := GetR.no hga.out hN (by decide)
        obtain ⟨rfl, rfl⟩ := PutR.no hP.out hN (by decide)
        obtain ⟨rfl, rfl, hzy⟩ := TakeR.nothing hT.out hN (by decide)
        have her := fun u => eql_row u ta ia va sa 0 0 0 ⟨#[]⟩
        have hRa : eqR ⟨⟨ta, ia⟩, va, sa⟩ ⟨⟨0, 0⟩, 0, ⟨#[]⟩⟩ = true := eqR_iff.2 hza
        rw [hRa] at her
        have hey := fun u => eql_row u ty iy vy sy 0 0 0 ⟨#[]⟩
        have hRy : eqR ⟨⟨ty, iy⟩, vy, sy⟩ ⟨⟨0, 0⟩, 0, ⟨#[]⟩⟩ = true := eqR_iff.2 hzy
        rw [hRy] at hey
        clear hga hP hT hza hzy hRa hRy hN
        go_wp2_with (first
          | ((with_reducible refine wpList_store_at rfl 25 (.tmp 13) (.tmp 79) rfl (o := 0) (vs := [.int .i64 kt, .slice rqt rnt rct, .slice kqt knt kct]) rfl rfl y2j.out (sizeCont (.int .i64 kt) (.slice rqt rnt rct) (.slice kqt knt kct)) (Nat.le_refl _) (cont_one _ _ _ _ _ _ _) ?_)
             intro y2v h9 hg9
             have xt : Hid (Boxed y2v wf.heap.size [.int .i64 kt, .slice rqt rnt rct, .slice kqt knt kct]) := RowV.boxed h9
             have y2k := Lib.hid (RowV.gr y2k.out hg9 (by omega))
             have y2b := Lib.hid (Gr.below hg9 y2b.out (Nat.le_refl _))
             clear h9 hg9 y2j)
          | ((with_reducible refine wpList_store_at rfl 30 (.tmp 14) (.tmp 80) rfl (o := 0) (vs := [.int .i64 ty, .int .u16 iy, .int .i64 vy, .string sy]) rfl rfl y2k.out (sizeRow ty iy vy sy) (Nat.le_refl _) (row_one ty iy vy sy) ?_)
             intro y2w h9 hg9
             have xy : Hid (Boxed y2w (wf.heap.size + 1) [.int .i64 ty, .int .u16 iy, .int .i64 vy, .string sy]) := RowV.boxed h9
             have xt := Lib.hid (xt.out.gr hg9 (by omega))
             have y2q := Lib.hid (Gr.below hg9 y2b.out (by omega))
             have bc := Lib.hid (bc.out.below y2q.out (Nat.le_refl _))
             have br := Lib.hid (br.out.below y2q.out (Nat.le_refl _))
             have xa := Lib.hid (xa.out.below y2q.out (Nat.le_refl _))
             have honp := Lib.hid (honp.out.below y2q.out (Nat.le_refl _))
             have xp := Lib.hid (xp.out.below y2q.out (Nat.le_refl _))
             have hont := Lib.hid (hont.out.below y2q.out (Nat.le_refl _))
             have hd := Lib.hid (below_step y2q.out hd.out)
             have b0 := bc.out.cell 0 rfl
             have b1 := bc.out.cell 1 rfl
             have b2 := bc.out.cell 2 rfl
             have a0 := xa.out.cell 0 rfl
             have a1 := xa.out.cell 1 rfl
             have a2 := xa.out.cell 2 rfl
             have a3 := xa.out.cell 3 rfl
             have p0 := xp.out.cell 0 rfl
             have p1 := xp.out.cell 1 rfl
             have p2 := xp.out.cell 2 rfl
             have u0 := xt.out.cell 0 rfl
             have u1 := xt.out.cell 1 rfl
             have u2 := xt.out.cell 2 rfl
             obtain ⟨wN, hwN⟩ : ∃ x, y2w.alloc (.cells #[.int .i64 kp, .slice rqp rnp rcp, .slice kqp knp kcp, .int .i64 kt, .slice rqt rnt rct, .slice kqt knt kct] 25) = x := ⟨_, rfl⟩
             have hbN := Lib.hid (one_box (xs := [.int .i64 kp, .slice rqp rnp rcp, .slice kqp knp kcp, .int .i64 kt, .slice rqt rnt rct, .slice kqt knt kct]) hwN)
             clear h9 hg9 y2k y2b y2q))
        clear b0 b1 b2 a0 a1 a2 a3 p0 p1 p2 u0 u1 u2
        have hno := none_any 2 y2w.heap.size wN (by decide) (fun j hj => by
          have hb := hbN.out.2.1
          match j, hj with
          | 0, _ => exact ⟨⟨kp, rqp, rnp, rcp, kqp, knp, kcp⟩, honp.out.below hbN.out.1 (Nat.le_refl _), fun i x hx => by
              rw [show ((⟨y2w.heap.size, 0 * 3, none⟩ : Addr).add i) = ⟨y2w.heap.size, 0 + i, none⟩ by unfold Addr.add; split <;> simp_all]
              match i, hx with
              | 0, hx => cases hx; exact hb.cell 0 rfl
              | 1, hx => cases hx; exact hb.cell 1 rfl
              | 2, hx => cases hx; exact hb.cell 2 rfl
              | i + 3, hx => simp at hx⟩
          | 1, _ => exact ⟨⟨kt, rqt, rnt, rct, kqt, knt, kct⟩, hont.out.below hbN.out.1 (Nat.le_refl _), fun i x hx => by
              rw [show ((⟨y2w.heap.size, 1 * 3, none⟩ : Addr).add i) = ⟨y2w.heap.size, 3 + i, none⟩ by unfold Addr.add; split <;> simp_all]
              match i, hx with
              | 0, hx => cases hx; exact hb.cell 3 rfl
              | 1, hx => cases hx; exact hb.cell 4 rfl
              | 2, hx => cases hx; exact hb.cell 5 rfl
              | i + 3, hx => simp at hx⟩
          | j + 2, hj => omega)
        have hd := Lib.hid (below_step hbN.out.1 hd.out)
        have bc := Lib.hid (bc.out.below hbN.out.1 (Nat.le_refl _))
        have br := Lib.hid (br.out.below hbN.out.1 (Nat.le_refl _))
        have xa := Lib.hid (xa.out.below hbN.out.1 (Nat.le_refl _))
        have honp := Lib.hid (honp.out.below hbN.out.1 (Nat.le_refl _))
        have xp := Lib.hid (xp.out.below hbN.out.1 (Nat.le_refl _))
        have hont := Lib.hid (hont.out.below hbN.out.1 (Nat.le_refl _))
        have xt := Lib.hid (xt.out.below hbN.out.1 (Nat.le_refl _))
        have xy := Lib.hid (xy.out.below hbN.out.1 (Nat.le_refl _))
        refine hno.mono ?_
        clear hno hwN
        rintro e wz ⟨rfl, hb⟩
        have hd := Lib.hid (below_step hb hd.out)
        have bc := Lib.hid (bc.out.below hb (Nat.le_refl _))
        have br := Lib.hid (br.out.below hb (Nat.le_refl _))
        have xa := Lib.hid (xa.out.below hb (Nat.le_refl _))
        have honp := Lib.hid (honp.out.below hb (Nat.le_refl _))
        have xp := Lib.hid (xp.out.below hb (Nat.le_refl _))
        have hont := Lib.hid (hont.out.below hb (Nat.le_refl _))
        have xt := Lib.hid (xt.out.below hb (Nat.le_refl _))
        have xy := Lib.hid (xy.out.below hb (Nat.le_refl _))
        clear hb hbN
        have y0 := xy.out.cell 0 rfl
        have y1 := xy.out.cell 1 rfl
        have y2 := xy.out.cell 2 rfl
        have y3 := xy.out.cell 3 rfl
        go_wp2
        go_ret
        exact ⟨rfl, hd.out⟩
      have hk1 : c.kind = 1 := by rcases good_kind hG.out with h | h | h
                                  · exact absurd h hk0
                                  · exact h
                                  · exact absurd h hk2
      have hkk := Lib.hid hk1
      have hkd0 := hkd.out
      rw [hk1] at hkd0
      subst hkd0
      clear hk1 hk0 hk2 hkd
      have hsz := Lib.hid (refSize_any ⟨1, rq, rn, rc, kq, kn, kc⟩ c w3 (hv.out _ hd.out) (by omega))
      obtain ⟨sz, hsze⟩ : ∃ n, sizeC c = n := ⟨_, rfl⟩
      rw [hsze] at hsz
      have hsze' := Lib.hid hsze
      rw [hsze] at hz4
      obtain ⟨fl, hfl⟩ := bool_of (c.kind ≠ 0 ∧ sizeC c = 4)
      have hfl' := Lib.hid hfl
      have hrf := Lib.hid (fun u (hu : Below w.heap.size w u) => refFull_any ⟨1, rq, rn, rc, kq, kn, kc⟩ c fl hfl u (hv.out _ hu) (by rw [hsze]; omega))
      obtain ⟨sm, hsm⟩ : ∃ q : Bool, decide ((sz : Int) ≤ 2) = q := ⟨_, rfl⟩
      have hsm' := Lib.hid hsm
      clear hfl hsze
      have b0 := bc.out.cell 0 rfl
      have b1 := bc.out.cell 1 rfl
      have b2 := bc.out.cell 2 rfl
      go_wp2_with fail
      refine hsz.out.mono ?_
      rintro e w4 ⟨rfl, hb⟩
      have hd := Lib.hid (below_step hb hd.out)
      have bc := Lib.hid (bc.out.below hb (Nat.le_refl _))
      have br := Lib.hid (br.out.below hb (Nat.le_refl _))
      clear hb hsz b0 b1 b2
      have hsc := sizeCont (.int .i64 1) (.slice rq rn rc) (.slice kq kn kc)
      go_wp2_with fail
      refine wp_region_held (S := fun y => Below w4.heap.size w4 y) (by kernel_rfl) ?_
      change wpAnyH _ _ _ _ _ _ _ _ (World.drew w4)
      refine wpF.held _ _ _ ?_ _ (below_drew w4)
      refine fx (i := 0) (dst := some 36) rfl rfl (fx_load 25 (.tmp 2) (fun y hy => run_loadVar_at Try.underlying25 rfl hsc _ (bc.out.below hy (Nat.le_refl _)).all)) ?_; go_frame
      refine fx (i := 1) (dst := some 37) (v := .bool fl) rfl rfl (fx_call (fun y hy => (hrf.out y (below_step hy hd.out)).mono fun e z h => ⟨h.1, below_step h.2 hy⟩)) ?_; go_frame
      refine fx (i := 2) (dst := some 38) (v := .pointer (some ⟨w.heap.size, 0, none⟩)) rfl rfl (fx_read (fun y hy => by go_simp)) ?_; go_frame
      refine fx (i := 3) (dst := some 39) (v := .int .i64 1) rfl rfl (fx_read (fun y hy => by have c0 := (bc.out.below hy (Nat.le_refl _)).cell 0 rfl; go_simp)) ?_; go_frame
      refine fx (i := 4) (dst := some 40) (v := .bool true) rfl rfl (fx_read (fun y hy => by go_simp)) ?_; go_frame
      refine fx (i := 5) (dst := some 41) (v := .bool true) rfl rfl (fx_read (fun y hy => by go_simp)) ?_; go_frame
      refine fx (i := 6) (dst := some 42) (v := .int .i64 (sz : Int)) rfl rfl (fx_read (fun y hy => by go_simp)) ?_; go_frame
      refine fx (i := 7) (dst := some 43) (v := .bool sm) rfl rfl (fx_read (fun y hy => by go_simp)) ?_; go_frame
      refine fx (i := 8) (dst := some 44) (v := .bool sm) rfl rfl (fx_read (fun y hy => by go_simp)) ?_; go_frame
      refine fx (i := 9) (dst := some 7) (v := .bool fl) rfl rfl (fx_read (fun y hy => by go_simp)) ?_; go_frame
      refine fx (i := 10) (dst := some 8) (v := .bool sm) rfl rfl (fx_read (fun y hy => by go_simp)) ?_; go_frame
      refine fx_done (fun w5 hy => ?_) (by kernel_rfl) _
      have hd := Lib.hid (below_step hy hd.out)
      have bc := Lib.hid (bc.out.below hy (Nat.le_refl _))
      have br := Lib.hid (br.out.below hy (Nat.le_refl _))
      clear hy hrf hsm hsc
      have hee1 : ((sz : Int) != sz) = false := by simp
      have hee2 : (fl != fl) = false := by simp
      have hee3 : (sm != sm) = false := by simp
      have b0 := bc.out.cell 0 rfl
      have b1 := bc.out.cell 1 rfl
      have b2 := bc.out.cell 2 rfl
      go_wp2_with fail
      refine (pSize_any ⟨1, rq, rn, rc, kq, kn, kc⟩ c w5 (hv.out _ hd.out) (sz : Int) ⟨fun _ => by rw [hsze'.out], fun h => absurd hG.out h⟩).mono ?_
      rintro e wa ⟨rfl, hb⟩
      have hd := Lib.hid (below_step hb hd.out)
      have bc := Lib.hid (bc.out.below hb (Nat.le_refl _))
      have br := Lib.hid (br.out.below hb (Nat.le_refl _))
      clear hb b0 b1 b2 
      have b0 := bc.out.cell 0 rfl
      have b1 := bc.out.cell 1 rfl
      have b2 := bc.out.cell 2 rfl
      go_wp2_with fail
      refine (full_any ⟨1, rq, rn, rc, kq, kn, kc⟩ c fl ⟨fun h => ⟨⟨hG.out, (hfl'.out.1 h).1⟩, (hfl'.out.1 h).2⟩, fun h => hfl'.out.2 ⟨h.1.2, h.2⟩⟩ wa (hv.out _ hd.out)).mono ?_
      rintro e wb ⟨rfl, hb⟩
      have hd := Lib.hid (below_step hb hd.out)
      have bc := Lib.hid (bc.out.below hb (Nat.le_refl _))
      have br := Lib.hid (br.out.below hb (Nat.le_refl _))
      clear hb b0 b1 b2 
      have b0 := bc.out.cell 0 rfl
      have b1 := bc.out.cell 1 rfl
      have b2 := bc.out.cell 2 rfl
      go_wp2_with fail
      refine (small_any ⟨1, rq, rn, rc, kq, kn, kc⟩ c sm ⟨fun h => ⟨⟨hG.out, by rw [hkk.out]; decide⟩, by rw [hsze'.out]; have := of_decide_eq_true (hsm'.out.trans h); omega⟩, fun h => by rw [← hsm'.out]; exact decide_eq_true (by have := h.2; rw [hsze'.out] at this; omega)⟩ wb (hv.out _ hd.out)).mono ?_
      rintro e wc ⟨rfl, hb⟩
      have hd := Lib.hid (below_step hb hd.out)
      have bc := Lib.hid (bc.out.below hb (Nat.le_refl _))
      have br := Lib.hid (br.out.below hb (Nat.le_refl _))
      clear hb b0 b1 b2 
      have b0 := bc.out.cell 0 rfl
      have b1 := bc.out.cell 1 rfl
      have b2 := bc.out.cell 2 rfl
      have r0 := br.out.cell 0 rfl
      have r1 := br.out.cell 1 rfl
      have r2 := br.out.cell 2 rfl
      have r3 := br.out.cell 3 rfl
      go_wp2_with fail
      refine (get_any ⟨1, rq, rn, rc, kq, kn, kc⟩ c t id wc (hv.out _ hd.out)).mono ?_
      rintro e wd ⟨⟨⟨ta, ia⟩, va, sa⟩, ea, rfl, hga, hoka, hb⟩
      have hd := Lib.hid (below_step hb hd.out)
      have bc := Lib.hid (bc.out.below hb (Nat.le_refl _))
      have br := Lib.hid (br.out.below hb (Nat.le_refl _))
      clear hb b0 b1 b2 r0 r1 r2 r3 
      unfold rowV
      have hga := Lib.hid hga
      clear hoka
      obtain ⟨y0, hy0⟩ : ∃ x, wd.alloc (.cells #[.int .i64 0, .int .u16 0, .int .i64 0, .string ⟨#[]⟩] 30) = x := ⟨_, rfl⟩
      have y0r := Lib.hid (one_row (xs := [.int .i64 0, .int .u16 0, .int .i64 0, .string ⟨#[]⟩]) hy0)
      have y0j := Lib.hid y0r.out.2.1
      have y0b := Lib.hid y0r.out.1
      clear y0r
      go_wp2_with (first
        | ((with_reducible refine wpList_store_at rfl 30 (.tmp 9) (.tmp 66) rfl (o := 0) (vs := [.int .i64 ta, .int .u16 ia, .int .i64 va, .string sa]) rfl rfl y0j.out (sizeRow ta ia va sa) (Nat.le_refl _) (row_one ta ia va sa) ?_)
           intro y0w h9 hg9
           have xa : Hid (Boxed y0w wd.heap.size [.int .i64 ta, .int .u16 ia, .int .i64 va, .string sa]) := RowV.boxed h9
           have y0q := Lib.hid (Gr.below hg9 y0b.out (Nat.le_refl _))
           have bc := Lib.hid (bc.out.below y0q.out (Nat.le_refl _))
           have br := Lib.hid (br.out.below y0q.out (Nat.le_refl _))
           have hd := Lib.hid (below_step y0q.out hd.out)
           have b0 := bc.out.cell 0 rfl
           have b1 := bc.out.cell 1 rfl
           have b2 := bc.out.cell 2 rfl
           have r0 := br.out.cell 0 rfl
           have r1 := br.out.cell 1 rfl
           have r2 := br.out.cell 2 rfl
           have r3 := br.out.cell 3 rfl
           clear h9 hg9 y0j y0b y0q))
      refine (put_any ⟨1, rq, rn, rc, kq, kn, kc⟩ c t id v s y0w (hv.out _ hd.out) hro'.out).mono ?_
      rintro e we ⟨⟨kp, rqp, rnp, rcp, kqp, knp, kcp⟩, dp, ep, rfl, hP, honp, hb⟩
      have hd := Lib.hid (below_step hb hd.out)
      have bc := Lib.hid (bc.out.below hb (Nat.le_refl _))
      have br := Lib.hid (br.out.below hb (Nat.le_refl _))
      have xa := Lib.hid (xa.out.below hb (Nat.le_refl _))
      have hP := Lib.hid hP
      have honp := Lib.hid honp
      simp only [CV.val]
      clear hb b0 b1 b2 r0 r1 r2 r3
      obtain ⟨y1, hy1⟩ : ∃ x, we.alloc (.cells #[.int .i64 0, .slice none 0 0, .slice none 0 0] 25) = x := ⟨_, rfl⟩
      have y1r := Lib.hid (one_row (xs := [.int .i64 0, .slice none 0 0, .slice none 0 0]) hy1)
      have y1j := Lib.hid y1r.out.2.1
      have y1b := Lib.hid y1r.out.1
      clear y1r
      go_wp2_with (first
        | ((with_reducible refine wpList_store_at rfl 25 (.tmp 11) (.tmp 72) rfl (o := 0) (vs := [.int .i64 kp, .slice rqp rnp rcp, .slice kqp knp kcp]) rfl rfl y1j.out (sizeCont (.int .i64 kp) (.slice rqp rnp rcp) (.slice kqp knp kcp)) (Nat.le_refl _) (cont_one _ _ _ _ _ _ _) ?_)
           intro y1w h9 hg9
           have xp : Hid (Boxed y1w we.heap.size [.int .i64 kp, .slice rqp rnp rcp, .slice kqp knp kcp]) := RowV.boxed h9
           have y1q := Lib.hid (Gr.below hg9 y1b.out (Nat.le_refl _))
           have bc := Lib.hid (bc.out.below y1q.out (Nat.le_refl _))
           have br := Lib.hid (br.out.below y1q.out (Nat.le_refl _))
           have xa := Lib.hid (xa.out.below y1q.out (Nat.le_refl _))
           have honp := Lib.hid (honp.out.below y1q.out (Nat.le_refl _))
           have hd := Lib.hid (below_step y1q.out hd.out)
           have b0 := bc.out.cell 0 rfl
           have b1 := bc.out.cell 1 rfl
           have b2 := bc.out.cell 2 rfl
           have r0 := br.out.cell 0 rfl
           have r1 := br.out.cell 1 rfl
           have r2 := br.out.cell 2 rfl
           have r3 := br.out.cell 3 rfl
           clear h9 hg9 y1j y1b y1q))
      refine (take_any ⟨1, rq, rn, rc, kq, kn, kc⟩ c t id y1w (hv.out _ hd.out)).mono ?_
      rintro e wf ⟨⟨kt, rqt, rnt, rct, kqt, knt, kct⟩, dt, ⟨⟨ty, iy⟩, vy, sy⟩, et, rfl, hT, hont, hokt, hb⟩
      have hd := Lib.hid (below_step hb hd.out)
      have bc := Lib.hid (bc.out.below hb (Nat.le_refl _))
      have br := Lib.hid (br.out.below hb (Nat.le_refl _))
      have xa := Lib.hid (xa.out.below hb (Nat.le_refl _))
      have honp := Lib.hid (honp.out.below hb (Nat.le_refl _))
      have xp := Lib.hid (xp.out.below hb (Nat.le_refl _))
      unfold rowV
      have hT := Lib.hid hT
      have hont := Lib.hid hont
      simp only [CV.val]
      clear hb hokt b0 b1 b2 r0 r1 r2 r3
      obtain ⟨y2, hy2⟩ : ∃ x, (wf.alloc (.cells #[.int .i64 0, .slice none 0 0, .slice none 0 0] 25)).alloc (.cells #[.int .i64 0, .int .u16 0, .int .i64 0, .string ⟨#[]⟩] 30) = x := ⟨_, rfl⟩
      have y2r := Lib.hid (two_rows (xs := [.int .i64 0, .slice none 0 0, .slice none 0 0]) (ys := [.int .i64 0, .int .u16 0, .int .i64 0, .string ⟨#[]⟩]) hy2)
      have y2j := Lib.hid y2r.out.2.1
      have y2k := Lib.hid y2r.out.2.2.1
      have y2b := Lib.hid y2r.out.1
      clear y2r
      have hsr := Lib.hid (leaf_srt hG.out hkk.out)
      have hrn : rn ≤ 4 := by have h1 := hrl.out; have h2 := hsze'.out; unfold sizeC at h2; rw [h1] at h2; (try simp only at h2); omega
      have hrw := Lib.hid (fun u (hu : Below w.heap.size w u) => (hv.out u hu).rows)
      clear hee1 hee2 hee3 hfl' hsm'
      cases hi : isR c.rows ⟨t, id⟩ with
      | true =>
        have hib := Lib.hid hi
        obtain ⟨rfl, hma, hka⟩ := get_is hG.out hkk.out hga.out hi
        obtain ⟨rfl, rfl, hmy, hky⟩ := take_is hG.out hkk.out hT.out hi
        have hye := same_key hsr.out hmy hma (hky.trans hka.symm)
        replace hye := hye.symm
        cases hye
        cases hka
        obtain ⟨i, hfe, r, hri, hrk⟩ : ∃ i : Nat, findAt c.rows ⟨t, id⟩ = i ∧ ∃ r, c.rows[i]? = some r ∧ r.key = ⟨t, id⟩ := by
          rcases findAt_is hsr.out (k := ⟨t, id⟩) with ⟨_, h⟩ | ⟨h, _⟩
          · exact h
          · rw [hi] at h; cases h
        have hre := same_key hsr.out (List.mem_of_getElem? hri) hma hrk
        subst hre
        have hil : i < rn := by have := (List.getElem?_eq_some_iff.1 hri).1; rw [hrl.out] at this; exact this
        obtain ⟨A, r2, hqA, hx, _, hcA⟩ := (hrw.out w (Below.refl _ _)).at hil
        rw [hri] at hx
        cases hx
        have hqA' : rq = some A := hqA
        subst hqA'
        have hcell : Hid (∀ j x, ([.int .i64 t, .int .u16 id, .int .i64 va, .string sa] : List Value)[j]? = some x → w.cell? ((A.add (i * 4)).add j) = some x) := hcA
        have i0 : (0 : Int) ≤ i := by omega
        have i1 : (i : Int) < rn := by omega
        have i2 : decide ((i : Int) < 0) = false := decide_eq_false (by omega)
        clear hma hmy hky hri hrk hqA hcA hga hT hi
        by_cases hch : chkRowC ⟨⟨t, id⟩, v, s⟩ = 0
        · have hokr : okRow ⟨⟨t, id⟩, v, s⟩ = true := okRow_iff.2 hch
          have hch := Lib.hid hch
          go_wp2_with (first
            | ((with_reducible refine wpList_store_at rfl 25 (.tmp 13) (.tmp 79) rfl (o := 0) (vs := [.int .i64 kt, .slice rqt rnt rct, .slice kqt knt kct]) rfl rfl y2j.out (sizeCont (.int .i64 kt) (.slice rqt rnt rct) (.slice kqt knt kct)) (Nat.le_refl _) (cont_one _ _ _ _ _ _ _) ?_)
               intro y2v h9 hg9
               have xt : Hid (Boxed y2v wf.heap.size [.int .i64 kt, .slice rqt rnt rct, .slice kqt knt kct]) := RowV.boxed h9
               have y2k := Lib.hid (RowV.gr y2k.out hg9 (by omega))
               have y2b := Lib.hid (Gr.below hg9 y2b.out (Nat.le_refl _))
               clear h9 hg9 y2j)
            | ((with_reducible refine wpList_store_at rfl 30 (.tmp 14) (.tmp 80) rfl (o := 0) (vs := [.int .i64 t, .int .u16 id, .int .i64 va, .string sa]) rfl rfl y2k.out (sizeRow t id va sa) (Nat.le_refl _) (row_one t id va sa) ?_)
               intro y2w h9 hg9
               have xy : Hid (Boxed y2w (wf.heap.size + 1) [.int .i64 t, .int .u16 id, .int .i64 va, .string sa]) := RowV.boxed h9
               have xt := Lib.hid (xt.out.gr hg9 (by omega))
               have y2q := Lib.hid (Gr.below hg9 y2b.out (by omega))
               have bc := Lib.hid (bc.out.below y2q.out (Nat.le_refl _))
               have br := Lib.hid (br.out.below y2q.out (Nat.le_refl _))
               have xa := Lib.hid (xa.out.below y2q.out (Nat.le_refl _))
               have honp := Lib.hid (honp.out.below y2q.out (Nat.le_refl _))
               have xp := Lib.hid (xp.out.below y2q.out (Nat.le_refl _))
               have hont := Lib.hid (hont.out.below y2q.out (Nat.le_refl _))
               have hd := Lib.hid (below_step y2q.out hd.out)
               have b0 := bc.out.cell 0 rfl
               have b1 := bc.out.cell 1 rfl
               have b2 := bc.out.cell 2 rfl
               have r0 := br.out.cell 0 rfl
               have r1 := br.out.cell 1 rfl
               have r2 := br.out.cell 2 rfl
               have r3 := br.out.cell 3 rfl
               clear h9 hg9 y2k y2b y2q))
          refine (rightRow_any t id v s y2w).mono ?_
          rintro e wr ⟨rfl, hb⟩
          have hd := Lib.hid (below_step hb hd.out)
          have bc := Lib.hid (bc.out.below hb (Nat.le_refl _))
          have br := Lib.hid (br.out.below hb (Nat.le_refl _))
          have xa := Lib.hid (xa.out.below hb (Nat.le_refl _))
          have honp := Lib.hid (honp.out.below hb (Nat.le_refl _))
          have xp := Lib.hid (xp.out.below hb (Nat.le_refl _))
          have hont := Lib.hid (hont.out.below hb (Nat.le_refl _))
          have xt := Lib.hid (xt.out.below hb (Nat.le_refl _))
          have xy := Lib.hid (xy.out.below hb (Nat.le_refl _))
          clear hb b0 b1 b2 r0 r1 r2 r3
          rw [hokr]
          have b0 := bc.out.cell 0 rfl
          have b1 := bc.out.cell 1 rfl
          have b2 := bc.out.cell 2 rfl
          have r0 := br.out.cell 0 rfl
          have r1 := br.out.cell 1 rfl
          have r2 := br.out.cell 2 rfl
          have r3 := br.out.cell 3 rfl
          go_wp2_with fail
          refine (refPut_any ⟨1, (some A), rn, rc, kq, kn, kc⟩ c t id v s wr (hv.out _ hd.out) hsr.out (by show rn ≤ 1000; omega) hro'.out).mono ?_
          rintro e ws ⟨⟨kz, rqz, rnz, rcz, kqz, knz, kcz⟩, dz, ez, rfl, hz, honz, hb⟩
          have hd := Lib.hid (below_step hb hd.out)
          have bc := Lib.hid (bc.out.below hb (Nat.le_refl _))
          have br := Lib.hid (br.out.below hb (Nat.le_refl _))
          have xa := Lib.hid (xa.out.below hb (Nat.le_refl _))
          have honp := Lib.hid (honp.out.below hb (Nat.le_refl _))
          have xp := Lib.hid (xp.out.below hb (Nat.le_refl _))
          have hont := Lib.hid (hont.out.below hb (Nat.le_refl _))
          have xt := Lib.hid (xt.out.below hb (Nat.le_refl _))
          have xy := Lib.hid (xy.out.below hb (Nat.le_refl _))
          obtain ⟨h1, h2⟩ := put_doc hG.out hkk.out hP.out hch.out hz
          subst h1 h2
          simp only [CV.val]
          have honz := Lib.hid honz
          have hepp : (ez != ez) = false := by simp
          clear hb hz b0 b1 b2 r0 r1 r2 r3
          obtain ⟨y3, hy3⟩ : ∃ x, ws.alloc (.cells #[.int .i64 0, .slice none 0 0, .slice none 0 0] 25) = x := ⟨_, rfl⟩
          have y3r := Lib.hid (one_row (xs := [.int .i64 0, .slice none 0 0, .slice none 0 0]) hy3)
          have y3j := Lib.hid y3r.out.2.1
          have y3b := Lib.hid y3r.out.1
          clear y3r
          go_wp2_with (first
            | ((with_reducible refine wpList_store_at rfl 25 (.tmp 17) (.tmp 135) rfl (o := 0) (vs := [.int .i64 kz, .slice rqz rnz rcz, .slice kqz knz kcz]) rfl rfl y3j.out (sizeCont (.int .i64 kz) (.slice rqz rnz rcz) (.slice kqz knz kcz)) (Nat.le_refl _) (cont_one _ _ _ _ _ _ _) ?_)
               intro y3w h9 hg9
               have xz : Hid (Boxed y3w ws.heap.size [.int .i64 kz, .slice rqz rnz rcz, .slice kqz knz kcz]) := RowV.boxed h9
               have y3q := Lib.hid (Gr.below hg9 y3b.out (Nat.le_refl _))
               have bc := Lib.hid (bc.out.below y3q.out (Nat.le_refl _))
               have br := Lib.hid (br.out.below y3q.out (Nat.le_refl _))
               have xa := Lib.hid (xa.out.below y3q.out (Nat.le_refl _))
               have honp := Lib.hid (honp.out.below y3q.out (Nat.le_refl _))
               have xp := Lib.hid (xp.out.below y3q.out (Nat.le_refl _))
               have hont := Lib.hid (hont.out.below y3q.out (Nat.le_refl _))
               have xt := Lib.hid (xt.out.below y3q.out (Nat.le_refl _))
               have xy := Lib.hid (xy.out.below y3q.out (Nat.le_refl _))
               have honz := Lib.hid (honz.out.below y3q.out (Nat.le_refl _))
               have hd := Lib.hid (below_step y3q.out hd.out)
               have p0 := xp.out.cell 0 rfl
               have p1 := xp.out.cell 1 rfl
               have p2 := xp.out.cell 2 rfl
               have z0 := xz.out.cell 0 rfl
               have z1 := xz.out.cell 1 rfl
               have z2 := xz.out.cell 2 rfl
               clear h9 hg9 y3j y3b y3q))
          have hsm := lsame_any ⟨kp, rqp, rnp, rcp, kqp, knp, kcp⟩ ⟨kz, rqz, rnz, rcz, kqz, knz, kcz⟩ _ _ y3w honp.out honz.out
          rw [sameC_iff.2 rfl] at hsm
          refine (hsm).mono ?_
          rintro e wv ⟨rfl, hb⟩
          have hd := Lib.hid (below_step hb hd.out)
          have bc := Lib.hid (bc.out.below hb (Nat.le_refl _))
          have br := Lib.hid (br.out.below hb (Nat.le_refl _))
          have xa := Lib.hid (xa.out.below hb (Nat.le_refl _))
          have honp := Lib.hid (honp.out.below hb (Nat.le_refl _))
          have xp := Lib.hid (xp.out.below hb (Nat.le_refl _))
          have hont := Lib.hid (hont.out.below hb (Nat.le_refl _))
          have xt := Lib.hid (xt.out.below hb (Nat.le_refl _))
          have xy := Lib.hid (xy.out.below hb (Nat.le_refl _))
          have honz := Lib.hid (honz.out.below hb (Nat.le_refl _))
          have xz := Lib.hid (xz.out.below hb (Nat.le_refl _))
          clear hb hsm p0 p1 p2 z0 z1 z2
          have b0 := bc.out.cell 0 rfl
          have b1 := bc.out.cell 1 rfl
          have b2 := bc.out.cell 2 rfl
          have r0 := br.out.cell 0 rfl
          have r1 := br.out.cell 1 rfl
          have r2 := br.out.cell 2 rfl
          have r3 := br.out.cell 3 rfl
          go_wp2_with fail
          refine (refFind_any (some A) rn rc c.rows t id wv (hrw.out _ hd.out) (by omega)).mono ?_
          rintro e wg ⟨rfl, hb⟩
          have hd := Lib.hid (below_step hb hd.out)
          have bc := Lib.hid (bc.out.below hb (Nat.le_refl _))
          have br := Lib.hid (br.out.below hb (Nat.le_refl _))
          have xa := Lib.hid (xa.out.below hb (Nat.le_refl _))
          have honp := Lib.hid (honp.out.below hb (Nat.le_refl _))
          have xp := Lib.hid (xp.out.below hb (Nat.le_refl _))
          have hont := Lib.hid (hont.out.below hb (Nat.le_refl _))
          have xt := Lib.hid (xt.out.below hb (Nat.le_refl _))
          have xy := Lib.hid (xy.out.below hb (Nat.le_refl _))
          have honz := Lib.hid (honz.out.below hb (Nat.le_refl _))
          have xz := Lib.hid (xz.out.below hb (Nat.le_refl _))
          clear hb b0 b1 b2 r0 r1 r2 r3
          rw [hfe]
          go_wp2_with fail
          refine wp_region_held (S := fun y => Below wg.heap.size wg y) (by kernel_rfl) ?_
          change wpAnyH _ _ _ _ _ _ _ _ (World.drew wg)
          have hS0 : Below wg.heap.size wg (wg.drew) := below_drew wg
          generalize World.drew wg = u0 at hS0 ⊢
          have her := fun u => eql_row u t id va sa t id va sa
          rw [eqR_iff.2 rfl] at her
          refine held_tk (i := 0) (dst := some 174) (v := .int .i64 0) rfl rfl (.inl ⟨rfl, fun u hu => by go_simp⟩) hS0 ?_; go_frame
          refine held_tk (i := 1) (dst := some 175) (v := .bool true) rfl rfl (.inl ⟨rfl, fun u hu => by go_simp⟩) hS0 ?_; go_frame
          refine held_tk (i := 2) (dst := some 176) (v := .bool true) rfl rfl (.inl ⟨rfl, fun u hu => by go_simp⟩) hS0 ?_; go_frame
          refine held_tk (i := 3) (dst := some 177) (v := .agg #[.int .i64 t, .int .u16 id, .int .i64 va, .string sa]) rfl rfl (y_load_agg 30 (.tmp 9) rfl rfl rfl (fun u hu => run_loadVar_at Try.underlying30 rfl (sizeRow t id va sa) _ (xa.out.below hu (Nat.le_refl _)).all)) hS0 ?_; go_frame
          refine held_tk (i := 4) (dst := some 178) (v := .pointer (some ⟨w.heap.size, 1, none⟩)) rfl rfl (.inl ⟨rfl, fun u hu => by go_simp⟩) hS0 ?_; go_frame
          refine held_tk (i := 5) (dst := some 179) (v := .slice (some A) rn rc) rfl rfl (.inl ⟨rfl, fun u hu => by have c1 := (bc.out.below hu (Nat.le_refl _)).cell 1 rfl; go_simp⟩) hS0 ?_; go_frame
          refine held_tk (i := 6) (dst := some 180) (v := .int .i64 (i : Int)) rfl rfl (.inl ⟨rfl, fun u hu => by go_simp⟩) hS0 ?_; go_frame
          refine held_tk (i := 7) (dst := some 181) (v := .pointer (some (A.add (i * 4)))) rfl rfl (.inl ⟨rfl, fun u hu => by go_simp⟩) hS0 ?_; go_frame
          refine held_tk (i := 8) (dst := some 182) (v := .agg #[.int .i64 t, .int .u16 id, .int .i64 va, .string sa]) rfl rfl (y_load_agg 30 (.tmp 181) rfl rfl rfl (fun u hu => run_loadVar_at Try.underlying30 rfl (sizeRow t id va sa) _ (fun j x hj => cell_keeps (below_step hu hd.out) (Nat.le_refl _) (hcell.out j x hj)))) hS0 ?_; go_frame
          refine held_tk (i := 9) (dst := some 183) (v := .bool true) rfl rfl (.inl ⟨rfl, fun u hu => by go_simp⟩) hS0 ?_; go_frame
          refine held_tk (i := 10) (dst := some 184) (v := .bool true) rfl rfl (.inl ⟨rfl, fun u hu => by go_simp⟩) hS0 ?_; go_frame
          refine held_tk (i := 11) (dst := some 185) (v := .bool true) rfl rfl (.inl ⟨rfl, fun u hu => by go_simp⟩) hS0 ?_; go_frame
          refine held_tk (i := 12) (dst := some 186) (v := .int .i64 0) rfl rfl (.inl ⟨rfl, fun u hu => by go_simp⟩) hS0 ?_; go_frame
          refine held_tk (i := 13) (dst := some 187) (v := .bool true) rfl rfl (.inl ⟨rfl, fun u hu => by go_simp⟩) hS0 ?_; go_frame
          refine held_tk (i := 14) (dst := some 188) (v := .bool true) rfl rfl (.inl ⟨rfl, fun u hu => by go_simp⟩) hS0 ?_; go_frame
          refine held_tk (i := 15) (dst := some 189) (v := .bool true) rfl rfl (.inl ⟨rfl, fun u hu => by go_simp⟩) hS0 ?_; go_frame
          refine held_tk (i := 16) (dst := some 190) (v := .agg #[.int .i64 t, .int .u16 id, .int .i64 va, .string sa]) rfl rfl (y_load_agg 30 (.tmp 14) rfl rfl rfl (fun u hu => run_loadVar_at Try.underlying30 rfl (sizeRow t id va sa) _ (xy.out.below hu (Nat.le_refl _)).all)) hS0 ?_; go_frame
          refine held_tk (i := 17) (dst := some 191) (v := .agg #[.int .i64 t, .int .u16 id, .int .i64 va, .string sa]) rfl rfl (y_load_agg 30 (.tmp 9) rfl rfl rfl (fun u hu => run_loadVar_at Try.underlying30 rfl (sizeRow t id va sa) _ (xa.out.below hu (Nat.le_refl _)).all)) hS0 ?_; go_frame
          refine held_tk (i := 18) (dst := some 192) (v := .bool true) rfl rfl (.inl ⟨rfl, fun u hu => by go_simp⟩) hS0 ?_; go_frame
          refine held_tk (i := 19) (dst := some 193) (v := .bool true) rfl rfl (.inl ⟨rfl, fun u hu => by go_simp⟩) hS0 ?_; go_frame
          refine held_tk (i := 20) (dst := some 194) (v := .bool true) rfl rfl (.inl ⟨rfl, fun u hu => by go_simp⟩) hS0 ?_; go_frame
          refine held_tk (i := 21) (dst := some 195) (v := .agg #[.int .i64 kt, .slice rqt rnt rct, .slice kqt knt kct]) rfl rfl (y_load_agg 25 (.tmp 13) rfl rfl rfl (fun u hu => run_loadVar_at Try.underlying25 rfl (sizeCont (.int .i64 kt) (.slice rqt rnt rct) (.slice kqt knt kct)) _ (xt.out.below hu (Nat.le_refl _)).all)) hS0 ?_; go_frame
          refine held_tk (i := 22) (dst := some 196) (v := .pointer (some ⟨w.heap.size, 1, none⟩)) rfl rfl (.inl ⟨rfl, fun u hu => by go_simp⟩) hS0 ?_; go_frame
          refine held_tk (i := 23) (dst := some 197) (v := .slice (some A) rn rc) rfl rfl (.inl ⟨rfl, fun u hu => by have c1 := (bc.out.below hu (Nat.le_refl _)).cell 1 rfl; go_simp⟩) hS0 ?_; go_frame
          refine held_tk (i := 24) (dst := some 198) (v := .pointer (some ⟨w.heap.size + 1, 0, none⟩)) rfl rfl (.inl ⟨rfl, fun u hu => by go_simp⟩) hS0 ?_; go_frame
          refine held_tk (i := 25) (dst := some 199) (v := .agg #[.int .i64 t, .int .u16 id]) rfl rfl (y_load_agg 28 (.tmp 198) rfl rfl rfl (fun u hu => run_loadVar_at Try.underlying28 rfl (sizeKey t id) _ (Boxed.key (br.out.below hu (Nat.le_refl _))))) hS0 ?_; go_frame
          refine held_call (i := 26) (dst := some 200) rfl rfl (by kernel_rfl) rfl (by go_simp) (without_any (some A) rn rc c.rows t id u0 (hrw.out _ (below_step hS0 hd.out)) (by omega)) ?_
          rintro e u1 ⟨q4, n4, c4, rfl, _, h7, h8⟩
          have hS1 := below_step h8 hS0
          refine ⟨_, rfl, hS1, ?_⟩; go_frame
          refine held_call (i := 27) (dst := some 201) rfl rfl (by kernel_rfl) rfl (by go_simp) (refLeaf_any q4 n4 c4 u1) ?_
          rintro e u2 ⟨rfl, h9⟩
          have hS2 := below_step h9 hS1
          refine ⟨_, rfl, hS2, ?_⟩; go_frame
          have hsm := lsame_any ⟨kt, rqt, rnt, rct, kqt, knt, kct⟩ ⟨1, q4, n4, c4, none, 0, 0⟩ _ ⟨1, cutL c.rows ⟨t, id⟩, []⟩ u2 (hont.out.below hS2 (Nat.le_refl _)) ⟨rfl, by rw [← outL_cutL hsr.out hib.out]; exact h7.below h9 (Nat.le_refl _), KidsOn.none_ _⟩
          rw [sameC_iff.2 rfl] at hsm
          refine held_call (i := 28) (dst := some 202) rfl rfl (by kernel_rfl) rfl (by go_simp) hsm ?_
          rintro e u3 ⟨rfl, h10⟩
          have hS3 := below_step h10 hS2
          refine ⟨_, rfl, hS3, ?_⟩; go_frame
          refine held_tk (i := 29) (dst := some 203) (v := .bool true) rfl rfl (.inl ⟨rfl, fun u hu => by go_simp⟩) hS3 ?_; go_frame
          refine held_tk (i := 30) (dst := some 4) (v := .bool true) rfl rfl (.inl ⟨rfl, fun u hu => by go_simp⟩) hS3 ?_; go_frame
          refine wpAnyH_done (by kernel_rfl) ?_ _
          have hfin := Lib.hid (below_step hS3 hd.out)
          clear hS0 hS1 hS2 hS3 hsm her
          go_wp2
          go_ret
          exact ⟨rfl, hfin.out⟩
        · have hokr : okRow ⟨⟨t, id⟩, v, s⟩ = false := by rw [Bool.eq_false_iff]; exact fun h => hch (okRow_iff.1 h)
          obtain ⟨rfl, rfl⟩ := put_bad hG.out hkk.out hP.out hch
          clear hch hP
          go_wp2_with (first
            | ((with_reducible refine wpList_store_at rfl 25 (.tmp 13) (.tmp 79) rfl (o := 0) (vs := [.int .i64 kt, .slice rqt rnt rct, .slice kqt knt kct]) rfl rfl y2j.out (sizeCont (.int .i64 kt) (.slice rqt rnt rct) (.slice kqt knt kct)) (Nat.le_refl _) (cont_one _ _ _ _ _ _ _) ?_)
               intro y2v h9 hg9
               have xt : Hid (Boxed y2v wf.heap.size [.int .i64 kt, .slice rqt rnt rct, .slice kqt knt kct]) := RowV.boxed h9
               have y2k := Lib.hid (RowV.gr y2k.out hg9 (by omega))
               have y2b := Lib.hid (Gr.below hg9 y2b.out (Nat.le_refl _))
               clear h9 hg9 y2j)
            | ((with_reducible refine wpList_store_at rfl 30 (.tmp 14) (.tmp 80) rfl (o := 0) (vs := [.int .i64 t, .int .u16 id, .int .i64 va, .string sa]) rfl rfl y2k.out (sizeRow t id va sa) (Nat.le_refl _) (row_one t id va sa) ?_)
               intro y2w h9 hg9
               have xy : Hid (Boxed y2w (wf.heap.size + 1) [.int .i64 t, .int .u16 id, .int .i64 va, .string sa]) := RowV.boxed h9
               have xt := Lib.hid (xt.out.gr hg9 (by omega))
               have y2q := Lib.hid (Gr.below hg9 y2b.out (by omega))
               have bc := Lib.hid (bc.out.below y2q.out (Nat.le_refl _))
               have br := Lib.hid (br.out.below y2q.out (Nat.le_refl _))
               have xa := Lib.hid (xa.out.below y2q.out (Nat.le_refl _))
               have honp := Lib.hid (honp.out.below y2q.out (Nat.le_refl _))
               have xp := Lib.hid (xp.out.below y2q.out (Nat.le_refl _))
               have hont := Lib.hid (hont.out.below y2q.out (Nat.le_refl _))
               have hd := Lib.hid (below_step y2q.out hd.out)
               have b0 := bc.out.cell 0 rfl
               have b1 := bc.out.cell 1 rfl
               have b2 := bc.out.cell 2 rfl
               have r0 := br.out.cell 0 rfl
               have r1 := br.out.cell 1 rfl
               have r2 := br.out.cell 2 rfl
               have r3 := br.out.cell 3 rfl
               clear h9 hg9 y2k y2b y2q))
          refine (rightRow_any t id v s y2w).mono ?_
          rintro e wr ⟨rfl, hb⟩
          have hd := Lib.hid (below_step hb hd.out)
          have bc := Lib.hid (bc.out.below hb (Nat.le_refl _))
          have br := Lib.hid (br.out.below hb (Nat.le_refl _))
          have xa := Lib.hid (xa.out.below hb (Nat.le_refl _))
          have honp := Lib.hid (honp.out.below hb (Nat.le_refl _))
          have xp := Lib.hid (xp.out.below hb (Nat.le_refl _))
          have hont := Lib.hid (hont.out.below hb (Nat.le_refl _))
          have xt := Lib.hid (xt.out.below hb (Nat.le_refl _))
          have xy := Lib.hid (xy.out.below hb (Nat.le_refl _))
          clear hb b0 b1 b2 r0 r1 r2 r3
          rw [hokr]
          obtain ⟨wN, hwN⟩ : ∃ x, wr.alloc (.cells #[.int .i64 kp, .slice rqp rnp rcp, .slice kqp knp kcp] 25) = x := ⟨_, rfl⟩
          have hbN := Lib.hid (one_box (xs := [.int .i64 kp, .slice rqp rnp rcp, .slice kqp knp kcp]) hwN)
          have p0 := xp.out.cell 0 rfl
          have p1 := xp.out.cell 1 rfl
          have p2 := xp.out.cell 2 rfl
          go_wp2_with fail
          clear p0 p1 p2
          have hno := none_any 1 wr.heap.size wN (by decide) (fun j hj => by
            have hb := hbN.out.2.1
            match j, hj with
            | 0, _ => exact ⟨⟨kp, rqp, rnp, rcp, kqp, knp, kcp⟩, honp.out.below hbN.out.1 (Nat.le_refl _), fun i x hx => by
                rw [show ((⟨wr.heap.size, 0 * 3, none⟩ : Addr).add i) = ⟨wr.heap.size, 0 + i, none⟩ by unfold Addr.add; split <;> simp_all]
                match i, hx with
                | 0, hx => cases hx; exact hb.cell 0 rfl
                | 1, hx => cases hx; exact hb.cell 1 rfl
                | 2, hx => cases hx; exact hb.cell 2 rfl
                | i + 3, hx => simp at hx⟩
            | j + 1, hj => omega)
          have hd := Lib.hid (below_step hbN.out.1 hd.out)
          have bc := Lib.hid (bc.out.below hbN.out.1 (Nat.le_refl _))
          have br := Lib.hid (br.out.below hbN.out.1 (Nat.le_refl _))
          have xa := Lib.hid (xa.out.below hbN.out.1 (Nat.le_refl _))
          have honp := Lib.hid (honp.out.below hbN.out.1 (Nat.le_refl _))
          have xp := Lib.hid (xp.out.below hbN.out.1 (Nat.le_refl _))
          have hont := Lib.hid (hont.out.below hbN.out.1 (Nat.le_refl _))
          have xt := Lib.hid (xt.out.below hbN.out.1 (Nat.le_refl _))
          have xy := Lib.hid (xy.out.below hbN.out.1 (Nat.le_refl _))
          refine hno.mono ?_
          clear hno hwN
          rintro e ws ⟨rfl, hb⟩
          have hd := Lib.hid (below_step hb hd.out)
          have bc := Lib.hid (bc.out.below hb (Nat.le_refl _))
          have br := Lib.hid (br.out.below hb (Nat.le_refl _))
          have xa := Lib.hid (xa.out.below hb (Nat.le_refl _))
          have honp := Lib.hid (honp.out.below hb (Nat.le_refl _))
          have xp := Lib.hid (xp.out.below hb (Nat.le_refl _))
          have hont := Lib.hid (hont.out.below hb (Nat.le_refl _))
          have xt := Lib.hid (xt.out.below hb (Nat.le_refl _))
          have xy := Lib.hid (xy.out.below hb (Nat.le_refl _))
          clear hb hbN
          have b0 := bc.out.cell 0 rfl
          have b1 := bc.out.cell 1 rfl
          have b2 := bc.out.cell 2 rfl
          have r0 := br.out.cell 0 rfl
          have r1 := br.out.cell 1 rfl
          have r2 := br.out.cell 2 rfl
          have r3 := br.out.cell 3 rfl
          go_wp2_with fail
          refine (refFind_any (some A) rn rc c.rows t id ws (hrw.out _ hd.out) (by omega)).mono ?_
          rintro e wg ⟨rfl, hb⟩
          have hd := Lib.hid (below_step hb hd.out)
          have bc := Lib.hid (bc.out.below hb (Nat.le_refl _))
          have br := Lib.hid (br.out.below hb (Nat.le_refl _))
          have xa := Lib.hid (xa.out.below hb (Nat.le_refl _))
          have honp := Lib.hid (honp.out.below hb (Nat.le_refl _))
          have xp := Lib.hid (xp.out.below hb (Nat.le_refl _))
          have hont := Lib.hid (hont.out.below hb (Nat.le_refl _))
          have xt := Lib.hid (xt.out.below hb (Nat.le_refl _))
          have xy := Lib.hid (xy.out.below hb (Nat.le_refl _))
          clear hb b0 b1 b2 r0 r1 r2 r3
          rw [hfe]
          go_wp2_with fail
          refine wp_region_held (S := fun y => Below wg.heap.size wg y) (by kernel_rfl) ?_
          change wpAnyH _ _ _ _ _ _ _ _ (World.drew wg)
          have hS0 : Below wg.heap.size wg (wg.drew) := below_drew wg
          generalize World.drew wg = u0 at hS0 ⊢
          have her := fun u => eql_row u t id va sa t id va sa
          rw [eqR_iff.2 rfl] at her
          refine held_tk (i := 0) (dst := some 174) (v := .int .i64 0) rfl rfl (.inl ⟨rfl, fun u hu => by go_simp⟩) hS0 ?_; go_frame
          refine held_tk (i := 1) (dst := some 175) (v := .bool true) rfl rfl (.inl ⟨rfl, fun u hu => by go_simp⟩) hS0 ?_; go_frame
          refine held_tk (i := 2) (dst := some 176) (v := .bool true) rfl rfl (.inl ⟨rfl, fun u hu => by go_simp⟩) hS0 ?_; go_frame
          refine held_tk (i := 3) (dst := some 177) (v := .agg #[.int .i64 t, .int .u16 id, .int .i64 va, .string sa]) rfl rfl (y_load_agg 30 (.tmp 9) rfl rfl rfl (fun u hu => run_loadVar_at Try.underlying30 rfl (sizeRow t id va sa) _ (xa.out.below hu (Nat.le_refl _)).all)) hS0 ?_; go_frame
          refine held_tk (i := 4) (dst := some 178) (v := .pointer (some ⟨w.heap.size, 1, none⟩)) rfl rfl (.inl ⟨rfl, fun u hu => by go_simp⟩) hS0 ?_; go_frame
          refine held_tk (i := 5) (dst := some 179) (v := .slice (some A) rn rc) rfl rfl (.inl ⟨rfl, fun u hu => by have c1 := (bc.out.below hu (Nat.le_refl _)).cell 1 rfl; go_simp⟩) hS0 ?_; go_frame
          refine held_tk (i := 6) (dst := some 180) (v := .int .i64 (i : Int)) rfl rfl (.inl ⟨rfl, fun u hu => by go_simp⟩) hS0 ?_; go_frame
          refine held_tk (i := 7) (dst := some 181) (v := .pointer (some (A.add (i * 4)))) rfl rfl (.inl ⟨rfl, fun u hu => by go_simp⟩) hS0 ?_; go_frame
          refine held_tk (i := 8) (dst := some 182) (v := .agg #[.int .i64 t, .int .u16 id, .int .i64 va, .string sa]) rfl rfl (y_load_agg 30 (.tmp 181) rfl rfl rfl (fun u hu => run_loadVar_at Try.underlying30 rfl (sizeRow t id va sa) _ (fun j x hj => cell_keeps (below_step hu hd.out) (Nat.le_refl _) (hcell.out j x hj)))) hS0 ?_; go_frame
          refine held_tk (i := 9) (dst := some 183) (v := .bool true) rfl rfl (.inl ⟨rfl, fun u hu => by go_simp⟩) hS0 ?_; go_frame
          refine held_tk (i := 10) (dst := some 184) (v := .bool true) rfl rfl (.inl ⟨rfl, fun u hu => by go_simp⟩) hS0 ?_; go_frame
          refine held_tk (i := 11) (dst := some 185) (v := .bool true) rfl rfl (.inl ⟨rfl, fun u hu => by go_simp⟩) hS0 ?_; go_frame
          refine held_tk (i := 12) (dst := some 186) (v := .int .i64 0) rfl rfl (.inl ⟨rfl, fun u hu => by go_simp⟩) hS0 ?_; go_frame
          refine held_tk (i := 13) (dst := some 187) (v := .bool true) rfl rfl (.inl ⟨rfl, fun u hu => by go_simp⟩) hS0 ?_; go_frame
          refine held_tk (i := 14) (dst := some 188) (v := .bool true) rfl rfl (.inl ⟨rfl, fun u hu => by go_simp⟩) hS0 ?_; go_frame
          refine held_tk (i := 15) (dst := some 189) (v := .bool true) rfl rfl (.inl ⟨rfl, fun u hu => by go_simp⟩) hS0 ?_; go_frame
          refine held_tk (i := 16) (dst := some 190) (v := .agg #[.int .i64 t, .int .u16 id, .int .i64 va, .string sa]) rfl rfl (y_load_agg 30 (.tmp 14) rfl rfl rfl (fun u hu => run_loadVar_at Try.underlying30 rfl (sizeRow t id va sa) _ (xy.out.below hu (Nat.le_refl _)).all)) hS0 ?_; go_frame
          refine held_tk (i := 17) (dst := some 191) (v := .agg #[.int .i64 t, .int .u16 id, .int .i64 va, .string sa]) rfl rfl (y_load_agg 30 (.tmp 9) rfl rfl rfl (fun u hu => run_loadVar_at Try.underlying30 rfl (sizeRow t id va sa) _ (xa.out.below hu (Nat.le_refl _)).all)) hS0 ?_; go_frame
          refine held_tk (i := 18) (dst := some 192) (v := .bool true) rfl rfl (.inl ⟨rfl, fun u hu => by go_simp⟩) hS0 ?_; go_frame
          refine held_tk (i := 19) (dst := some 193) (v := .bool true) rfl rfl (.inl ⟨rfl, fun u hu => by go_simp⟩) hS0 ?_; go_frame
          refine held_tk (i := 20) (dst := some 194) (v := .bool true) rfl rfl (.inl ⟨rfl, fun u hu => by go_simp⟩) hS0 ?_; go_frame
          refine held_tk (i := 21) (dst := some 195) (v := .agg #[.int .i64 kt, .slice rqt rnt rct, .slice kqt knt kct]) rfl rfl (y_load_agg 25 (.tmp 13) rfl rfl rfl (fun u hu => run_loadVar_at Try.underlying25 rfl (sizeCont (.int .i64 kt) (.slice rqt rnt rct) (.slice kqt knt kct)) _ (xt.out.below hu (Nat.le_refl _)).all)) hS0 ?_; go_frame
          refine held_tk (i := 22) (dst := some 196) (v := .pointer (some ⟨w.heap.size, 1, none⟩)) rfl rfl (.inl ⟨rfl, fun u hu => by go_simp⟩) hS0 ?_; go_frame
          refine held_tk (i := 23) (dst := some 197) (v := .slice (some A) rn rc) rfl rfl (.inl ⟨rfl, fun u hu => by have c1 := (bc.out.below hu (Nat.le_refl _)).cell 1 rfl; go_simp⟩) hS0 ?_; go_frame
          refine held_tk (i := 24) (dst := some 198) (v := .pointer (some ⟨w.heap.size + 1, 0, none⟩)) rfl rfl (.inl ⟨rfl, fun u hu => by go_simp⟩) hS0 ?_; go_frame
          refine held_tk (i := 25) (dst := some 199) (v := .agg #[.int .i64 t, .int .u16 id]) rfl rfl (y_load_agg 28 (.tmp 198) rfl rfl rfl (fun u hu => run_loadVar_at Try.underlying28 rfl (sizeKey t id) _ (Boxed.key (br.out.below hu (Nat.le_refl _))))) hS0 ?_; go_frame
          refine held_call (i := 26) (dst := some 200) rfl rfl (by kernel_rfl) rfl (by go_simp) (without_any (some A) rn rc c.rows t id u0 (hrw.out _ (below_step hS0 hd.out)) (by omega)) ?_
          rintro e u1 ⟨q4, n4, c4, rfl, _, h7, h8⟩
          have hS1 := below_step h8 hS0
          refine ⟨_, rfl, hS1, ?_⟩; go_frame
          refine held_call (i := 27) (dst := some 201) rfl rfl (by kernel_rfl) rfl (by go_simp) (refLeaf_any q4 n4 c4 u1) ?_
          rintro e u2 ⟨rfl, h9⟩
          have hS2 := below_step h9 hS1
          refine ⟨_, rfl, hS2, ?_⟩; go_frame
          have hsm := lsame_any ⟨kt, rqt, rnt, rct, kqt, knt, kct⟩ ⟨1, q4, n4, c4, none, 0, 0⟩ _ ⟨1, cutL c.rows ⟨t, id⟩, []⟩ u2 (hont.out.below hS2 (Nat.le_refl _)) ⟨rfl, by rw [← outL_cutL hsr.out hib.out]; exact h7.below h9 (Nat.le_refl _), KidsOn.none_ _⟩
          rw [sameC_iff.2 rfl] at hsm
          refine held_call (i := 28) (dst := some 202) rfl rfl (by kernel_rfl) rfl (by go_simp) hsm ?_
          rintro e u3 ⟨rfl, h10⟩
          have hS3 := below_step h10 hS2
          refine ⟨_, rfl, hS3, ?_⟩; go_frame
          refine held_tk (i := 29) (dst := some 203) (v := .bool true) rfl rfl (.inl ⟨rfl, fun u hu => by go_simp⟩) hS3 ?_; go_frame
          refine held_tk (i := 30) (dst := some 4) (v := .bool true) rfl rfl (.inl ⟨rfl, fun u hu => by go_simp⟩) hS3 ?_; go_frame
          refine wpAnyH_done (by kernel_rfl) ?_ _
          have hfin := Lib.hid (below_step hS3 hd.out)
          clear hS0 hS1 hS2 hS3 hsm her
          go_wp2
          go_ret
          exact ⟨rfl, hfin.out⟩
      | false =>
        obtain ⟨rfl, hza⟩ := get_not hG.out hkk.out hga.out hi
        obtain ⟨rfl, rfl, hzy⟩ := take_not hG.out hkk.out hT.out hi
        have hfe : findAt c.rows ⟨t, id⟩ = -1 := by
          rcases findAt_is hsr.out (k := ⟨t, id⟩) with ⟨h, _⟩ | ⟨_, h⟩
          · rw [hi] at h; cases h
          · exact h
        have her := fun u => eql_row u ta ia va sa 0 0 0 ⟨#[]⟩
        have hRa : eqR ⟨⟨ta, ia⟩, va, sa⟩ ⟨⟨0, 0⟩, 0, ⟨#[]⟩⟩ = true := eqR_iff.2 hza
        rw [hRa] at her
        have hey := fun u => eql_row u ty iy vy sy 0 0 0 ⟨#[]⟩
        have hRy : eqR ⟨⟨ty, iy⟩, vy, sy⟩ ⟨⟨0, 0⟩, 0, ⟨#[]⟩⟩ = true := eqR_iff.2 hzy
        rw [hRy] at hey
        clear hza hzy hRa hRy hga hT hi
        by_cases hch : chkRowC ⟨⟨t, id⟩, v, s⟩ = 0
        · have hokr : okRow ⟨⟨t, id⟩, v, s⟩ = true := okRow_iff.2 hch
          have hch := Lib.hid hch
          go_wp2_with (first
            | ((with_reducible refine wpList_store_at rfl 25 (.tmp 13) (.tmp 79) rfl (o := 0) (vs := [.int .i64 kt, .slice rqt rnt rct, .slice kqt knt kct]) rfl rfl y2j.out (sizeCont (.int .i64 kt) (.slice rqt rnt rct) (.slice kqt knt kct)) (Nat.le_refl _) (cont_one _ _ _ _ _ _ _) ?_)
               intro y2v h9 hg9
               have xt : Hid (Boxed y2v wf.heap.size [.int .i64 kt, .slice rqt rnt rct, .slice kqt knt kct]) := RowV.boxed h9
               have y2k := Lib.hid (RowV.gr y2k.out hg9 (by omega))
               have y2b := Lib.hid (Gr.below hg9 y2b.out (Nat.le_refl _))
               clear h9 hg9 y2j)
            | ((with_reducible refine wpList_store_at rfl 30 (.tmp 14) (.tmp 80) rfl (o := 0) (vs := [.int .i64 ty, .int .u16 iy, .int .i64 vy, .string sy]) rfl rfl y2k.out (sizeRow ty iy vy sy) (Nat.le_refl _) (row_one ty iy vy sy) ?_)
               intro y2w h9 hg9
               have xy : Hid (Boxed y2w (wf.heap.size + 1) [.int .i64 ty, .int .u16 iy, .int .i64 vy, .string sy]) := RowV.boxed h9
               have xt := Lib.hid (xt.out.gr hg9 (by omega))
               have y2q := Lib.hid (Gr.below hg9 y2b.out (by omega))
               have bc := Lib.hid (bc.out.below y2q.out (Nat.le_refl _))
               have br := Lib.hid (br.out.below y2q.out (Nat.le_refl _))
               have xa := Lib.hid (xa.out.below y2q.out (Nat.le_refl _))
               have honp := Lib.hid (honp.out.below y2q.out (Nat.le_refl _))
               have xp := Lib.hid (xp.out.below y2q.out (Nat.le_refl _))
               have hont := Lib.hid (hont.out.below y2q.out (Nat.le_refl _))
               have hd := Lib.hid (below_step y2q.out hd.out)
               have b0 := bc.out.cell 0 rfl
               have b1 := bc.out.cell 1 rfl
               have b2 := bc.out.cell 2 rfl
               have r0 := br.out.cell 0 rfl
               have r1 := br.out.cell 1 rfl
               have r2 := br.out.cell 2 rfl
               have r3 := br.out.cell 3 rfl
               clear h9 hg9 y2k y2b y2q))
          refine (rightRow_any t id v s y2w).mono ?_
          rintro e wr ⟨rfl, hb⟩
          have hd := Lib.hid (below_step hb hd.out)
          have bc := Lib.hid (bc.out.below hb (Nat.le_refl _))
          have br := Lib.hid (br.out.below hb (Nat.le_refl _))
          have xa := Lib.hid (xa.out.below hb (Nat.le_refl _))
          have honp := Lib.hid (honp.out.below hb (Nat.le_refl _))
          have xp := Lib.hid (xp.out.below hb (Nat.le_refl _))
          have hont := Lib.hid (hont.out.below hb (Nat.le_refl _))
          have xt := Lib.hid (xt.out.below hb (Nat.le_refl _))
          have xy := Lib.hid (xy.out.below hb (Nat.le_refl _))
          clear hb b0 b1 b2 r0 r1 r2 r3
          rw [hokr]
          have b0 := bc.out.cell 0 rfl
          have b1 := bc.out.cell 1 rfl
          have b2 := bc.out.cell 2 rfl
          have r0 := br.out.cell 0 rfl
          have r1 := br.out.cell 1 rfl
          have r2 := br.out.cell 2 rfl
          have r3 := br.out.cell 3 rfl
          go_wp2_with fail
          refine (refPut_any ⟨1, rq, rn, rc, kq, kn, kc⟩ c t id v s wr (hv.out _ hd.out) hsr.out (by show rn ≤ 1000; omega) hro'.out).mono ?_
          rintro e ws ⟨⟨kz, rqz, rnz, rcz, kqz, knz, kcz⟩, dz, ez, rfl, hz, honz, hb⟩
          have hd := Lib.hid (below_step hb hd.out)
          have bc := Lib.hid (bc.out.below hb (Nat.le_refl _))
          have br := Lib.hid (br.out.below hb (Nat.le_refl _))
          have xa := Lib.hid (xa.out.below hb (Nat.le_refl _))
          have honp := Lib.hid (honp.out.below hb (Nat.le_refl _))
          have xp := Lib.hid (xp.out.below hb (Nat.le_refl _))
          have hont := Lib.hid (hont.out.below hb (Nat.le_refl _))
          have xt := Lib.hid (xt.out.below hb (Nat.le_refl _))
          have xy := Lib.hid (xy.out.below hb (Nat.le_refl _))
          obtain ⟨h1, h2⟩ := put_doc hG.out hkk.out hP.out hch.out hz
          subst h1 h2
          simp only [CV.val]
          have honz := Lib.hid honz
          have hepp : (ez != ez) = false := by simp
          clear hb hz b0 b1 b2 r0 r1 r2 r3
          obtain ⟨y3, hy3⟩ : ∃ x, ws.alloc (.cells #[.int .i64 0, .slice none 0 0, .slice none 0 0] 25) = x := ⟨_, rfl⟩
          have y3r := Lib.hid (one_row (xs := [.int .i64 0, .slice none 0 0, .slice none 0 0]) hy3)
          have y3j := Lib.hid y3r.out.2.1
          have y3b := Lib.hid y3r.out.1
          clear y3r
          go_wp2_with (first
            | ((with_reducible refine wpList_store_at rfl 25 (.tmp 17) (.tmp 135) rfl (o := 0) (vs := [.int .i64 kz, .slice rqz rnz rcz, .slice kqz knz kcz]) rfl rfl y3j.out (sizeCont (.int .i64 kz) (.slice rqz rnz rcz) (.slice kqz knz kcz)) (Nat.le_refl _) (cont_one _ _ _ _ _ _ _) ?_)
               intro y3w h9 hg9
               have xz : Hid (Boxed y3w ws.heap.size [.int .i64 kz, .slice rqz rnz rcz, .slice kqz knz kcz]) := RowV.boxed h9
               have y3q := Lib.hid (Gr.below hg9 y3b.out (Nat.le_refl _))
               have bc := Lib.hid (bc.out.below y3q.out (Nat.le_refl _))
               have br := Lib.hid (br.out.below y3q.out (Nat.le_refl _))
               have xa := Lib.hid (xa.out.below y3q.out (Nat.le_refl _))
               have honp := Lib.hid (honp.out.below y3q.out (Nat.le_refl _))
               have xp := Lib.hid (xp.out.below y3q.out (Nat.le_refl _))
               have hont := Lib.hid (hont.out.below y3q.out (Nat.le_refl _))
               have xt := Lib.hid (xt.out.below y3q.out (Nat.le_refl _))
               have xy := Lib.hid (xy.out.below y3q.out (Nat.le_refl _))
               have honz := Lib.hid (honz.out.below y3q.out (Nat.le_refl _))
               have hd := Lib.hid (below_step y3q.out hd.out)
               have p0 := xp.out.cell 0 rfl
               have p1 := xp.out.cell 1 rfl
               have p2 := xp.out.cell 2 rfl
               have z0 := xz.out.cell 0 rfl
               have z1 := xz.out.cell 1 rfl
               have z2 := xz.out.cell 2 rfl
               clear h9 hg9 y3j y3b y3q))
          have hsm := lsame_any ⟨kp, rqp, rnp, rcp, kqp, knp, kcp⟩ ⟨kz, rqz, rnz, rcz, kqz, knz, kcz⟩ _ _ y3w honp.out honz.out
          rw [sameC_iff.2 rfl] at hsm
          refine (hsm).mono ?_
          rintro e wv ⟨rfl, hb⟩
          have hd := Lib.hid (below_step hb hd.out)
          have bc := Lib.hid (bc.out.below hb (Nat.le_refl _))
          have br := Lib.hid (br.out.below hb (Nat.le_refl _))
          have xa := Lib.hid (xa.out.below hb (Nat.le_refl _))
          have honp := Lib.hid (honp.out.below hb (Nat.le_refl _))
          have xp := Lib.hid (xp.out.below hb (Nat.le_refl _))
          have hont := Lib.hid (hont.out.below hb (Nat.le_refl _))
          have xt := Lib.hid (xt.out.below hb (Nat.le_refl _))
          have xy := Lib.hid (xy.out.below hb (Nat.le_refl _))
          have honz := Lib.hid (honz.out.below hb (Nat.le_refl _))
          have xz := Lib.hid (xz.out.below hb (Nat.le_refl _))
          clear hb hsm p0 p1 p2 z0 z1 z2
          have b0 := bc.out.cell 0 rfl
          have b1 := bc.out.cell 1 rfl
          have b2 := bc.out.cell 2 rfl
          have r0 := br.out.cell 0 rfl
          have r1 := br.out.cell 1 rfl
          have r2 := br.out.cell 2 rfl
          have r3 := br.out.cell 3 rfl
          go_wp2_with fail
          refine (refFind_any rq rn rc c.rows t id wv (hrw.out _ hd.out) (by omega)).mono ?_
          rintro e wg ⟨rfl, hb⟩
          have hd := Lib.hid (below_step hb hd.out)
          have bc := Lib.hid (bc.out.below hb (Nat.le_refl _))
          have br := Lib.hid (br.out.below hb (Nat.le_refl _))
          have xa := Lib.hid (xa.out.below hb (Nat.le_refl _))
          have honp := Lib.hid (honp.out.below hb (Nat.le_refl _))
          have xp := Lib.hid (xp.out.below hb (Nat.le_refl _))
          have hont := Lib.hid (hont.out.below hb (Nat.le_refl _))
          have xt := Lib.hid (xt.out.below hb (Nat.le_refl _))
          have xy := Lib.hid (xy.out.below hb (Nat.le_refl _))
          have honz := Lib.hid (honz.out.below hb (Nat.le_refl _))
          have xz := Lib.hid (xz.out.below hb (Nat.le_refl _))
          clear hb b0 b1 b2 r0 r1 r2 r3
          rw [hfe]
          obtain ⟨wN, hwN⟩ : ∃ x, wg.alloc (.cells #[.int .i64 kt, .slice rqt rnt rct, .slice kqt knt kct] 25) = x := ⟨_, rfl⟩
          have hbN := Lib.hid (one_box (xs := [.int .i64 kt, .slice rqt rnt rct, .slice kqt knt kct]) hwN)
          have a0 := xa.out.cell 0 rfl
          have a1 := xa.out.cell 1 rfl
          have a2 := xa.out.cell 2 rfl
          have a3 := xa.out.cell 3 rfl
          have u0 := xt.out.cell 0 rfl
          have u1 := xt.out.cell 1 rfl
          have u2 := xt.out.cell 2 rfl
          go_wp2_with fail
          clear a0 a1 a2 a3 u0 u1 u2
          have hno := none_any 1 wg.heap.size wN (by decide) (fun j hj => by
            have hb := hbN.out.2.1
            match j, hj with
            | 0, _ => exact ⟨⟨kt, rqt, rnt, rct, kqt, knt, kct⟩, hont.out.below hbN.out.1 (Nat.le_refl _), fun i x hx => by
                rw [show ((⟨wg.heap.size, 0 * 3, none⟩ : Addr).add i) = ⟨wg.heap.size, 0 + i, none⟩ by unfold Addr.add; split <;> simp_all]
                match i, hx with
                | 0, hx => cases hx; exact hb.cell 0 rfl
                | 1, hx => cases hx; exact hb.cell 1 rfl
                | 2, hx => cases hx; exact hb.cell 2 rfl
                | i + 3, hx => simp at hx⟩
            | j + 1, hj => omega)
          have hd := Lib.hid (below_step hbN.out.1 hd.out)
          have bc := Lib.hid (bc.out.below hbN.out.1 (Nat.le_refl _))
          have br := Lib.hid (br.out.below hbN.out.1 (Nat.le_refl _))
          have xa := Lib.hid (xa.out.below hbN.out.1 (Nat.le_refl _))
          have honp := Lib.hid (honp.out.below hbN.out.1 (Nat.le_refl _))
          have xp := Lib.hid (xp.out.below hbN.out.1 (Nat.le_refl _))
          have hont := Lib.hid (hont.out.below hbN.out.1 (Nat.le_refl _))
          have xt := Lib.hid (xt.out.below hbN.out.1 (Nat.le_refl _))
          have xy := Lib.hid (xy.out.below hbN.out.1 (Nat.le_refl _))
          have honz := Lib.hid (honz.out.below hbN.out.1 (Nat.le_refl _))
          have xz := Lib.hid (xz.out.below hbN.out.1 (Nat.le_refl _))
          refine hno.mono ?_
          clear hno hwN
          rintro e wh ⟨rfl, hb⟩
          have hd := Lib.hid (below_step hb hd.out)
          have bc := Lib.hid (bc.out.below hb (Nat.le_refl _))
          have br := Lib.hid (br.out.below hb (Nat.le_refl _))
          have xa := Lib.hid (xa.out.below hb (Nat.le_refl _))
          have honp := Lib.hid (honp.out.below hb (Nat.le_refl _))
          have xp := Lib.hid (xp.out.below hb (Nat.le_refl _))
          have hont := Lib.hid (hont.out.below hb (Nat.le_refl _))
          have xt := Lib.hid (xt.out.below hb (Nat.le_refl _))
          have xy := Lib.hid (xy.out.below hb (Nat.le_refl _))
          have honz := Lib.hid (honz.out.below hb (Nat.le_refl _))
          have xz := Lib.hid (xz.out.below hb (Nat.le_refl _))
          clear hb hbN
          have y0 := xy.out.cell 0 rfl
          have y1 := xy.out.cell 1 rfl
          have y2 := xy.out.cell 2 rfl
          have y3 := xy.out.cell 3 rfl
          go_wp2
          go_ret
          exact ⟨rfl, hd.out⟩
        · have hokr : okRow ⟨⟨t, id⟩, v, s⟩ = false := by rw [Bool.eq_false_iff]; exact fun h => hch (okRow_iff.1 h)
          obtain ⟨rfl, rfl⟩ := put_bad hG.out hkk.out hP.out hch
          clear hch hP
          go_wp2_with (first
            | ((with_reducible refine wpList_store_at rfl 25 (.tmp 13) (.tmp 79) rfl (o := 0) (vs := [.int .i64 kt, .slice rqt rnt rct, .slice kqt knt kct]) rfl rfl y2j.out (sizeCont (.int .i64 kt) (.slice rqt rnt rct) (.slice kqt knt kct)) (Nat.le_refl _) (cont_one _ _ _ _ _ _ _) ?_)
               intro y2v h9 hg9
               have xt : Hid (Boxed y2v wf.heap.size [.int .i64 kt, .slice rqt rnt rct, .slice kqt knt kct]) := RowV.boxed h9
               have y2k := Lib.hid (RowV.gr y2k.out hg9 (by omega))
               have y2b := Lib.hid (Gr.below hg9 y2b.out (Nat.le_refl _))
               clear h9 hg9 y2j)
            | ((with_reducible refine wpList_store_at rfl 30 (.tmp 14) (.tmp 80) rfl (o := 0) (vs := [.int .i64 ty, .int .u16 iy, .int .i64 vy, .string sy]) rfl rfl y2k.out (sizeRow ty iy vy sy) (Nat.le_refl _) (row_one ty iy vy sy) ?_)
               intro y2w h9 hg9
               have xy : Hid (Boxed y2w (wf.heap.size + 1) [.int .i64 ty, .int .u16 iy, .int .i64 vy, .string sy]) := RowV.boxed h9
               have xt := Lib.hid (xt.out.gr hg9 (by omega))
               have y2q := Lib.hid (Gr.below hg9 y2b.out (by omega))
               have bc := Lib.hid (bc.out.below y2q.out (Nat.le_refl _))
               have br := Lib.hid (br.out.below y2q.out (Nat.le_refl _))
               have xa := Lib.hid (xa.out.below y2q.out (Nat.le_refl _))
               have honp := Lib.hid (honp.out.below y2q.out (Nat.le_refl _))
               have xp := Lib.hid (xp.out.below y2q.out (Nat.le_refl _))
               have hont := Lib.hid (hont.out.below y2q.out (Nat.le_refl _))
               have hd := Lib.hid (below_step y2q.out hd.out)
               have b0 := bc.out.cell 0 rfl
               have b1 := bc.out.cell 1 rfl
               have b2 := bc.out.cell 2 rfl
               have r0 := br.out.cell 0 rfl
               have r1 := br.out.cell 1 rfl
               have r2 := br.out.cell 2 rfl
               have r3 := br.out.cell 3 rfl
               clear h9 hg9 y2k y2b y2q))
          refine (rightRow_any t id v s y2w).mono ?_
          rintro e wr ⟨rfl, hb⟩
          have hd := Lib.hid (below_step hb hd.out)
          have bc := Lib.hid (bc.out.below hb (Nat.le_refl _))
          have br := Lib.hid (br.out.below hb (Nat.le_refl _))
          have xa := Lib.hid (xa.out.below hb (Nat.le_refl _))
          have honp := Lib.hid (honp.out.below hb (Nat.le_refl _))
          have xp := Lib.hid (xp.out.below hb (Nat.le_refl _))
          have hont := Lib.hid (hont.out.below hb (Nat.le_refl _))
          have xt := Lib.hid (xt.out.below hb (Nat.le_refl _))
          have xy := Lib.hid (xy.out.below hb (Nat.le_refl _))
          clear hb b0 b1 b2 r0 r1 r2 r3
          rw [hokr]
          obtain ⟨wN, hwN⟩ : ∃ x, wr.alloc (.cells #[.int .i64 kp, .slice rqp rnp rcp, .slice kqp knp kcp] 25) = x := ⟨_, rfl⟩
          have hbN := Lib.hid (one_box (xs := [.int .i64 kp, .slice rqp rnp rcp, .slice kqp knp kcp]) hwN)
          have p0 := xp.out.cell 0 rfl
          have p1 := xp.out.cell 1 rfl
          have p2 := xp.out.cell 2 rfl
          go_wp2_with fail
          clear p0 p1 p2
          have hno := none_any 1 wr.heap.size wN (by decide) (fun j hj => by
            have hb := hbN.out.2.1
            match j, hj with
            | 0, _ => exact ⟨⟨kp, rqp, rnp, rcp, kqp, knp, kcp⟩, honp.out.below hbN.out.1 (Nat.le_refl _), fun i x hx => by
                rw [show ((⟨wr.heap.size, 0 * 3, none⟩ : Addr).add i) = ⟨wr.heap.size, 0 + i, none⟩ by unfold Addr.add; split <;> simp_all]
                match i, hx with
                | 0, hx => cases hx; exact hb.cell 0 rfl
                | 1, hx => cases hx; exact hb.cell 1 rfl
                | 2, hx => cases hx; exact hb.cell 2 rfl
                | i + 3, hx => simp at hx⟩
            | j + 1, hj => omega)
          have hd := Lib.hid (below_step hbN.out.1 hd.out)
          have bc := Lib.hid (bc.out.below hbN.out.1 (Nat.le_refl _))
          have br := Lib.hid (br.out.below hbN.out.1 (Nat.le_refl _))
          have xa := Lib.hid (xa.out.below hbN.out.1 (Nat.le_refl _))
          have honp := Lib.hid (honp.out.below hbN.out.1 (Nat.le_refl _))
          have xp := Lib.hid (xp.out.below hbN.out.1 (Nat.le_refl _))
          have hont := Lib.hid (hont.out.below hbN.out.1 (Nat.le_refl _))
          have xt := Lib.hid (xt.out.below hbN.out.1 (Nat.le_refl _))
          have xy := Lib.hid (xy.out.below hbN.out.1 (Nat.le_refl _))
          refine hno.mono ?_
          clear hno hwN
          rintro e ws ⟨rfl, hb⟩
          have hd := Lib.hid (below_step hb hd.out)
          have bc := Lib.hid (bc.out.below hb (Nat.le_refl _))
          have br := Lib.hid (br.out.below hb (Nat.le_refl _))
          have xa := Lib.hid (xa.out.below hb (Nat.le_refl _))
          have honp := Lib.hid (honp.out.below hb (Nat.le_refl _))
          have xp := Lib.hid (xp.out.below hb (Nat.le_refl _))
          have hont := Lib.hid (hont.out.below hb (Nat.le_refl _))
          have xt := Lib.hid (xt.out.below hb (Nat.le_refl _))
          have xy := Lib.hid (xy.out.below hb (Nat.le_refl _))
          clear hb hbN
          have b0 := bc.out.cell 0 rfl
          have b1 := bc.out.cell 1 rfl
          have b2 := bc.out.cell 2 rfl
          have r0 := br.out.cell 0 rfl
          have r1 := br.out.cell 1 rfl
          have r2 := br.out.cell 2 rfl
          have r3 := br.out.cell 3 rfl
          go_wp2_with fail
          refine (refFind_any rq rn rc c.rows t id ws (hrw.out _ hd.out) (by omega)).mono ?_
          rintro e wg ⟨rfl, hb⟩
          have hd := Lib.hid (below_step hb hd.out)
          have bc := Lib.hid (bc.out.below hb (Nat.le_refl _))
          have br := Lib.hid (br.out.below hb (Nat.le_refl _))
          have xa := Lib.hid (xa.out.below hb (Nat.le_refl _))
          have honp := Lib.hid (honp.out.below hb (Nat.le_refl _))
          have xp := Lib.hid (xp.out.below hb (Nat.le_refl _))
          have hont := Lib.hid (hont.out.below hb (Nat.le_refl _))
          have xt := Lib.hid (xt.out.below hb (Nat.le_refl _))
          have xy := Lib.hid (xy.out.below hb (Nat.le_refl _))
          clear hb b0 b1 b2 r0 r1 r2 r3
          rw [hfe]
          obtain ⟨wN, hwN⟩ : ∃ x, wg.alloc (.cells #[.int .i64 kt, .slice rqt rnt rct, .slice kqt knt kct] 25) = x := ⟨_, rfl⟩
          have hbN := Lib.hid (one_box (xs := [.int .i64 kt, .slice rqt rnt rct, .slice kqt knt kct]) hwN)
          have a0 := xa.out.cell 0 rfl
          have a1 := xa.out.cell 1 rfl
          have a2 := xa.out.cell 2 rfl
          have a3 := xa.out.cell 3 rfl
          have u0 := xt.out.cell 0 rfl
          have u1 := xt.out.cell 1 rfl
          have u2 := xt.out.cell 2 rfl
          go_wp2_with fail
          clear a0 a1 a2 a3 u0 u1 u2
          have hno := none_any 1 wg.heap.size wN (by decide) (fun j hj => by
            have hb := hbN.out.2.1
            match j, hj with
            | 0, _ => exact ⟨⟨kt, rqt, rnt, rct, kqt, knt, kct⟩, hont.out.below hbN.out.1 (Nat.le_refl _), fun i x hx => by
                rw [show ((⟨wg.heap.size, 0 * 3, none⟩ : Addr).add i) = ⟨wg.heap.size, 0 + i, none⟩ by unfold Addr.add; split <;> simp_all]
                match i, hx with
                | 0, hx => cases hx; exact hb.cell 0 rfl
                | 1, hx => cases hx; exact hb.cell 1 rfl
                | 2, hx => cases hx; exact hb.cell 2 rfl
                | i + 3, hx => simp at hx⟩
            | j + 1, hj => omega)
          have hd := Lib.hid (below_step hbN.out.1 hd.out)
          have bc := Lib.hid (bc.out.below hbN.out.1 (Nat.le_refl _))
          have br := Lib.hid (br.out.below hbN.out.1 (Nat.le_refl _))
          have xa := Lib.hid (xa.out.below hbN.out.1 (Nat.le_refl _))
          have honp := Lib.hid (honp.out.below hbN.out.1 (Nat.le_refl _))
          have xp := Lib.hid (xp.out.below hbN.out.1 (Nat.le_refl _))
          have hont := Lib.hid (hont.out.below hbN.out.1 (Nat.le_refl _))
          have xt := Lib.hid (xt.out.below hbN.out.1 (Nat.le_refl _))
          have xy := Lib.hid (xy.out.below hbN.out.1 (Nat.le_refl _))
          refine hno.mono ?_
          clear hno hwN
          rintro e wh ⟨rfl, hb⟩
          have hd := Lib.hid (below_step hb hd.out)
          have bc := Lib.hid (bc.out.below hb (Nat.le_refl _))
          have br := Lib.hid (br.out.below hb (Nat.le_refl _))
          have xa := Lib.hid (xa.out.below hb (Nat.le_refl _))
          have honp := Lib.hid (honp.out.below hb (Nat.le_refl _))
          have xp := Lib.hid (xp.out.below hb (Nat.le_refl _))
          have hont := Lib.hid (hont.out.below hb (Nat.le_refl _))
          have xt := Lib.hid (xt.out.below hb (Nat.le_refl _))
          have xy := Lib.hid (xy.out.below hb (Nat.le_refl _))
          clear hb hbN
          have y0 := xy.out.cell 0 rfl
          have y1 := xy.out.cell 1 rfl
          have y2 := xy.out.cell 2 rfl
          have y3 := xy.out.cell 3 rfl
          go_wp2
          go_ret
          exact ⟨rfl, hd.out⟩

set_option maxRecDepth 1000000 in
theorem leaves_lifted (os : Os) (started : os.Started) (H : Type) (enc : TypeId × Value → H) :
    ReturnsInHanded {} Try.checked os 3 .any (Rows.pageLeavesSpec.pre6 enc Try.prog Try.f3 Rows.pageLeavesRow.domain false) (Rows.pageLeavesSpec.post enc Try.prog Try.f3 false true false false) := by
  refine returnsInHanded_of_change (C := Try.checked) own started (by kernel_rfl) Try.func3
    (ChangeSpec.witness6 (enc := enc) (C := Try.checked) false ⟨#[], #[.agg #[.int .i64 0, .slice none 0 0, .slice none 0 0], .agg #[.int .i64 0, .int .u16 0, .int .i64 0, .string ⟨#[]⟩]], []⟩ 8 (by kernel_rfl) (by kernel_rfl) (by kernel_rfl) (by kernel_rfl)) ?_
  intro W base args ds gs before hval0 hW _ _
  have hval : ∀ (j : Nat) t v, Try.f3.params[j]? = some t → args[j]? = some v → Value.okWide Try.prog W .any base t v := hval0
  have hW' := hW
  obtain ⟨p, q, hA0, hV, rfl, _, _⟩ := hW
  have hA : DataW.TrodAll enc Try.prog W 0 (fun _ => true) true Try.f3.params.toList args.toList ds p := hA0
  rw [Try.params3] at hA hval
  obtain ⟨v0, v1, d0, d1, p0, p1, rfl, rfl, rfl, h0, h1⟩ := trodAll_two hA
  obtain ⟨rfl, rfl⟩ := trodVars_none hV
  obtain ⟨k0, rq0, rn0, rc0, kq0, kn0, kc0, x0, rfl, hc0⟩ := open_cont (hval 0 25 v0 rfl rfl) h0
  obtain ⟨⟨⟨rt1, ri1⟩, rv1, rs1⟩, rfl, hk1⟩ := open_row (hval 1 30 v1 rfl rfl) h1
  refine (leaves_law k0 rq0 rn0 rc0 kq0 kn0 kc0 x0 rt1 ri1 rv1 rs1 W hc0 hk1).mono fun e W' ⟨he, hb⟩ => ?_
  subst he
  exact ⟨_, rfl, law_post laidOut (of_decide_eq_true (by kernel_rfl)) rfl (by kernel_rfl) Try.underlying4 hW' ⟨rfl, rfl, rfl⟩ hb⟩

set_option maxRecDepth 1000000 in
theorem leaves_holds : Rows.PageLeavesSaid :=
  OpenClaim.holds_of_wide 3 Try.f3 rfl rfl rfl rfl rfl rfl rfl ⟨rfl, rfl, rfl, rfl, rfl⟩ rfl rfl rfl rfl rfl (by kernel_rfl) Try.func3 (by kernel_rfl)
    (of_decide_eq_true (by kernel_rfl)) (by unfold Func.isWrapper; first | (rw [if_pos (by decide +kernel)]; kernel_rfl) | (rw [if_neg (by decide +kernel)]; exact ⟨rfl, rfl⟩))
    (fun os started H enc _ => leaves_lifted os started H enc)
end Go.Proofs.Ytaiepdhmlmnggaa
