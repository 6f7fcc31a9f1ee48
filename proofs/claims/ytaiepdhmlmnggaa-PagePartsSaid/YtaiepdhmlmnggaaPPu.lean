/- Put of page. -/
import Derived.Test.YtaiepdhmlmnggaaPGt
namespace Go.Proofs.Ytaiepdhmlmnggaa
open Go.RowKit

def zV : CV := ⟨0, none, 0, 0, none, 0, 0⟩
theorem zV_on (w : World) : zV.On w zeroC := ⟨rfl, RowsOn.none_ _, KidsOn.none_ _⟩
def PutR (c : ContD) (r : RowD) (d : ContD) (e : Int) : Prop := (kindE c 1 211 e ∧ e ≠ 0 ∧ d = zeroC) ∨ (GoodC c ∧ c.kind = 1 ∧ ((chkRowC r ≠ 0 ∧ e = 151 ∧ d = zeroC) ∨
  (chkRowC r = 0 ∧ ((isR c.rows r.key = true ∧ e = 0 ∧ d = ⟨1, c.rows.take (posR c.rows r.key) ++ r :: c.rows.drop (posR c.rows r.key + 1), []⟩) ∨ (isR c.rows r.key = false ∧ sizeC c = 4 ∧ e = 6 ∧ d = zeroC) ∨
    (isR c.rows r.key = false ∧ sizeC c ≠ 4 ∧ e = 0 ∧ d = ⟨1, c.rows.take (posR c.rows r.key) ++ r :: c.rows.drop (posR c.rows r.key), []⟩)))))
def PutPost (c : ContD) (r : RowD) (w : World) (e : Ending) (w' : World) : Prop := ∃ (va : CV) (d : ContD) (x : Int), e = .returned (.tuple #[va.val, .int .i64 x]) ∧ PutR c r d x ∧ va.On w' d ∧ Below w.heap.size w w'

set_option maxRecDepth 100000 in
set_option maxHeartbeats 4000000 in
theorem put_any (u : CV) (c : ContD) (t id v : Int) (s : ByteArray) (w : World) (h : u.On w c) (hok : RowOk ⟨⟨t, id⟩, v, s⟩) :
    Calls Try.prog 17 #[u.val, .agg #[.int .i64 t, .int .u16 id, .int .i64 v, .string s]] w (PutPost c ⟨⟨t, id⟩, v, s⟩ w) := by
  have hck := Lib.hid (fun x (hu : Below w.heap.size w x) => checkLeaf_any u c x (h.below hu (Nat.le_refl _)))
  have hsml : Hid (GoodC c → u.rn ≤ 1000000) := fun hg => by have := good_size hg; have := h.rl; unfold sizeC at *; omega
  have hra := Lib.hid (fun (hg : GoodC c) x (hu : Below w.heap.size w x) => rowAt_any u c.rows t id x (h.below hu (Nat.le_refl _)).rows (hsml.out hg))
  have hfu := Lib.hid (fun b (hb : b = true ↔ (GoodC c ∧ c.kind ≠ 0) ∧ sizeC c = 4) x (hu : Below w.heap.size w x) => full_any u c b hb x (h.below hu (Nat.le_refl _)))
  have hcr := Lib.hid (fun x => checkRow_any t id v s x hok.note)
  have hrows : Hid (RowsOn w u.rq u.rn u.rc c.rows) := h.rows
  have hok' := Lib.hid hok
  obtain ⟨k, rq, rn, rc, kq, kn, kc⟩ := u
  have hrows : Hid (RowsOn w rq rn rc c.rows) := hrows
  have hsml : Hid (GoodC c → rn ≤ 1000000) := hsml
  obtain ⟨W, hW⟩ : ∃ W, ((w.alloc (.cells #[.int .i64 k, .slice rq rn rc, .slice kq kn kc] 25)).alloc (.cells #[.int .i64 t, .int .u16 id, .int .i64 v, .string s] 30)).alloc (.cells #[.int .i64 0, .slice none 0 0, .slice none 0 0] 25) = W := ⟨_, rfl⟩
  have hbx := Lib.hid (three_boxes (xs := [.int .i64 k, .slice rq rn rc, .slice kq kn kc]) (ys := [.int .i64 t, .int .u16 id, .int .i64 v, .string s]) (zs := [.int .i64 0, .slice none 0 0, .slice none 0 0]) hW)
  have hs := sizeCont (.int .i64 k) (.slice rq rn rc) (.slice kq kn kc)
  have hs2 := sizeRow t id v s
  have hs3 := sizeKey t id
  have hz := sizeCont (.int .i64 0) (.slice none 0 0) (.slice none 0 0)
  clear h hok
  show Calls _ _ #[.agg #[.int .i64 k, .slice rq rn rc, .slice kq kn kc], .agg #[.int .i64 t, .int .u16 id, .int .i64 v, .string s]] _ _
  go_enter Try.func17, Try.ntmps17
  go_wp2_with (first
    | (with_reducible refine wpList_load_at rfl 25 (.tmp 2) rfl Try.underlying25 rfl hs rfl hbx.out.2.1.all ?_))
  refine (hck.out W hbx.out.1).mono ?_
  clear hck hW
  rintro e w1 ⟨x, rfl, hx, hb1⟩
  have hd1 := Lib.hid (below_step hb1 hbx.out.1)
  have bx1 := Lib.hid (hbx.out.2.1.below hb1 (Nat.le_refl _))
  have by1 := Lib.hid (hbx.out.2.2.1.below hb1 (Nat.le_refl _))
  have br1 := Lib.hid (hbx.out.2.2.2.1.below hb1)
  have hbz : Hid (w.heap.size ≤ w.heap.size + 2) := by show _ ≤ _; omega
  clear hb1 hbx
  have hk1 := Lib.hid hx
  rcases hx with ⟨rfl, _⟩ | ⟨_, _, rfl⟩ | ⟨hg, hkd, rfl⟩
  · clear hra hrows hfu hcr hsml
    go_wp2_with (first
      | ((with_reducible refine wpList_store_at rfl 25 (.tmp 4) (.tmp 14) rfl (o := 0) (vs := [.int .i64 0, .slice none 0 0, .slice none 0 0]) rfl rfl br1.out hz (Nat.le_refl _) (cont_one _ _ _ _ _ _ _) ?_)
         intro w9 h9 hg9
         have q9 := Lib.hid h9
         have hg9' := Lib.hid hg9
         clear h9 hg9))
    have s9 : RowV 25 w9 (w.heap.size + 2) [.int .i64 0, .slice none 0 0, .slice none 0 0] := q9.out
    have m90 := s9.cell 0
    have m91 := s9.cell 1
    have m92 := s9.cell 2
    simp only [List.getElem?_cons_zero, List.getElem?_cons_succ] at m90 m91 m92
    refine bodyPost_ret (v := .tuple #[CV.val zV, .int .i64 160]) (by simp [results, Try.results17, go_sem, m90, m91, m92, zV]) rfl ?_
    exact ⟨zV, zeroC, 160, rfl, .inl ⟨hk1.out, by decide, rfl⟩, zV_on _, Gr.below hg9'.out hd1.out hbz.out⟩
  · clear hra hrows hfu hcr hsml
    go_wp2_with (first
      | ((with_reducible refine wpList_store_at rfl 25 (.tmp 4) (.tmp 14) rfl (o := 0) (vs := [.int .i64 0, .slice none 0 0, .slice none 0 0]) rfl rfl br1.out hz (Nat.le_refl _) (cont_one _ _ _ _ _ _ _) ?_)
         intro w9 h9 hg9
         have q9 := Lib.hid h9
         have hg9' := Lib.hid hg9
         clear h9 hg9))
    have s9 : RowV 25 w9 (w.heap.size + 2) [.int .i64 0, .slice none 0 0, .slice none 0 0] := q9.out
    have m90 := s9.cell 0
    have m91 := s9.cell 1
    have m92 := s9.cell 2
    simp only [List.getElem?_cons_zero, List.getElem?_cons_succ] at m90 m91 m92
    refine bodyPost_ret (v := .tuple #[CV.val zV, .int .i64 211]) (by simp [results, Try.results17, go_sem, m90, m91, m92, zV]) rfl ?_
    exact ⟨zV, zeroC, 211, rfl, .inl ⟨hk1.out, by decide, rfl⟩, zV_on _, Gr.below hg9'.out hd1.out hbz.out⟩
  · have hg' := Lib.hid hg
    have hkd' := Lib.hid hkd
    have hrn := hsml.out hg
    clear hg hkd hk1 hsml
    go_wp2_with (first
      | (with_reducible refine wpList_load_at rfl 30 (.tmp 3) rfl Try.underlying30 rfl hs2 rfl by1.out.all ?_))
    refine (hcr.out w1).mono ?_
    clear hcr
    rintro e w2 ⟨rfl, hb2⟩
    have hd2 := Lib.hid (below_step hb2 hd1.out)
    have bx2 := Lib.hid (bx1.out.below hb2 (Nat.le_refl _))
    have by2 := Lib.hid (by1.out.below hb2 (Nat.le_refl _))
    have bk2 := Lib.hid (Boxed.key by2.out)
    have br2 := Lib.hid (br1.out.below hb2)
    clear hb2 bx1 by1 br1
    rcases chkRowC_or ⟨⟨t, id⟩, v, s⟩ with he | he
    rotate_left
    · have he' := Lib.hid he
      rw [he]
      clear hra hrows hfu he
      go_wp2_with (first
        | ((with_reducible refine wpList_store_at rfl 25 (.tmp 4) (.tmp 20) rfl (o := 0) (vs := [.int .i64 0, .slice none 0 0, .slice none 0 0]) rfl rfl br2.out hz (Nat.le_refl _) (cont_one _ _ _ _ _ _ _) ?_)
           intro w9 h9 hg9
           have q9 := Lib.hid h9
           have hg9' := Lib.hid hg9
           clear h9 hg9))
      have s9 : RowV 25 w9 (w.heap.size + 2) [.int .i64 0, .slice none 0 0, .slice none 0 0] := q9.out
      have m90 := s9.cell 0
      have m91 := s9.cell 1
      have m92 := s9.cell 2
      simp only [List.getElem?_cons_zero, List.getElem?_cons_succ] at m90 m91 m92
      refine bodyPost_ret (v := .tuple #[CV.val zV, .int .i64 151]) (by simp [results, Try.results17, go_sem, m90, m91, m92, zV]) rfl ?_
      exact ⟨zV, zeroC, 151, rfl, .inr ⟨hg'.out, hkd'.out, .inl ⟨by rw [he'.out]; decide, rfl, rfl⟩⟩, zV_on _, Gr.below hg9'.out hd2.out hbz.out⟩
    · have he' := Lib.hid he
      rw [he]
      clear he
      go_wp2_with (first
        | (with_reducible refine wpList_load_at rfl 25 (.tmp 2) rfl Try.underlying25 rfl hs rfl bx2.out.all ?_)
        | (with_reducible refine wpList_load_at rfl 28 (.tmp 24) rfl Try.underlying28 rfl hs3 rfl bk2.out ?_))
      refine (hra.out hg'.out w2 hd2.out).mono ?_
      clear hra
      rintro e w3 ⟨rfl, hb3⟩
      have hd3 := Lib.hid (below_step hb3 hd2.out)
      have bx3 := Lib.hid (bx2.out.below hb3 (Nat.le_refl _))
      have by3 := Lib.hid (by2.out.below hb3 (Nat.le_refl _))
      have br3 := Lib.hid (br2.out.below hb3)
      have hr3 := Lib.hid (hrows.out.below hd3.out (Nat.le_refl _))
      clear hb3 bx2 by2 br2 bk2
      obtain ⟨b, hb⟩ : ∃ b, isR c.rows ⟨t, id⟩ = b := ⟨_, rfl⟩
      obtain ⟨p, hp⟩ : ∃ p, posR c.rows ⟨t, id⟩ = p := ⟨_, rfl⟩
      rw [hb, hp]
      have hb' := Lib.hid hb
      have hp' := Lib.hid hp
      have his : Hid (b = match c.rows[p]? with | none => false | some r => eqK r.key ⟨t, id⟩) := by show _ = _; rw [← hb, ← hp]; rfl
      have hpl : Hid (p ≤ rn) := by show p ≤ rn; rw [← hp, ← hrows.out.len]; exact posR_le _ _
      clear hb hp
      cases b with
      | true =>
        have hlt : p < rn := by
          rcases Nat.lt_or_ge p rn with h | h
          · exact h
          · have h1 := his.out
            rw [List.getElem?_eq_none (by rw [hrows.out.len]; exact h)] at h1
            cases h1
        have e1 : IntKind.i64.wrap ((p : Int) + 1) = (p : Int) + 1 := IntWalk.i64_in _ (by omega)
        have c1 := bx3.out.cell 1 rfl
        have br4 : Hid (RowV 25 (w3.alloc (.cells #[.int .i64 t, .int .u16 id, .int .i64 v, .string s] 30)) (w.heap.size + 2) [.int .i64 0, .slice none 0 0, .slice none 0 0]) := br3.out.below ((Below.refl _ _).alloc (Nat.le_refl _) _)
        go_wp2_with (first
          | (with_reducible refine wpList_load_at rfl 30 (.tmp 3) rfl Try.underlying30 rfl hs2 rfl by3.out.all ?_)
          | (go_at_call 49
             refine (spliced_set rq rn rc p _ c.rows ⟨⟨t, id⟩, v, s⟩ _ (hr3.out.below ((Below.refl _ _).alloc (Nat.le_refl _) _) (Nat.le_refl _)) (by first | exact hlt | exact hpl.out) (by omega) (RowV.made w3 [.int .i64 t, .int .u16 id, .int .i64 v, .string s]) hok'.out).mono ?_
             rintro e w4 ⟨q4, c4, rfl, h7, h8, h10⟩
             have hr7 := Lib.hid h7
             have hf7 : Hid (∀ a, q4 = some a → a.block ≠ w.heap.size + 2) := fun a ha => by have h1 := h10 a ha; have h2 := br3.out.lt; simp only [World.size_alloc] at h1; omega
             have h8' : Below w3.heap.size w3 w4 := ((Below.refl w3.heap.size w3).alloc (Nat.le_refl _) _).trans (h8.mono (by simp))
             have hb8 := Lib.hid (below_step h8' hd3.out)
             have br5 := Lib.hid (br3.out.below h8')
             clear h7 h8 h8' h10)
          | (go_at_call 48
             refine (leafOf_any q4 _ c4 w4).mono ?_
             rintro e w5 ⟨rfl, hb9⟩
             have hd5 := Lib.hid (below_step hb9 hb8.out)
             have br6 := Lib.hid (br5.out.below hb9)
             have hr8 := Lib.hid (hr7.out.below hb9 (Nat.le_refl _))
             clear hb9)
          | ((with_reducible refine wpList_store_at rfl 25 (.tmp 4) (.tmp 38) rfl (o := 0) (vs := [.int .i64 1, .slice q4 (rn) c4, .slice none 0 0]) rfl rfl br6.out (sizeCont (.int .i64 1) (.slice q4 _ c4) (.slice none 0 0)) (Nat.le_refl _) (cont_one _ _ _ _ _ _ _) ?_)
             intro w9 h9 hg9
             have q9 := Lib.hid h9
             have hg9' := Lib.hid hg9
             clear h9 hg9))
        have s9 : RowV 25 w9 (w.heap.size + 2) [.int .i64 1, .slice q4 (rn) c4, .slice none 0 0] := q9.out
        have m90 := s9.cell 0
        have m91 := s9.cell 1
        have m92 := s9.cell 2
        simp only [List.getElem?_cons_zero, List.getElem?_cons_succ] at m90 m91 m92
        refine bodyPost_ret (v := .tuple #[CV.val ⟨1, q4, rn, c4, none, 0, 0⟩, .int .i64 0]) (by simp [results, Try.results17, go_sem, m90, m91, m92]) rfl ?_
        have hgr := Lib.hid (hr8.out.gr hg9'.out hf7.out)
        exact ⟨⟨1, q4, rn, c4, none, 0, 0⟩, ⟨1, _, []⟩, 0, rfl, .inr ⟨hg'.out, hkd'.out, .inr ⟨he'.out, .inl ⟨hb'.out, rfl, by rw [hp'.out]⟩⟩⟩, ⟨rfl, hgr.out, KidsOn.none_ _⟩, Gr.below hg9'.out hd5.out hbz.out⟩
      | false =>
        by_cases h4 : sizeC c = 4
        · have hf4 := Lib.hid (hfu.out true ⟨fun _ => ⟨⟨hg'.out, by rw [hkd'.out]; decide⟩, h4⟩, fun _ => rfl⟩ w3 hd3.out)
          have h4' := Lib.hid h4
          clear hfu h4
          go_wp2_with (first
            | (with_reducible refine wpList_load_at rfl 25 (.tmp 2) rfl Try.underlying25 rfl hs rfl bx3.out.all ?_))
          refine hf4.out.mono ?_
          clear hf4
          rintro e w4 ⟨rfl, hb4⟩
          have hd4 := Lib.hid (below_step hb4 hd3.out)
          have br4 := Lib.hid (br3.out.below hb4)
          clear hb4
          go_wp2_with (first
            | ((with_reducible refine wpList_store_at rfl 25 (.tmp 4) (.tmp 41) rfl (o := 0) (vs := [.int .i64 0, .slice none 0 0, .slice none 0 0]) rfl rfl br4.out hz (Nat.le_refl _) (cont_one _ _ _ _ _ _ _) ?_)
               intro w9 h9 hg9
               have q9 := Lib.hid h9
               have hg9' := Lib.hid hg9
               clear h9 hg9))
          have s9 : RowV 25 w9 (w.heap.size + 2) [.int .i64 0, .slice none 0 0, .slice none 0 0] := q9.out
          have m90 := s9.cell 0
          have m91 := s9.cell 1
          have m92 := s9.cell 2
          simp only [List.getElem?_cons_zero, List.getElem?_cons_succ] at m90 m91 m92
          refine bodyPost_ret (v := .tuple #[CV.val zV, .int .i64 6]) (by simp [results, Try.results17, go_sem, m90, m91, m92, zV]) rfl ?_
          exact ⟨zV, zeroC, 6, rfl, .inr ⟨hg'.out, hkd'.out, .inr ⟨he'.out, .inr (.inl ⟨hb'.out, h4'.out, rfl, rfl⟩)⟩⟩, zV_on _, Gr.below hg9'.out hd4.out hbz.out⟩
        · have hf4 := Lib.hid (hfu.out false ⟨fun h => (by cases h), fun h => absurd h.2 h4⟩ w3 hd3.out)
          have h4' := Lib.hid h4
          clear hfu h4
          go_wp2_with (first
            | (with_reducible refine wpList_load_at rfl 25 (.tmp 2) rfl Try.underlying25 rfl hs rfl bx3.out.all ?_))
          refine hf4.out.mono ?_
          clear hf4
          rintro e w3' ⟨rfl, hb4⟩
          have hd3' := Lib.hid (below_step hb4 hd3.out)
          have bx3' := Lib.hid (bx3.out.below hb4 (Nat.le_refl _))
          have by3' := Lib.hid (by3.out.below hb4 (Nat.le_refl _))
          have br3' := Lib.hid (br3.out.below hb4)
          have hr3' := Lib.hid (hr3.out.below hb4 (Nat.le_refl _))
          have c1 := bx3'.out.cell 1 rfl
          clear hb4 bx3 by3 br3 hr3 hd3
          go_wp2_with (first
            | (with_reducible refine wpList_load_at rfl 30 (.tmp 3) rfl Try.underlying30 rfl hs2 rfl by3'.out.all ?_)
            | (go_at_call 49
               refine (spliced_ins rq rn rc p _ c.rows ⟨⟨t, id⟩, v, s⟩ _ (hr3'.out.below ((Below.refl _ _).alloc (Nat.le_refl _) _) (Nat.le_refl _)) (by first | exact hlt | exact hpl.out) (by omega) (RowV.made w3' [.int .i64 t, .int .u16 id, .int .i64 v, .string s]) hok'.out).mono ?_
               rintro e w4 ⟨q4, c4, rfl, h7, h8, h10⟩
               have hr7 := Lib.hid h7
               have hf7 : Hid (∀ a, q4 = some a → a.block ≠ w.heap.size + 2) := fun a ha => by have h1 := h10 a ha; have h2 := br3'.out.lt; simp only [World.size_alloc] at h1; omega
               have h8' : Below w3'.heap.size w3' w4 := ((Below.refl w3'.heap.size w3').alloc (Nat.le_refl _) _).trans (h8.mono (by simp))
               have hb8 := Lib.hid (below_step h8' hd3'.out)
               have br5 := Lib.hid (br3'.out.below h8')
               clear h7 h8 h8' h10)
            | (go_at_call 48
               refine (leafOf_any q4 _ c4 w4).mono ?_
               rintro e w5 ⟨rfl, hb9⟩
               have hd5 := Lib.hid (below_step hb9 hb8.out)
               have br6 := Lib.hid (br5.out.below hb9)
               have hr8 := Lib.hid (hr7.out.below hb9 (Nat.le_refl _))
               clear hb9)
            | ((with_reducible refine wpList_store_at rfl 25 (.tmp 4) (.tmp 49) rfl (o := 0) (vs := [.int .i64 1, .slice q4 (rn + 1) c4, .slice none 0 0]) rfl rfl br6.out (sizeCont (.int .i64 1) (.slice q4 _ c4) (.slice none 0 0)) (Nat.le_refl _) (cont_one _ _ _ _ _ _ _) ?_)
               intro w9 h9 hg9
               have q9 := Lib.hid h9
               have hg9' := Lib.hid hg9
               clear h9 hg9))
          have s9 : RowV 25 w9 (w.heap.size + 2) [.int .i64 1, .slice q4 (rn + 1) c4, .slice none 0 0] := q9.out
          have m90 := s9.cell 0
          have m91 := s9.cell 1
          have m92 := s9.cell 2
          simp only [List.getElem?_cons_zero, List.getElem?_cons_succ] at m90 m91 m92
          refine bodyPost_ret (v := .tuple #[CV.val ⟨1, q4, rn + 1, c4, none, 0, 0⟩, .int .i64 0]) (by simp [results, Try.results17, go_sem, m90, m91, m92]) rfl ?_
          have hgr := Lib.hid (hr8.out.gr hg9'.out hf7.out)
          exact ⟨⟨1, q4, rn + 1, c4, none, 0, 0⟩, ⟨1, _, []⟩, 0, rfl, .inr ⟨hg'.out, hkd'.out, .inr ⟨he'.out, .inr (.inr ⟨hb'.out, h4'.out, rfl, by rw [hp'.out]⟩)⟩⟩, ⟨rfl, hgr.out, KidsOn.none_ _⟩, Gr.below hg9'.out hd5.out hbz.out⟩
end Go.Proofs.Ytaiepdhmlmnggaa
