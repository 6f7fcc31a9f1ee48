/- Take of page. -/
import Derived.Test.YtaiepdhmlmnggaaPPu
namespace Go.Proofs.Ytaiepdhmlmnggaa
open Go.RowKit

theorem four_boxes {w W : World} {T1 T2 T3 T4 : TypeId} {xs ys zs us : List Value} (h : (((w.alloc (.cells xs.toArray T1)).alloc (.cells ys.toArray T2)).alloc (.cells zs.toArray T3)).alloc (.cells us.toArray T4) = W) : Below w.heap.size w W ∧ Boxed W w.heap.size xs ∧ Boxed W (w.heap.size + 1) ys ∧ RowV T3 W (w.heap.size + 2) zs ∧ RowV T4 W (w.heap.size + 3) us ∧ W.heap.size = w.heap.size + 4 := by
  obtain ⟨W3, h3⟩ : ∃ W3, ((w.alloc (.cells xs.toArray T1)).alloc (.cells ys.toArray T2)).alloc (.cells zs.toArray T3) = W3 := ⟨_, rfl⟩
  obtain ⟨b1, b2, b3, b4, b5⟩ := three_boxes h3
  rw [h3] at h
  have hb : Below W3.heap.size W3 W := by rw [← h]; exact (Below.refl _ _).alloc (Nat.le_refl _) _
  have h4 := RowV.made (T := T4) W3 us
  rw [h, b5] at h4
  refine ⟨below_step hb b1, b2.below hb (Nat.le_refl _), b3.below hb (Nat.le_refl _), b4.below hb, h4, ?_⟩
  rw [← h, World.size_alloc, b5]
def TakeR (c : ContD) (k : KeyD) (d : ContD) (r : RowD) (e : Int) : Prop := (kindE c 1 211 e ∧ e ≠ 0 ∧ d = zeroC ∧ r = zR) ∨ (GoodC c ∧ c.kind = 1 ∧ ((isR c.rows k = false ∧ e = 4 ∧ d = zeroC ∧ r = zR) ∨
  (isR c.rows k = true ∧ e = 0 ∧ c.rows[posR c.rows k]? = some r ∧ d = ⟨1, c.rows.take (posR c.rows k) ++ c.rows.drop (posR c.rows k + 1), []⟩)))
def TakePost (c : ContD) (k : KeyD) (w : World) (e : Ending) (w' : World) : Prop := ∃ (va : CV) (d : ContD) (r : RowD) (x : Int), e = .returned (.tuple #[va.val, rowV r, .int .i64 x]) ∧ TakeR c k d r x ∧ va.On w' d ∧ RowOk r ∧ Below w.heap.size w w'

set_option maxRecDepth 100000 in
set_option maxHeartbeats 4000000 in
theorem take_any (v : CV) (c : ContD) (kt ki : Int) (w : World) (h : v.On w c) :
    Calls Try.prog 18 #[v.val, .agg #[.int .i64 kt, .int .u16 ki]] w (TakePost c ⟨kt, ki⟩ w) := by
  have hck := Lib.hid (fun u (hu : Below w.heap.size w u) => checkLeaf_any v c u (h.below hu (Nat.le_refl _)))
  have hsml : Hid (GoodC c → v.rn ≤ 1000000) := fun hg => by have := good_size hg; have := h.rl; unfold sizeC at *; omega
  have hra := Lib.hid (fun (hg : GoodC c) u (hu : Below w.heap.size w u) => rowAt_any v c.rows kt ki u (h.below hu (Nat.le_refl _)).rows (hsml.out hg))
  have hrows : Hid (RowsOn w v.rq v.rn v.rc c.rows) := h.rows
  obtain ⟨k, rq, rn, rc, kq, kn, kc⟩ := v
  have hrows : Hid (RowsOn w rq rn rc c.rows) := hrows
  have hsml : Hid (GoodC c → rn ≤ 1000000) := hsml
  obtain ⟨W, hW⟩ : ∃ W, (((w.alloc (.cells #[.int .i64 k, .slice rq rn rc, .slice kq kn kc] 25)).alloc (.cells #[.int .i64 kt, .int .u16 ki] 28)).alloc (.cells #[.int .i64 0, .slice none 0 0, .slice none 0 0] 25)).alloc (.cells #[.int .i64 0, .int .u16 0, .int .i64 0, .string ⟨#[]⟩] 30) = W := ⟨_, rfl⟩
  have hbx := Lib.hid (four_boxes (xs := [.int .i64 k, .slice rq rn rc, .slice kq kn kc]) (ys := [.int .i64 kt, .int .u16 ki]) (zs := [.int .i64 0, .slice none 0 0, .slice none 0 0]) (us := [.int .i64 0, .int .u16 0, .int .i64 0, .string ⟨#[]⟩]) hW)
  have hs := sizeCont (.int .i64 k) (.slice rq rn rc) (.slice kq kn kc)
  have hs2 := sizeKey kt ki
  have hz := sizeCont (.int .i64 0) (.slice none 0 0) (.slice none 0 0)
  have hy := sizeRow 0 0 0 ⟨#[]⟩
  have z1 : ∀ v ∈ ([.int .i64 0, .int .u16 0, .int .i64 0, .string ⟨#[]⟩] : List Value), v.oneCell' = true := RowD.one zR
  have hne : Hid (w.heap.size + 3 ≠ w.heap.size + 2) := by show _ ≠ _; omega
  clear h
  show Calls _ _ #[.agg #[.int .i64 k, .slice rq rn rc, .slice kq kn kc], .agg #[.int .i64 kt, .int .u16 ki]] _ _
  go_enter Try.func18, Try.ntmps18
  go_wp2_with (first
    | (with_reducible refine wpList_load_at rfl 25 (.tmp 2) rfl Try.underlying25 rfl hs rfl hbx.out.2.1.all ?_))
  refine (hck.out W hbx.out.1).mono ?_
  clear hck hW
  rintro e w1 ⟨x, rfl, hx, hb1⟩
  have hd1 := Lib.hid (below_step hb1 hbx.out.1)
  have bx1 := Lib.hid (hbx.out.2.1.below hb1 (Nat.le_refl _))
  have by1 := Lib.hid (hbx.out.2.2.1.below hb1 (Nat.le_refl _))
  have br1 := Lib.hid (hbx.out.2.2.2.1.below hb1)
  have bs1 := Lib.hid (hbx.out.2.2.2.2.1.below hb1)
  have hbz : Hid (w.heap.size ≤ w.heap.size + 2) := by show _ ≤ _; omega
  have hby : Hid (w.heap.size ≤ w.heap.size + 3) := by show _ ≤ _; omega
  clear hb1 hbx
  have hk1 := Lib.hid hx
  rcases hx with ⟨rfl, _⟩ | ⟨_, _, rfl⟩ | ⟨hg, hkd, rfl⟩
  · clear hra hrows hsml
    go_wp2_with (first
      | ((with_reducible refine wpList_store_at rfl 25 (.tmp 4) (.tmp 14) rfl (o := 0) (vs := [.int .i64 0, .slice none 0 0, .slice none 0 0]) rfl rfl br1.out hz (Nat.le_refl _) (cont_one _ _ _ _ _ _ _) ?_)
         intro w8 h8 hg8
         have q8 := Lib.hid h8
         have hg8' := Lib.hid hg8
         have bs8 := Lib.hid (RowV.gr bs1.out hg8 hne.out)
         clear h8 hg8)
      | ((with_reducible refine wpList_store_at rfl 30 (.tmp 5) (.tmp 15) rfl (o := 0) (vs := [.int .i64 0, .int .u16 0, .int .i64 0, .string ⟨#[]⟩]) rfl rfl bs8.out hy (Nat.le_refl _) z1 ?_)
         intro w9 h9 hg9
         have q9 := Lib.hid h9
         have hg9' := Lib.hid hg9
         clear h9 hg9))
    have q89 := Lib.hid (RowV.gr q8.out hg9'.out (Ne.symm hne.out))
    have s9 : RowV 30 w9 (w.heap.size + 3) [.int .i64 0, .int .u16 0, .int .i64 0, .string ⟨#[]⟩] := q9.out
    have m90 := s9.cell 0
    have m91 := s9.cell 1
    have m92 := s9.cell 2
    have m93 := s9.cell 3
    simp only [List.getElem?_cons_zero, List.getElem?_cons_succ] at m90 m91 m92 m93
    have s8 : RowV 25 w9 (w.heap.size + 2) [.int .i64 0, .slice none 0 0, .slice none 0 0] := q89.out
    have m80 := s8.cell 0
    have m81 := s8.cell 1
    have m82 := s8.cell 2
    simp only [List.getElem?_cons_zero, List.getElem?_cons_succ] at m80 m81 m82
    refine bodyPost_ret (v := .tuple #[CV.val zV, rowV zR, .int .i64 160]) (by simp [results, Try.results18, go_sem, m90, m91, m92, m93, m80, m81, m82, zV, zR, rowV]) rfl ?_
    exact ⟨zV, zeroC, zR, 160, rfl, .inl ⟨hk1.out, by decide, rfl, rfl⟩, zV_on _, zR_ok, Gr.below hg9'.out (Gr.below hg8'.out hd1.out hbz.out) hby.out⟩
  · clear hra hrows hsml
    go_wp2_with (first
      | ((with_reducible refine wpList_store_at rfl 25 (.tmp 4) (.tmp 14) rfl (o := 0) (vs := [.int .i64 0, .slice none 0 0, .slice none 0 0]) rfl rfl br1.out hz (Nat.le_refl _) (cont_one _ _ _ _ _ _ _) ?_)
         intro w8 h8 hg8
         have q8 := Lib.hid h8
         have hg8' := Lib.hid hg8
         have bs8 := Lib.hid (RowV.gr bs1.out hg8 hne.out)
         clear h8 hg8)
      | ((with_reducible refine wpList_store_at rfl 30 (.tmp 5) (.tmp 15) rfl (o := 0) (vs := [.int .i64 0, .int .u16 0, .int .i64 0, .string ⟨#[]⟩]) rfl rfl bs8.out hy (Nat.le_refl _) z1 ?_)
         intro w9 h9 hg9
         have q9 := Lib.hid h9
         have hg9' := Lib.hid hg9
         clear h9 hg9))
    have q89 := Lib.hid (RowV.gr q8.out hg9'.out (Ne.symm hne.out))
    have s9 : RowV 30 w9 (w.heap.size + 3) [.int .i64 0, .int .u16 0, .int .i64 0, .string ⟨#[]⟩] := q9.out
    have m90 := s9.cell 0
    have m91 := s9.cell 1
    have m92 := s9.cell 2
    have m93 := s9.cell 3
    simp only [List.getElem?_cons_zero, List.getElem?_cons_succ] at m90 m91 m92 m93
    have s8 : RowV 25 w9 (w.heap.size + 2) [.int .i64 0, .slice none 0 0, .slice none 0 0] := q89.out
    have m80 := s8.cell 0
    have m81 := s8.cell 1
    have m82 := s8.cell 2
    simp only [List.getElem?_cons_zero, List.getElem?_cons_succ] at m80 m81 m82
    refine bodyPost_ret (v := .tuple #[CV.val zV, rowV zR, .int .i64 211]) (by simp [results, Try.results18, go_sem, m90, m91, m92, m93, m80, m81, m82, zV, zR, rowV]) rfl ?_
    exact ⟨zV, zeroC, zR, 211, rfl, .inl ⟨hk1.out, by decide, rfl, rfl⟩, zV_on _, zR_ok, Gr.below hg9'.out (Gr.below hg8'.out hd1.out hbz.out) hby.out⟩
  · have hg' := Lib.hid hg
    have hkd' := Lib.hid hkd
    have hrn := hsml.out hg
    clear hg hkd hk1 hsml
    go_wp2_with (first
      | (with_reducible refine wpList_load_at rfl 25 (.tmp 2) rfl Try.underlying25 rfl hs rfl bx1.out.all ?_)
      | (with_reducible refine wpList_load_at rfl 28 (.tmp 3) rfl Try.underlying28 rfl hs2 rfl by1.out.all ?_))
    refine (hra.out hg'.out w1 hd1.out).mono ?_
    clear hra
    rintro e w2 ⟨rfl, hb2⟩
    have hd2 := Lib.hid (below_step hb2 hd1.out)
    have bx2 := Lib.hid (bx1.out.below hb2 (Nat.le_refl _))
    have br2 := Lib.hid (br1.out.below hb2)
    have bs2 := Lib.hid (bs1.out.below hb2)
    have hlz : Hid (w.heap.size < w2.heap.size) := by have := br2.out.lt; show _ < _; omega
    clear hb2 bx1 by1 br1 bs1
    obtain ⟨b, hb⟩ : ∃ b, isR c.rows ⟨kt, ki⟩ = b := ⟨_, rfl⟩
    obtain ⟨p, hp⟩ : ∃ p, posR c.rows ⟨kt, ki⟩ = p := ⟨_, rfl⟩
    rw [hb, hp]
    have hb' := Lib.hid hb
    have hp' := Lib.hid hp
    have his : Hid (b = match c.rows[p]? with | none => false | some r => eqK r.key ⟨kt, ki⟩) := by show _ = _; rw [← hb, ← hp]; rfl
    clear hb hp
    cases b with
    | false =>
      go_wp2_with (first
        | ((with_reducible refine wpList_store_at rfl 25 (.tmp 4) (.tmp 25) rfl (o := 0) (vs := [.int .i64 0, .slice none 0 0, .slice none 0 0]) rfl rfl br2.out hz (Nat.le_refl _) (cont_one _ _ _ _ _ _ _) ?_)
           intro w8 h8 hg8
           have q8 := Lib.hid h8
           have hg8' := Lib.hid hg8
           have bs8 := Lib.hid (RowV.gr bs2.out hg8 hne.out)
           clear h8 hg8)
        | ((with_reducible refine wpList_store_at rfl 30 (.tmp 5) (.tmp 26) rfl (o := 0) (vs := [.int .i64 0, .int .u16 0, .int .i64 0, .string ⟨#[]⟩]) rfl rfl bs8.out hy (Nat.le_refl _) z1 ?_)
           intro w9 h9 hg9
           have q9 := Lib.hid h9
           have hg9' := Lib.hid hg9
           clear h9 hg9))
      have q89 := Lib.hid (RowV.gr q8.out hg9'.out (Ne.symm hne.out))
      have s9 : RowV 30 w9 (w.heap.size + 3) [.int .i64 0, .int .u16 0, .int .i64 0, .string ⟨#[]⟩] := q9.out
      have m90 := s9.cell 0
      have m91 := s9.cell 1
      have m92 := s9.cell 2
      have m93 := s9.cell 3
      simp only [List.getElem?_cons_zero, List.getElem?_cons_succ] at m90 m91 m92 m93
      have s8 : RowV 25 w9 (w.heap.size + 2) [.int .i64 0, .slice none 0 0, .slice none 0 0] := q89.out
      have m80 := s8.cell 0
      have m81 := s8.cell 1
      have m82 := s8.cell 2
      simp only [List.getElem?_cons_zero, List.getElem?_cons_succ] at m80 m81 m82
      refine bodyPost_ret (v := .tuple #[CV.val zV, rowV zR, .int .i64 4]) (by simp [results, Try.results18, go_sem, m90, m91, m92, m93, m80, m81, m82, zV, zR, rowV]) rfl ?_
      exact ⟨zV, zeroC, zR, 4, rfl, .inr ⟨hg'.out, hkd'.out, .inl ⟨hb'.out, rfl, rfl, rfl⟩⟩, zV_on _, zR_ok, Gr.below hg9'.out (Gr.below hg8'.out hd2.out hbz.out) hby.out⟩
    | true =>
      have hlt : p < rn := by
        rcases Nat.lt_or_ge p rn with h | h
        · exact h
        · have h1 := his.out
          rw [List.getElem?_eq_none (by rw [hrows.out.len]; exact h)] at h1
          cases h1
      obtain ⟨A, ⟨⟨t, id⟩, v, s⟩, hqA, hx, hok, hcA⟩ := hrows.out.at hlt
      subst hqA
      have hcell : Hid (∀ j x, ([.int .i64 t, .int .u16 id, .int .i64 v, .string s] : List Value)[j]? = some x → w.cell? ((A.add (p * 4)).add j) = some x) := hcA
      have hs3 := sizeRow t id v s
      have z3 := Lib.hid (RowD.one ⟨⟨t, id⟩, v, s⟩)
      have hx' := Lib.hid hx
      have hok' := Lib.hid hok
      have i0 : (0 : Int) ≤ p := by omega
      have i1 : (p : Int) < rn := by omega
      have e1 : IntKind.i64.wrap ((p : Int) + 1) = (p : Int) + 1 := IntWalk.i64_in _ (by omega)
      clear hx hok hcA his
      go_wp2_with fail
      refine wp_region_held (S := fun u => Below w.heap.size w u ∧ u.cell? ⟨w.heap.size, 1, none⟩ = some (.slice (some A) rn rc)) (by kernel_rfl) ?_
      change wpAnyH _ _ _ _ _ _ _ _ (World.drew w2)
      have hS0 : Below w.heap.size w (w2.drew) ∧ w2.drew.cell? ⟨w.heap.size, 1, none⟩ = some (.slice (some A) rn rc) := ⟨below_step (below_drew w2) hd2.out, (bx2.out.below (below_drew w2) (Nat.le_refl _)).cell 1 rfl⟩
      have br3 := Lib.hid (br2.out.below (below_drew w2))
      have bs3 := Lib.hid (bs2.out.below (below_drew w2))
      have hlz3 : Hid (w.heap.size < w2.drew.heap.size) := hlz.out
      generalize World.drew w2 = u0 at hS0 br3 bs3 hlz3 ⊢
      refine held_tk (i := 0) (dst := some 27) (v := .pointer (some ⟨w.heap.size, 1, none⟩)) rfl rfl (.inl ⟨rfl, fun u hu => by obtain ⟨hd, hc⟩ := hu; go_simp⟩) hS0 ?_; go_frame
      refine held_tk (i := 1) (dst := some 28) (v := .slice (some A) rn rc) rfl rfl (.inl ⟨rfl, fun u hu => by obtain ⟨hd, hc⟩ := hu; go_simp⟩) hS0 ?_; go_frame
      refine held_tk (i := 2) (dst := some 29) (v := .int .i64 (p : Int)) rfl rfl (.inl ⟨rfl, fun u hu => by obtain ⟨hd, hc⟩ := hu; go_simp⟩) hS0 ?_; go_frame
      refine held_tk (i := 3) (dst := some 30) (v := .int .i64 (p : Int)) rfl rfl (.inl ⟨rfl, fun u hu => by obtain ⟨hd, hc⟩ := hu; go_simp⟩) hS0 ?_; go_frame
      refine held_tk (i := 4) (dst := some 31) (v := .int .i64 ((p : Int) + 1)) rfl rfl (.inl ⟨rfl, fun u hu => by obtain ⟨hd, hc⟩ := hu; go_simp⟩) hS0 ?_; go_frame
      refine held_tk (i := 7) (dst := some 34) (v := .pointer (some ⟨w.heap.size, 1, none⟩)) rfl rfl (.inl ⟨rfl, fun u hu => by obtain ⟨hd, hc⟩ := hu; go_simp⟩) hS0 ?_; go_frame
      refine held_tk (i := 8) (dst := some 35) (v := .slice (some A) rn rc) rfl rfl (.inl ⟨rfl, fun u hu => by obtain ⟨hd, hc⟩ := hu; go_simp⟩) hS0 ?_; go_frame
      refine held_tk (i := 9) (dst := some 36) (v := .int .i64 (p : Int)) rfl rfl (.inl ⟨rfl, fun u hu => by obtain ⟨hd, hc⟩ := hu; go_simp⟩) hS0 ?_; go_frame
      refine held_tk (i := 10) (dst := some 37) (v := .pointer (some (A.add (p * 4)))) rfl rfl (.inl ⟨rfl, fun u hu => by obtain ⟨hd, hc⟩ := hu; go_simp⟩) hS0 ?_; go_frame
      refine held_tk (i := 11) (dst := some 38) (v := .agg #[.int .i64 t, .int .u16 id, .int .i64 v, .string s]) rfl rfl (y_load_agg 30 (.tmp 37) rfl rfl rfl (fun u hu => run_loadVar_at Try.underlying30 rfl hs3 _ (fun j x hj => cell_keeps hu.1 (Nat.le_refl _) (hcell.out j x hj)))) hS0 ?_; go_frame
      refine held_call (i := 5) (dst := some 32) rfl rfl (by kernel_rfl) rfl (by go_simp) (spliced_cut (some A) rn rc p c.rows u0 (hrows.out.below hS0.1 (Nat.le_refl _)) hlt hrn) ?_
      rintro e u1 ⟨q4, c4, rfl, h7, h8, h10⟩
      have hr7 := Lib.hid h7
      have hS1 := Lib.hid (And.intro (below_step h8 hS0.1) (cell_keeps h8 (Nat.le_refl _) hS0.2))
      have br4 := Lib.hid (br3.out.below h8)
      have bs4 := Lib.hid (bs3.out.below h8)
      have hf7 : Hid (∀ a, q4 = some a → a.block ≠ w.heap.size + 2 ∧ a.block ≠ w.heap.size + 3) := fun a ha => by have h1 := h10 a ha; have h2 := bs3.out.lt; omega
      clear h7 h8 h10
      refine ⟨_, rfl, hS1.out, ?_⟩; go_frame
      refine held_call (i := 6) (dst := some 33) rfl rfl (by kernel_rfl) rfl (by go_simp) (leafOf_any q4 (rn - 1) c4 u1) ?_
      rintro e u2 ⟨rfl, h8⟩
      have hr8 := Lib.hid (hr7.out.below h8 (Nat.le_refl _))
      have hS2 := Lib.hid (And.intro (below_step h8 hS1.out.1) (cell_keeps h8 (Nat.le_refl _) hS1.out.2))
      have br5 := Lib.hid (br4.out.below h8)
      have bs5 := Lib.hid (bs4.out.below h8)
      clear h8
      refine ⟨_, rfl, hS2.out, ?_⟩; go_frame
      obtain ⟨u3, hst, h9, hg9⟩ := run_storeVar_at (P := Try.prog) (ty := 25) (o := 0) (vs := [.int .i64 1, .slice q4 (rn - 1) c4, .slice none 0 0]) br5.out (sizeCont (.int .i64 1) (.slice q4 (rn - 1) c4) (.slice none 0 0)) (Nat.le_refl _) (cont_one _ _ _ _ _ _ _)
      have hS3 := Lib.hid (And.intro (Gr.below hg9 hS2.out.1 hbz.out) (Gr.cell hg9 (a := ⟨w.heap.size, 1, none⟩) (by show w.heap.size ≠ w.heap.size + 2; omega) hS2.out.2))
      have br6 : Hid (RowV 25 u3 (w.heap.size + 2) [.int .i64 1, .slice q4 (rn - 1) c4, .slice none 0 0]) := h9
      have bs6 := Lib.hid (RowV.gr bs5.out hg9 hne.out)
      have hr9 := Lib.hid (hr8.out.gr hg9 (fun a ha => (hf7.out a ha).1))
      clear h9 hg9
      refine held_skip (i := 12) (dst := none) (w' := u3) rfl rfl (by kernel_rfl) rfl (run_store_op rfl rfl rfl hst) hS3.out ?_; go_frame
      clear hst
      obtain ⟨u4, hst, h9, hg9⟩ := run_storeVar_at (P := Try.prog) (ty := 30) (o := 0) (vs := [.int .i64 t, .int .u16 id, .int .i64 v, .string s]) bs6.out hs3 (Nat.le_refl _) z3.out
      have hS4 := Lib.hid (And.intro (Gr.below hg9 hS3.out.1 hby.out) (Gr.cell hg9 (a := ⟨w.heap.size, 1, none⟩) (by show w.heap.size ≠ w.heap.size + 3; omega) hS3.out.2))
      have bs7 : Hid (RowV 30 u4 (w.heap.size + 3) [.int .i64 t, .int .u16 id, .int .i64 v, .string s]) := h9
      have br7 := Lib.hid (RowV.gr br6.out hg9 (Ne.symm hne.out))
      have hr10 := Lib.hid (hr9.out.gr hg9 (fun a ha => (hf7.out a ha).2))
      clear h9 hg9
      refine held_skip (i := 13) (dst := none) (w' := u4) rfl rfl (by kernel_rfl) rfl (run_store_op rfl rfl rfl hst) hS4.out ?_; go_frame
      clear hst
      refine held_tk (i := 14) (dst := some 6) (v := .int .i64 0) rfl rfl (.inl ⟨rfl, fun u hu => by obtain ⟨hd, hc⟩ := hu; go_simp⟩) hS4.out ?_; go_frame
      refine wpAnyH_done (by kernel_rfl) ?_ _
      have s8 := br7.out
      have s9 := bs7.out
      have m80 := s8.cell 0
      have m81 := s8.cell 1
      have m82 := s8.cell 2
      have m90 := s9.cell 0
      have m91 := s9.cell 1
      have m92 := s9.cell 2
      have m93 := s9.cell 3
      simp only [List.getElem?_cons_zero, List.getElem?_cons_succ] at m80 m81 m82 m90 m91 m92 m93
      clear hS0 hS1 hS2 hS3 s8 s9
      go_wp2
      refine bodyPost_ret (v := .tuple #[CV.val ⟨1, q4, rn - 1, c4, none, 0, 0⟩, rowV ⟨⟨t, id⟩, v, s⟩, .int .i64 0]) (by simp [results, Try.results18, go_sem, m90, m91, m92, m93, m80, m81, m82, rowV]) rfl ?_
      exact ⟨⟨1, q4, rn - 1, c4, none, 0, 0⟩, ⟨1, _, []⟩, ⟨⟨t, id⟩, v, s⟩, 0, rfl, .inr ⟨hg'.out, hkd'.out, .inr ⟨hb'.out, rfl, by rw [hp'.out]; exact hx'.out, by rw [hp'.out]⟩⟩, ⟨rfl, hr10.out, KidsOn.none_ _⟩, hok'.out, hS4.out.1⟩
end Go.Proofs.Ytaiepdhmlmnggaa
