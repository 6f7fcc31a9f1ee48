/- Get of page. -/
import Derived.Test.YtaiepdhmlmnggaaPLf
import Derived.Test.YtaiepdhmlmnggaaYTak
namespace Go.Proofs.Ytaiepdhmlmnggaa
open Go.RowKit

def zR : RowD := ⟨⟨0, 0⟩, 0, ⟨#[]⟩⟩
theorem zR_ok : RowOk zR := ⟨⟨by unfold I64; exact ⟨by decide, by decide⟩, by decide, by decide⟩, by unfold I64; exact ⟨by decide, by decide⟩, Nat.zero_le _⟩
def GetR (c : ContD) (k : KeyD) (r : RowD) (e : Int) : Prop := (kindE c 1 211 e ∧ e ≠ 0 ∧ r = zR) ∨ (GoodC c ∧ c.kind = 1 ∧ ((e = 4 ∧ r = zR ∧ isR c.rows k = false) ∨ (e = 0 ∧ isR c.rows k = true ∧ c.rows[posR c.rows k]? = some r)))
def GetPost (c : ContD) (k : KeyD) (w : World) (e : Ending) (w' : World) : Prop := ∃ r x, e = .returned (.tuple #[rowV r, .int .i64 x]) ∧ GetR c k r x ∧ RowOk r ∧ Below w.heap.size w w'

set_option maxRecDepth 100000 in
set_option maxHeartbeats 4000000 in
theorem get_any (v : CV) (c : ContD) (kt ki : Int) (w : World) (h : v.On w c) :
    Calls Try.prog 16 #[v.val, .agg #[.int .i64 kt, .int .u16 ki]] w (GetPost c ⟨kt, ki⟩ w) := by
  have hck := Lib.hid (fun u (hu : Below w.heap.size w u) => checkLeaf_any v c u (h.below hu (Nat.le_refl _)))
  have hra := Lib.hid (fun (hg : GoodC c) u (hu : Below w.heap.size w u) => rowAt_any v c.rows kt ki u (h.below hu (Nat.le_refl _)).rows (by have := good_size hg; have := h.rl; unfold sizeC at *; omega))
  have hrows : Hid (RowsOn w v.rq v.rn v.rc c.rows) := h.rows
  obtain ⟨k, rq, rn, rc, kq, kn, kc⟩ := v
  have hrows : Hid (RowsOn w rq rn rc c.rows) := hrows
  obtain ⟨W, hW⟩ : ∃ W, ((w.alloc (.cells #[.int .i64 k, .slice rq rn rc, .slice kq kn kc] 25)).alloc (.cells #[.int .i64 kt, .int .u16 ki] 28)).alloc (.cells #[.int .i64 0, .int .u16 0, .int .i64 0, .string ⟨#[]⟩] 30) = W := ⟨_, rfl⟩
  have hbx := Lib.hid (three_boxes (xs := [.int .i64 k, .slice rq rn rc, .slice kq kn kc]) (ys := [.int .i64 kt, .int .u16 ki]) (zs := [.int .i64 0, .int .u16 0, .int .i64 0, .string ⟨#[]⟩]) hW)
  have hs := sizeCont (.int .i64 k) (.slice rq rn rc) (.slice kq kn kc)
  have hs2 := sizeKey kt ki
  have hz := sizeRow 0 0 0 ⟨#[]⟩
  have z1 : ∀ v ∈ ([.int .i64 0, .int .u16 0, .int .i64 0, .string ⟨#[]⟩] : List Value), v.oneCell' = true := RowD.one zR
  clear h
  show Calls _ _ #[.agg #[.int .i64 k, .slice rq rn rc, .slice kq kn kc], .agg #[.int .i64 kt, .int .u16 ki]] _ _
  go_enter Try.func16, Try.ntmps16
  go_wp2_with (first
    | (with_reducible refine wpList_load_at rfl 25 (.tmp 2) rfl Try.underlying25 rfl hs rfl hbx.out.2.1.all ?_))
  refine (hck.out W hbx.out.1).mono ?_
  clear hck hW
  rintro e w1 ⟨x, rfl, hx, hb1⟩
  have hd1 := Lib.hid (below_step hb1 hbx.out.1)
  have bx1 := Lib.hid (hbx.out.2.1.below hb1 (Nat.le_refl _))
  have by1 := Lib.hid (hbx.out.2.2.1.below hb1 (Nat.le_refl _))
  have br1 := Lib.hid (hbx.out.2.2.2.1.below hb1)
  have hbz : Hid (w.heap.size ≤ w.heap.size + 2) := by show _ ≤ _; omega
  clear hb1 hbx
  have hfin : Hid (∀ x, x ≠ 0 → kindE c 1 211 x → GetR c ⟨kt, ki⟩ zR x) := fun x h0 hk => .inl ⟨hk, h0, rfl⟩
  have hk1 := Lib.hid hx
  rcases hx with ⟨rfl, _⟩ | ⟨_, _, rfl⟩ | ⟨hg, hkd, rfl⟩
  · clear hra hrows
    go_wp2_with (first
      | ((with_reducible refine wpList_store_at rfl 30 (.tmp 4) (.tmp 13) rfl (o := 0) (vs := [.int .i64 0, .int .u16 0, .int .i64 0, .string ⟨#[]⟩]) rfl rfl br1.out hz (Nat.le_refl _) z1 ?_)
         intro w9 h9 hg9
         have q9 := Lib.hid h9
         have hg9' := Lib.hid hg9
         clear h9 hg9))
    have s9 : RowV 30 w9 (w.heap.size + 2) [.int .i64 0, .int .u16 0, .int .i64 0, .string ⟨#[]⟩] := q9.out
    have m90 := s9.cell 0
    have m91 := s9.cell 1
    have m92 := s9.cell 2
    have m93 := s9.cell 3
    simp only [List.getElem?_cons_zero, List.getElem?_cons_succ] at m90 m91 m92 m93
    refine bodyPost_ret (v := .tuple #[rowV zR, .int .i64 160]) (by simp [results, Try.results16, go_sem, m90, m91, m92, m93, rowV, zR]) rfl ?_
    exact ⟨zR, 160, rfl, hfin.out _ (by decide) hk1.out, zR_ok, Gr.below hg9'.out hd1.out hbz.out⟩
  · clear hra hrows
    go_wp2_with (first
      | ((with_reducible refine wpList_store_at rfl 30 (.tmp 4) (.tmp 13) rfl (o := 0) (vs := [.int .i64 0, .int .u16 0, .int .i64 0, .string ⟨#[]⟩]) rfl rfl br1.out hz (Nat.le_refl _) z1 ?_)
         intro w9 h9 hg9
         have q9 := Lib.hid h9
         have hg9' := Lib.hid hg9
         clear h9 hg9))
    have s9 : RowV 30 w9 (w.heap.size + 2) [.int .i64 0, .int .u16 0, .int .i64 0, .string ⟨#[]⟩] := q9.out
    have m90 := s9.cell 0
    have m91 := s9.cell 1
    have m92 := s9.cell 2
    have m93 := s9.cell 3
    simp only [List.getElem?_cons_zero, List.getElem?_cons_succ] at m90 m91 m92 m93
    refine bodyPost_ret (v := .tuple #[rowV zR, .int .i64 211]) (by simp [results, Try.results16, go_sem, m90, m91, m92, m93, rowV, zR]) rfl ?_
    exact ⟨zR, 211, rfl, hfin.out _ (by decide) hk1.out, zR_ok, Gr.below hg9'.out hd1.out hbz.out⟩
  · have hg' := Lib.hid hg
    have hkd' := Lib.hid hkd
    clear hg hkd hk1 hfin
    go_wp2_with (first
      | (with_reducible refine wpList_load_at rfl 25 (.tmp 2) rfl Try.underlying25 rfl hs rfl bx1.out.all ?_)
      | (with_reducible refine wpList_load_at rfl 28 (.tmp 3) rfl Try.underlying28 rfl hs2 rfl by1.out.all ?_))
    refine (hra.out hg'.out w1 hd1.out).mono ?_
    clear hra
    rintro e w2 ⟨rfl, hb2⟩
    have hd2 := Lib.hid (below_step hb2 hd1.out)
    have bx2 := Lib.hid (bx1.out.below hb2 (Nat.le_refl _))
    have br2 := Lib.hid (br1.out.below hb2)
    have c1 := bx2.out.cell 1 rfl
    clear hb2 bx1 by1 br1
    obtain ⟨b, hb⟩ : ∃ b, isR c.rows ⟨kt, ki⟩ = b := ⟨_, rfl⟩
    obtain ⟨p, hp⟩ : ∃ p, posR c.rows ⟨kt, ki⟩ = p := ⟨_, rfl⟩
    rw [hb, hp]
    have hb' := Lib.hid hb
    have hp' := Lib.hid hp
    have his : Hid (b = match c.rows[p]? with | none => false | some r => eqK r.key ⟨kt, ki⟩) := by show _ = _; rw [← hb, ← hp]; rfl
    clear hb hp
    cases b with
    | false =>
      go_wp2_with (first
        | ((with_reducible refine wpList_store_at rfl 30 (.tmp 4) (.tmp 23) rfl (o := 0) (vs := [.int .i64 0, .int .u16 0, .int .i64 0, .string ⟨#[]⟩]) rfl rfl br2.out hz (Nat.le_refl _) z1 ?_)
           intro w9 h9 hg9
           have q9 := Lib.hid h9
           have hg9' := Lib.hid hg9
           clear h9 hg9))
      have s9 : RowV 30 w9 (w.heap.size + 2) [.int .i64 0, .int .u16 0, .int .i64 0, .string ⟨#[]⟩] := q9.out
      have m90 := s9.cell 0
      have m91 := s9.cell 1
      have m92 := s9.cell 2
      have m93 := s9.cell 3
      simp only [List.getElem?_cons_zero, List.getElem?_cons_succ] at m90 m91 m92 m93
      refine bodyPost_ret (v := .tuple #[rowV zR, .int .i64 4]) (by simp [results, Try.results16, go_sem, m90, m91, m92, m93, rowV, zR]) rfl ?_
      exact ⟨zR, 4, rfl, .inr ⟨hg'.out, hkd'.out, .inl ⟨rfl, rfl, hb'.out⟩⟩, zR_ok, Gr.below hg9'.out hd2.out hbz.out⟩
    | true =>
      have hlt : p < rn := by
        rcases Nat.lt_or_ge p rn with h | h
        · exact h
        · have h1 := his.out
          rw [List.getElem?_eq_none (by rw [hrows.out.len]; exact h)] at h1
          cases h1
      obtain ⟨A, ⟨⟨t, id⟩, v, s⟩, hqA, hx, hok, hcA⟩ := (hrows.out.below hd2.out (Nat.le_refl _)).at hlt
      subst hqA
      have hcell : Hid (∀ j x, ([.int .i64 t, .int .u16 id, .int .i64 v, .string s] : List Value)[j]? = some x → w2.cell? ((A.add (p * 4)).add j) = some x) := hcA
      have hs3 := sizeRow t id v s
      have z3 : ∀ x ∈ ([.int .i64 t, .int .u16 id, .int .i64 v, .string s] : List Value), x.oneCell' = true := RowD.one ⟨⟨t, id⟩, v, s⟩
      have hx' := Lib.hid hx
      have hok' := Lib.hid hok
      have i0 : (0 : Int) ≤ p := by omega
      have i1 : (p : Int) < rn := by omega
      clear hx hok hcA
      go_wp2_with (first
        | (with_reducible refine wpList_load_at rfl 30 (.tmp 27) rfl Try.underlying30 rfl hs3 rfl hcell.out ?_)
        | ((with_reducible refine wpList_store_at rfl 30 (.tmp 4) (.tmp 28) rfl (o := 0) (vs := [.int .i64 t, .int .u16 id, .int .i64 v, .string s]) rfl rfl br2.out hs3 (Nat.le_refl _) z3 ?_)
           intro w9 h9 hg9
           have q9 := Lib.hid h9
           have hg9' := Lib.hid hg9
           clear h9 hg9))
      have s9 : RowV 30 w9 (w.heap.size + 2) [.int .i64 t, .int .u16 id, .int .i64 v, .string s] := q9.out
      have m90 := s9.cell 0
      have m91 := s9.cell 1
      have m92 := s9.cell 2
      have m93 := s9.cell 3
      simp only [List.getElem?_cons_zero, List.getElem?_cons_succ] at m90 m91 m92 m93
      refine bodyPost_ret (v := .tuple #[rowV ⟨⟨t, id⟩, v, s⟩, .int .i64 0]) (by simp [results, Try.results16, go_sem, m90, m91, m92, m93, rowV]) rfl ?_
      exact ⟨⟨⟨t, id⟩, v, s⟩, 0, rfl, .inr ⟨hg'.out, hkd'.out, .inr ⟨rfl, hb'.out, by rw [hp'.out]; exact hx'.out⟩⟩, hok'.out, Gr.below hg9'.out hd2.out hbz.out⟩
end Go.Proofs.Ytaiepdhmlmnggaa
