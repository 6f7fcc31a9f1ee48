/- Split of page. -/
import Derived.Test.YtaiepdhmlmnggaaPJo
import Derived.Test.YtaiepdhmlmnggaaPAl
namespace Go.Proofs.Ytaiepdhmlmnggaa
open Go.RowKit

def ab (a : Act) (x y z : Option Value) : Act := putX (putX (putX a x (some 7)) y (some 8)) z (some 9)
theorem put_ne {d e : Nat} (h : d ≠ e) (b : Act) (v u : Value) : (b.put (some d) u).put (some e) v = (b.put (some e) v).put (some d) u := Act.put_comm b u v (fun k hk => by cases hk; simpa using fun e2 => h e2.symm)
theorem ab_x (a : Act) (y z : Option Value) (v : Value) : (ab a none y z).put (some 7) v = ab a (some v) y z := by
  unfold ab
  rw [putX_comm (put_ne (by decide)), putX_comm (put_ne (by decide))]
  rfl
theorem ab_y (a : Act) (x z : Option Value) (v : Value) : (ab a x none z).put (some 8) v = ab a x (some v) z := by
  unfold ab
  rw [putX_comm (put_ne (by decide))]
  rfl
theorem ab_z (a : Act) (x y : Option Value) (v : Value) : (ab a x y none).put (some 9) v = ab a x y (some v) := rfl
theorem ab_put (a : Act) (x y z : Option Value) {d : Nat} (h7 : 7 ≠ d) (h8 : 8 ≠ d) (h9 : 9 ≠ d) (v : Value) : (ab a x y z).put (some d) v = ab (a.put (some d) v) x y z := by
  unfold ab
  rw [putX_comm (put_ne h9), putX_comm (put_ne h8), putX_comm (put_ne h7)]

abbrev ptr (g : Nat) : Value := .pointer (some ⟨g, 0, none⟩)
abbrev zc : List Value := [.int .i64 0, .slice none 0 0, .slice none 0 0]
abbrev zk : List Value := [.int .i64 0, .int .u16 0]
/-- new variables that have come up, and what holds besides -/
structure K3 (w0 : World) (E : World → Prop) (D : Nat → Prop) (x y z : Option Value) (w : World) : Prop where
  bl : Below w0.heap.size w0 w
  e : E w
  nx : ∀ v, x = some v → ∃ g, v = ptr g ∧ w0.heap.size ≤ g ∧ D g ∧ RowV 25 w g zc
  ny : ∀ v, y = some v → ∃ g, v = ptr g ∧ w0.heap.size ≤ g ∧ D g ∧ RowV 25 w g zc
  nz : ∀ v, z = some v → ∃ g, v = ptr g ∧ w0.heap.size ≤ g ∧ D g ∧ RowV 28 w g zk
  dxy : ∀ g g', x = some (ptr g) → y = some (ptr g') → g ≠ g'
  dxz : ∀ g g', x = some (ptr g) → z = some (ptr g') → g ≠ g'
  dyz : ∀ g g', y = some (ptr g) → z = some (ptr g') → g ≠ g'
theorem K3.step {w0 : World} {E E' : World → Prop} {D D' : Nat → Prop} {x y z : Option Value} {w w' : World} (h : K3 w0 E D x y z w) (hb : Below w.heap.size w w') (he : E' w') (hd : ∀ g, D g → g < w.heap.size → D' g) : K3 w0 E' D' x y z w' :=
  ⟨below_step hb h.bl, he, fun v hv => (by obtain ⟨g, h1, h2, h3, h4⟩ := h.nx v hv; exact ⟨g, h1, h2, hd g h3 h4.lt, h4.below hb⟩), fun v hv => (by obtain ⟨g, h1, h2, h3, h4⟩ := h.ny v hv; exact ⟨g, h1, h2, hd g h3 h4.lt, h4.below hb⟩), fun v hv => (by obtain ⟨g, h1, h2, h3, h4⟩ := h.nz v hv; exact ⟨g, h1, h2, hd g h3 h4.lt, h4.below hb⟩), h.dxy, h.dxz, h.dyz⟩
theorem K3.lx {w0 : World} {E : World → Prop} {D : Nat → Prop} {x y z : Option Value} {w : World} (h : K3 w0 E D x y z w) : (∀ g, x = some (ptr g) → g < w.heap.size) ∧ (∀ g, y = some (ptr g) → g < w.heap.size) ∧ (∀ g, z = some (ptr g) → g < w.heap.size) :=
  ⟨fun g hg => (by obtain ⟨g', h1, _, _, h4⟩ := h.nx _ hg; cases h1; exact h4.lt), fun g hg => (by obtain ⟨g', h1, _, _, h4⟩ := h.ny _ hg; cases h1; exact h4.lt), fun g hg => (by obtain ⟨g', h1, _, _, h4⟩ := h.nz _ hg; cases h1; exact h4.lt)⟩
section
variable {w0 : World} {E : World → Prop} {D : Nat → Prop} (stE : ∀ u v, E u → Below u.heap.size u v → E v) (hD : ∀ u, E u → D u.heap.size)
include stE hD
theorem K3.x {y z : Option Value} {w : World} (h : K3 w0 E D none y z w) : K3 w0 E D (some (ptr w.heap.size)) y z (w.alloc (.cells zc.toArray 25)) := by
  have hb : Below w.heap.size w (w.alloc (.cells zc.toArray 25)) := (Below.refl _ _).alloc (Nat.le_refl _) _
  have k := h.step hb (stE _ _ h.e hb) (fun g h _ => h)
  refine ⟨k.bl, k.e, fun v hv => ?_, k.ny, k.nz, fun g g' h1 h2 e => ?_, fun g g' h1 h2 e => ?_, k.dyz⟩
  · cases hv
    exact ⟨_, rfl, h.bl.size, hD _ h.e, RowV.made w zc⟩
  · cases h1
    have := h.lx.2.1 g' h2
    omega
  · cases h1
    have := h.lx.2.2 g' h2
    omega
theorem K3.y {x z : Option Value} {w : World} (h : K3 w0 E D x none z w) : K3 w0 E D x (some (ptr w.heap.size)) z (w.alloc (.cells zc.toArray 25)) := by
  have hb : Below w.heap.size w (w.alloc (.cells zc.toArray 25)) := (Below.refl _ _).alloc (Nat.le_refl _) _
  have k := h.step hb (stE _ _ h.e hb) (fun g h _ => h)
  refine ⟨k.bl, k.e, k.nx, fun v hv => ?_, k.nz, fun g g' h1 h2 e => ?_, k.dxz, fun g g' h1 h2 e => ?_⟩
  · cases hv
    exact ⟨_, rfl, h.bl.size, hD _ h.e, RowV.made w zc⟩
  · cases h2
    have := h.lx.1 g h1
    omega
  · cases h1
    have := h.lx.2.2 g' h2
    omega
theorem K3.z {x y : Option Value} {w : World} (h : K3 w0 E D x y none w) : K3 w0 E D x y (some (ptr w.heap.size)) (w.alloc (.cells zk.toArray 28)) := by
  have hb : Below w.heap.size w (w.alloc (.cells zk.toArray 28)) := (Below.refl _ _).alloc (Nat.le_refl _) _
  have k := h.step hb (stE _ _ h.e hb) (fun g h _ => h)
  refine ⟨k.bl, k.e, k.nx, k.ny, fun v hv => ?_, k.dxy, fun g g' h1 h2 e => ?_, fun g g' h1 h2 e => ?_⟩
  · cases hv
    exact ⟨_, rfl, h.bl.size, hD _ h.e, RowV.made w zk⟩
  · cases h2
    have := h.lx.1 g h1
    omega
  · cases h2
    have := h.lx.2.1 g h1
    omega
end
theorem run_allocC (b : Act) (o : Oper) (ho : o.op = .alloc 25) (w : World) : (execOp b.eval o).run Try.prog w = .ok (.value (ptr w.heap.size)) (w.alloc (.cells zc.toArray 25)) := by
  unfold execOp
  rw [ho]
  go_simp
theorem run_allocKey (b : Act) (o : Oper) (ho : o.op = .alloc 28) (w : World) : (execOp b.eval o).run Try.prog w = .ok (.value (ptr w.heap.size)) (w.alloc (.cells zk.toArray 28)) := by
  unfold execOp
  rw [ho]
  go_simp

def SplitR (c a b : ContD) (s : KeyD) (x : Int) : Prop := (¬ GoodC c ∧ x = 160 ∧ a = zeroC ∧ b = zeroC ∧ s = zK) ∨ (GoodC c ∧ ((¬ (c.kind ≠ 0 ∧ sizeC c = 4) ∧ x = 2 ∧ a = zeroC ∧ b = zeroC ∧ s = zK) ∨ ((c.kind ≠ 0 ∧ sizeC c = 4) ∧ x = 0 ∧ a = cutA c 2 ∧ b = cutB c 2 ∧ s = cutS c 2)))
def SplitPost (c : ContD) (w : World) (e : Ending) (w' : World) : Prop := ∃ (va vb : CV) (a b : ContD) (s : KeyD) (x : Int), e = .returned (.tuple #[va.val, vb.val, .agg #[.int .i64 s.t, .int .u16 s.id], .int .i64 x]) ∧ SplitR c a b s x ∧ va.On w' a ∧ vb.On w' b ∧ Below w.heap.size w w'
/-- what cut has said, while new variables come up -/
structure Cut3 (c : ContD) (hi : Nat) (va vb : CV) (w : World) : Prop where
  a : va.On w (cutA c 2)
  b : vb.On w (cutB c 2)
  hi : hi ≤ w.heap.size
def NoBlk (v : CV) (g : Nat) : Prop := (∀ a, v.rq = some a → a.block ≠ g) ∧ (∀ a, v.kq = some a → a.block ≠ g)
theorem cut_any (v : CV) (c : ContD) (w : World) (h : v.On w c) (hg : GoodC c) (hk : c.kind ≠ 0) (h4 : sizeC c = 4) : Calls Try.prog 53 #[v.val, .int .i64 2] w (CutPost c 2 w) := by
  have h1 := h.rl
  have h2 := h.kl
  unfold sizeC at h4
  by_cases e : c.kind = 1
  · have h3 := (good_leaf hg e).2
    rw [h3] at h4
    simp only [List.length_nil] at h4
    exact cutR_any v c 2 w h e (by omega) (by omega)
  · have e2 : c.kind = 2 := by rcases good_kind hg with h | h | h <;> omega
    have h3 := (good_inner hg e2).2
    rw [h3] at h4
    simp only [List.length_nil] at h4
    exact cutK_any v c 2 w h e (by omega) (by omega)


set_option maxRecDepth 100000 in
set_option maxHeartbeats 8000000 in
theorem split_any (v : CV) (c : ContD) (w : World) (h : v.On w c) :
    Calls Try.prog 26 #[v.val] w (SplitPost c w) := by
  have hon := Lib.hid (fun y (hu : Below w.heap.size w y) => h.below hu (Nat.le_refl _))
  obtain ⟨fl, hfl⟩ := bool_of ((GoodC c ∧ c.kind ≠ 0) ∧ sizeC c = 4)
  have hfu := Lib.hid (fun y (hu : Below w.heap.size w y) => full_any v c fl hfl y (h.below hu (Nat.le_refl _)))
  have hch := Lib.hid (fun y (hu : Below w.heap.size w y) => check_any v.k v.rq v.rn v.rc v.kq v.kn v.kc c y (h.below hu (Nat.le_refl _)))
  have hfl' := Lib.hid hfl
  obtain ⟨k, rq, rn, rc, kq, kn, kc⟩ := v
  simp only at hch
  obtain ⟨W, hW⟩ : ∃ W, (((w.alloc (.cells #[.int .i64 k, .slice rq rn rc, .slice kq kn kc] 25)).alloc (.cells #[.int .i64 0, .slice none 0 0, .slice none 0 0] 25)).alloc (.cells #[.int .i64 0, .slice none 0 0, .slice none 0 0] 25)).alloc (.cells #[.int .i64 0, .int .u16 0] 28) = W := ⟨_, rfl⟩
  have hbx := Lib.hid (four_rows (xs := [.int .i64 k, .slice rq rn rc, .slice kq kn kc]) (ys := [.int .i64 0, .slice none 0 0, .slice none 0 0]) (zs := [.int .i64 0, .slice none 0 0, .slice none 0 0]) (us := [.int .i64 0, .int .u16 0]) hW)
  have hs := sizeCont (.int .i64 k) (.slice rq rn rc) (.slice kq kn kc)
  have hz := sizeCont (.int .i64 0) (.slice none 0 0) (.slice none 0 0)
  have hzk := sizeKey 0 0
  have bx := Lib.hid hbx.out.2.1.boxed
  clear h hfl
  show Calls _ _ #[.agg #[.int .i64 k, .slice rq rn rc, .slice kq kn kc]] _ _
  go_enter Try.func26, Try.ntmps26
  go_wp2_with (first
    | (with_reducible refine wpList_load_at rfl 25 (.tmp 1) rfl Try.underlying25 rfl hs rfl bx.out.all ?_))
  refine (hch.out W hbx.out.1).mono ?_
  clear hch hW
  rintro e w1 ⟨x, rfl, hx, hb1⟩
  have hd1 := Lib.hid (below_step hb1 hbx.out.1)
  have bx1 := Lib.hid (bx.out.below hb1 (Nat.le_refl _))
  have ra1 := Lib.hid (hbx.out.2.2.1.below hb1)
  have rb1 := Lib.hid (hbx.out.2.2.2.1.below hb1)
  have rk1 := Lib.hid (hbx.out.2.2.2.2.1.below hb1)
  clear hb1 hbx bx
  rcases hx with ⟨rfl, hg⟩ | ⟨rfl, hg⟩
  rotate_left
  · have hn' := Lib.hid hg
    clear hon hfu hg hfl'
    go_wp2_with (first
      | ((with_reducible refine wpList_store_at rfl 25 (.tmp 2) (.tmp 14) rfl (o := 0) (vs := [.int .i64 0, .slice none 0 0, .slice none 0 0]) rfl rfl ra1.out hz (Nat.le_refl _) (cont_one _ _ _ _ _ _ _) ?_)
         intro w7 h7 hg7
         have q7 := Lib.hid h7
         have rb7 := Lib.hid (RowV.gr rb1.out hg7 (by omega))
         have rk7 := Lib.hid (RowV.gr rk1.out hg7 (by omega))
         have hg7' := Lib.hid hg7
         clear h7 hg7)
      | ((with_reducible refine wpList_store_at rfl 25 (.tmp 3) (.tmp 15) rfl (o := 0) (vs := [.int .i64 0, .slice none 0 0, .slice none 0 0]) rfl rfl rb7.out hz (Nat.le_refl _) (cont_one _ _ _ _ _ _ _) ?_)
         intro w8 h8 hg8
         have q8 := Lib.hid h8
         have ra8 := Lib.hid (RowV.gr q7.out hg8 (by omega))
         have rk8 := Lib.hid (RowV.gr rk7.out hg8 (by omega))
         have hg8' := Lib.hid hg8
         clear h8 hg8)
      | ((with_reducible refine wpList_store_at rfl 28 (.tmp 4) (.tmp 16) rfl (o := 0) (vs := [.int .i64 0, .int .u16 0]) rfl rfl rk8.out hzk (Nat.le_refl _) (key_one _ _) ?_)
         intro w9 h9 hg9
         have q9 := Lib.hid h9
         have ra9 := Lib.hid (RowV.gr ra8.out hg9 (by omega))
         have rb9 := Lib.hid (RowV.gr q8.out hg9 (by omega))
         have hg9' := Lib.hid hg9
         clear h9 hg9))
    have s1 : RowV 25 w9 (w.heap.size + 1) zc := ra9.out
    have s2 : RowV 25 w9 (w.heap.size + 2) zc := rb9.out
    have s3 : RowV 28 w9 (w.heap.size + 3) zk := q9.out
    have m10 := s1.cell 0
    have m20 := s2.cell 0
    have m11 := s1.cell 1
    have m21 := s2.cell 1
    have m12 := s1.cell 2
    have m22 := s2.cell 2
    have m30 := s3.cell 0
    have m31 := s3.cell 1
    simp only [List.getElem?_cons_zero, List.getElem?_cons_succ] at m10 m11 m12 m20 m21 m22 m30 m31
    refine bodyPost_ret (v := .tuple #[CV.val zV, CV.val zV, .agg #[.int .i64 zK.t, .int .u16 zK.id], .int .i64 160]) (by simp [results, Try.results26, go_sem, m10, m11, m12, m20, m21, m22, m30, m31, zV, zK]) rfl ?_
    exact ⟨zV, zV, zeroC, zeroC, zK, 160, rfl, .inl ⟨hn'.out, rfl, rfl, rfl, rfl⟩, zV_on _, zV_on _, Gr.below hg9'.out (Gr.below hg8'.out (Gr.below hg7'.out hd1.out (by omega)) (by omega)) (by omega)⟩
  · have hG := Lib.hid hg
    clear hg
    go_wp2_with (first
      | (with_reducible refine wpList_load_at rfl 25 (.tmp 1) rfl Try.underlying25 rfl hs rfl bx1.out.all ?_))
    refine (hfu.out w1 hd1.out).mono ?_
    clear hfu
    rintro e w2 ⟨rfl, hb2⟩
    have hd2 := Lib.hid (below_step hb2 hd1.out)
    have bx2 := Lib.hid (bx1.out.below hb2 (Nat.le_refl _))
    have ra2 := Lib.hid (ra1.out.below hb2)
    have rb2 := Lib.hid (rb1.out.below hb2)
    have rk2 := Lib.hid (rk1.out.below hb2)
    clear hb2 bx1 ra1 rb1 rk1 hd1
    cases fl with
    | false =>
      have hn' : Hid (¬ (c.kind ≠ 0 ∧ sizeC c = 4)) := fun h => by have := hfl'.out.2 ⟨⟨hG.out, h.1⟩, h.2⟩; cases this
      clear hon hfl'
      go_wp2_with (first
        | ((with_reducible refine wpList_store_at rfl 25 (.tmp 2) (.tmp 21) rfl (o := 0) (vs := [.int .i64 0, .slice none 0 0, .slice none 0 0]) rfl rfl ra2.out hz (Nat.le_refl _) (cont_one _ _ _ _ _ _ _) ?_)
           intro w7 h7 hg7
           have q7 := Lib.hid h7
           have rb7 := Lib.hid (RowV.gr rb2.out hg7 (by omega))
           have rk7 := Lib.hid (RowV.gr rk2.out hg7 (by omega))
           have hg7' := Lib.hid hg7
           clear h7 hg7)
        | ((with_reducible refine wpList_store_at rfl 25 (.tmp 3) (.tmp 22) rfl (o := 0) (vs := [.int .i64 0, .slice none 0 0, .slice none 0 0]) rfl rfl rb7.out hz (Nat.le_refl _) (cont_one _ _ _ _ _ _ _) ?_)
           intro w8 h8 hg8
           have q8 := Lib.hid h8
           have ra8 := Lib.hid (RowV.gr q7.out hg8 (by omega))
           have rk8 := Lib.hid (RowV.gr rk7.out hg8 (by omega))
           have hg8' := Lib.hid hg8
           clear h8 hg8)
        | ((with_reducible refine wpList_store_at rfl 28 (.tmp 4) (.tmp 23) rfl (o := 0) (vs := [.int .i64 0, .int .u16 0]) rfl rfl rk8.out hzk (Nat.le_refl _) (key_one _ _) ?_)
           intro w9 h9 hg9
           have q9 := Lib.hid h9
           have ra9 := Lib.hid (RowV.gr ra8.out hg9 (by omega))
           have rb9 := Lib.hid (RowV.gr q8.out hg9 (by omega))
           have hg9' := Lib.hid hg9
           clear h9 hg9))
      have s1 : RowV 25 w9 (w.heap.size + 1) zc := ra9.out
      have s2 : RowV 25 w9 (w.heap.size + 2) zc := rb9.out
      have s3 : RowV 28 w9 (w.heap.size + 3) zk := q9.out
      have m10 := s1.cell 0
      have m20 := s2.cell 0
      have m11 := s1.cell 1
      have m21 := s2.cell 1
      have m12 := s1.cell 2
      have m22 := s2.cell 2
      have m30 := s3.cell 0
      have m31 := s3.cell 1
      simp only [List.getElem?_cons_zero, List.getElem?_cons_succ] at m10 m11 m12 m20 m21 m22 m30 m31
      refine bodyPost_ret (v := .tuple #[CV.val zV, CV.val zV, .agg #[.int .i64 zK.t, .int .u16 zK.id], .int .i64 2]) (by simp [results, Try.results26, go_sem, m10, m11, m12, m20, m21, m22, m30, m31, zV, zK]) rfl ?_
      exact ⟨zV, zV, zeroC, zeroC, zK, 2, rfl, .inr ⟨hG.out, .inl ⟨hn'.out, rfl, rfl, rfl, rfl⟩⟩, zV_on _, zV_on _, Gr.below hg9'.out (Gr.below hg8'.out (Gr.below hg7'.out hd2.out (by omega)) (by omega)) (by omega)⟩
    | true =>
      have hF := Lib.hid (hfl'.out.1 rfl)
      clear hfl'
      have hld : Hid (∀ u, Below w2.heap.size w2 u → (loadVar 25 ⟨w.heap.size, 0, none⟩).run Try.prog u = .ok (.agg #[.int .i64 k, .slice rq rn rc, .slice kq kn kc]) u) := fun u hu => run_loadVar_at Try.underlying25 rfl hs _ (bx2.out.below hu (Nat.le_refl _)).all
      have hsz : Hid (∀ u, Below w2.heap.size w2 u → Calls Try.prog 42 #[.agg #[.int .i64 k, .slice rq rn rc, .slice kq kn kc]] u (fun e w' => e = .returned (.int .i64 4) ∧ Below u.heap.size u w')) := fun u hu => by
        have h := psize_any ⟨k, rq, rn, rc, kq, kn, kc⟩ c u (hon.out u (below_step hu hd2.out)) (by rw [hF.out.2]; decide)
        rw [hF.out.2] at h
        exact h
      have e2 : IntKind.i64.wrap 2 = 2 := IntWalk.i64_in 2 (by omega)
      have hcu := Lib.hid (fun u (hu : Below w2.heap.size w2 u) => cut_any ⟨k, rq, rn, rc, kq, kn, kc⟩ c u (hon.out u (below_step hu hd2.out)) hG.out hF.out.1.2 hF.out.2)
      go_wp2_with fail
      refine wp_region_held (S := fun u => Below w2.heap.size w2 u) (by kernel_rfl) ?_
      change wpAnyH _ _ _ _ _ _ _ _ (World.drew w2)
      have hS0 : Below w2.heap.size w2 (w2.drew) := below_drew w2
      generalize World.drew w2 = u0 at hS0 ⊢
      refine held_tk (i := 0) (dst := some 25) rfl rfl (y_load_agg 25 (.tmp 1) rfl rfl rfl hld.out) hS0 ?_; go_frame
      refine held_tk (i := 1) (dst := some 26) rfl rfl (y_load_agg 25 (.tmp 1) rfl rfl rfl hld.out) hS0 ?_; go_frame
      refine held_main (A := ab _) (K := K3 w2 (fun _ => True) (fun _ => True)) (L := fun a b c => #[true, true, false, false, false, false, false, false, false, a, b, c, false, false, false]) (F := 9) (i := 2) (p := 9) (q := 10) (r := 11)
        (fun a b c => by cases a <;> cases b <;> cases c <;> kernel_rfl) rfl rfl rfl (fun _ _ => rfl) (fun _ _ => rfl) (fun _ _ => rfl) (fun y z v => ab_x _ y z v) (fun x z v => ab_y _ x z v) (fun x y v => ab_z _ x y v) (fun _ _ _ => rfl) (fun _ _ _ => rfl) (fun _ _ _ => rfl)
        (fun y z u hk => ⟨_, _, run_allocC _ _ rfl u, (hk.x (fun _ _ _ _ => trivial) (fun _ _ => trivial)).bl, hk.x (fun _ _ _ _ => trivial) (fun _ _ => trivial)⟩)
        (fun x z u hk => ⟨_, _, run_allocC _ _ rfl u, (hk.y (fun _ _ _ _ => trivial) (fun _ _ => trivial)).bl, hk.y (fun _ _ _ _ => trivial) (fun _ _ => trivial)⟩)
        (fun x y u hk => ⟨_, _, run_allocKey _ _ rfl u, (hk.z (fun _ _ _ _ => trivial) (fun _ _ => trivial)).bl, hk.z (fun _ _ _ _ => trivial) (fun _ _ => trivial)⟩)
        ?_ 3 none none none u0 rfl ⟨hS0, trivial, fun v h => (by cases h), fun v h => (by cases h), fun v h => (by cases h), fun g g' h => (by cases h), fun g g' h => (by cases h), fun g g' h => (by cases h)⟩
      intro x y z u hk
      refine call_op (dst := some 27) rfl rfl rfl (f := 42) (args := #[.agg #[.int .i64 k, .slice rq rn rc, .slice kq kn kc]]) (by cases x <;> cases y <;> cases z <;> simp only [ab, putX] <;> go_simp) (hsz.out u hk.bl) ?_
      rintro e u1 ⟨rfl, hb3⟩
      have hk1 := hk.step hb3 (E' := fun _ => True) trivial (fun g h _ => h)
      clear hk hb3
      refine ⟨_, rfl, hk1.bl, ?_⟩
      refine held_tk (i := 3) (dst := some 28) (v := .int .i64 2) rfl rfl (.inl ⟨rfl, fun u hu => by cases x <;> cases y <;> cases z <;> simp only [ab, putX] <;> go_simp⟩) hk1.bl ?_ (hf := by cases x <;> cases y <;> cases z <;> kernel_rfl) (hr := by cases x <;> cases y <;> cases z <;> kernel_rfl)
      rw [ab_put _ x y z (by decide) (by decide) (by decide), ab_put _ x y z (by decide) (by decide) (by decide)]
      refine held_main (A := ab _) (K := K3 w2 (fun _ => True) (fun _ => True)) (L := fun a b c => #[true, true, true, true, false, false, false, false, false, a, b, c, false, false, false]) (F := 7) (i := 4) (p := 9) (q := 10) (r := 11)
        (fun a b c => by cases a <;> cases b <;> cases c <;> kernel_rfl) rfl rfl rfl (fun _ _ => rfl) (fun _ _ => rfl) (fun _ _ => rfl) (fun y z v => ab_x _ y z v) (fun x z v => ab_y _ x z v) (fun x y v => ab_z _ x y v) (fun _ _ _ => rfl) (fun _ _ _ => rfl) (fun _ _ _ => rfl)
        (fun y z u hk => ⟨_, _, run_allocC _ _ rfl u, (hk.x (fun _ _ _ _ => trivial) (fun _ _ => trivial)).bl, hk.x (fun _ _ _ _ => trivial) (fun _ _ => trivial)⟩)
        (fun x z u hk => ⟨_, _, run_allocC _ _ rfl u, (hk.y (fun _ _ _ _ => trivial) (fun _ _ => trivial)).bl, hk.y (fun _ _ _ _ => trivial) (fun _ _ => trivial)⟩)
        (fun x y u hk => ⟨_, _, run_allocKey _ _ rfl u, (hk.z (fun _ _ _ _ => trivial) (fun _ _ => trivial)).bl, hk.z (fun _ _ _ _ => trivial) (fun _ _ => trivial)⟩)
        ?_ (lck x + lck y + lck z) x y z u1 rfl hk1
      clear hk1 x y z u1
      intro x y z u hk
      refine call_op (dst := some 29) rfl rfl rfl (f := 53) (args := #[.agg #[.int .i64 k, .slice rq rn rc, .slice kq kn kc], .int .i64 2]) (by cases x <;> cases y <;> cases z <;> simp only [ab, putX] <;> go_simp) (hcu.out u hk.bl) ?_
      rintro e u1 ⟨va, vb, rfl, ha, hb, hfa, hfb, hb3⟩
      have hk1 := hk.step hb3 (E' := Cut3 c u1.heap.size va vb) ⟨ha, hb, Nat.le_refl _⟩ (D' := fun g => NoBlk va g ∧ NoBlk vb g) (fun g _ hg => ⟨⟨fun a e => by have := (hfa.1 a e).1; omega, fun a e => by have := (hfa.2 a e).1; omega⟩, ⟨fun a e => by have := (hfb.1 a e).1; omega, fun a e => by have := (hfb.2 a e).1; omega⟩⟩)
      obtain ⟨ka, rqa, rna, rca, kqa, kna, kca⟩ := va
      obtain ⟨kb, rqb, rnb, rcb, kqb, knb, kcb⟩ := vb
      have stE : ∀ u v, Cut3 c u1.heap.size ⟨ka, rqa, rna, rca, kqa, kna, kca⟩ ⟨kb, rqb, rnb, rcb, kqb, knb, kcb⟩ u → Below u.heap.size u v → Cut3 c u1.heap.size ⟨ka, rqa, rna, rca, kqa, kna, kca⟩ ⟨kb, rqb, rnb, rcb, kqb, knb, kcb⟩ v := fun u v h hb => ⟨h.a.below hb (Nat.le_refl _), h.b.below hb (Nat.le_refl _), Nat.le_trans h.hi hb.size⟩
      have hD : ∀ u, Cut3 c u1.heap.size ⟨ka, rqa, rna, rca, kqa, kna, kca⟩ ⟨kb, rqb, rnb, rcb, kqb, knb, kcb⟩ u → NoBlk ⟨ka, rqa, rna, rca, kqa, kna, kca⟩ u.heap.size ∧ NoBlk ⟨kb, rqb, rnb, rcb, kqb, knb, kcb⟩ u.heap.size := fun u h => ⟨⟨fun a e => by have := (hfa.1 a e).2; have := h.hi; omega, fun a e => by have := (hfa.2 a e).2; have := h.hi; omega⟩, ⟨fun a e => by have := (hfb.1 a e).2; have := h.hi; omega, fun a e => by have := (hfb.2 a e).2; have := h.hi; omega⟩⟩
      have hfr : Hid (((∀ a, rqa = some a → ∀ j, j ≤ 3 → a.block ≠ w.heap.size + j) ∧ (∀ a, kqa = some a → ∀ j, j ≤ 3 → a.block ≠ w.heap.size + j)) ∧ ((∀ a, rqb = some a → ∀ j, j ≤ 3 → a.block ≠ w.heap.size + j) ∧ (∀ a, kqb = some a → ∀ j, j ≤ 3 → a.block ≠ w.heap.size + j))) := by
        have h0 : w.heap.size + 3 < u.heap.size := Nat.lt_of_lt_of_le rk2.out.lt hk.bl.size
        exact ⟨⟨fun a e j hj => (by have := (hfa.1 a e).1; omega), fun a e j hj => (by have := (hfa.2 a e).1; omega)⟩, ⟨fun a e j hj => (by have := (hfb.1 a e).1; omega), fun a e j hj => (by have := (hfb.2 a e).1; omega)⟩⟩
      clear hk hb3 ha hb
      obtain ⟨⟨st, si⟩, hcs⟩ : ∃ s, cutS c 2 = s := ⟨_, rfl⟩
      have hcs' := Lib.hid hcs
      rw [hcs]
      clear hcs
      refine ⟨_, rfl, hk1.bl, ?_⟩
      refine held_tk (i := 5) (dst := some 24) (v := .tuple #[.agg #[.int .i64 ka, .slice rqa rna rca, .slice kqa kna kca], .agg #[.int .i64 kb, .slice rqb rnb rcb, .slice kqb knb kcb], .agg #[.int .i64 st, .int .u16 si]]) rfl rfl (.inl ⟨rfl, fun u hu => by cases x <;> cases y <;> cases z <;> simp only [ab, putX] <;> go_simp⟩) hk1.bl ?_ (hf := by cases x <;> cases y <;> cases z <;> kernel_rfl) (hr := by cases x <;> cases y <;> cases z <;> kernel_rfl)
      refine held_tk (i := 6) (dst := some 30) (v := .agg #[.int .i64 ka, .slice rqa rna rca, .slice kqa kna kca]) rfl rfl (.inl ⟨rfl, fun u hu => by cases x <;> cases y <;> cases z <;> simp only [ab, putX] <;> go_simp⟩) hk1.bl ?_ (hf := by cases x <;> cases y <;> cases z <;> kernel_rfl) (hr := by cases x <;> cases y <;> cases z <;> kernel_rfl)
      refine held_tk (i := 7) (dst := some 31) (v := .agg #[.int .i64 kb, .slice rqb rnb rcb, .slice kqb knb kcb]) rfl rfl (.inl ⟨rfl, fun u hu => by cases x <;> cases y <;> cases z <;> simp only [ab, putX] <;> go_simp⟩) hk1.bl ?_ (hf := by cases x <;> cases y <;> cases z <;> kernel_rfl) (hr := by cases x <;> cases y <;> cases z <;> kernel_rfl)
      refine held_tk (i := 8) (dst := some 32) (v := .agg #[.int .i64 st, .int .u16 si]) rfl rfl (.inl ⟨rfl, fun u hu => by cases x <;> cases y <;> cases z <;> simp only [ab, putX] <;> go_simp⟩) hk1.bl ?_ (hf := by cases x <;> cases y <;> cases z <;> kernel_rfl) (hr := by cases x <;> cases y <;> cases z <;> kernel_rfl)
      rw [ab_put _ x y z (by decide) (by decide) (by decide), ab_put _ x y z (by decide) (by decide) (by decide), ab_put _ x y z (by decide) (by decide) (by decide), ab_put _ x y z (by decide) (by decide) (by decide), ab_put _ x y z (by decide) (by decide) (by decide)]
      refine held_end (A := ab _) (K := K3 w2 (Cut3 c u1.heap.size ⟨ka, rqa, rna, rca, kqa, kna, kca⟩ ⟨kb, rqb, rnb, rcb, kqb, knb, kcb⟩) (fun g => NoBlk ⟨ka, rqa, rna, rca, kqa, kna, kca⟩ g ∧ NoBlk ⟨kb, rqb, rnb, rcb, kqb, knb, kcb⟩ g)) (L := fun a b c => #[true, true, true, true, true, true, true, true, true, a, b, c, false, false, false]) (F := 3) (p := 9) (q := 10) (r := 11)
        (fun a b c h => by cases a <;> cases b <;> cases c <;> first | (simp at h; done) | kernel_rfl) rfl rfl rfl (fun _ _ => rfl) (fun _ _ => rfl) (fun _ _ => rfl) (fun y z v => ab_x _ y z v) (fun x z v => ab_y _ x z v) (fun x y v => ab_z _ x y v) (fun _ _ _ => rfl) (fun _ _ _ => rfl) (fun _ _ _ => rfl)
        (fun y z u hk => ⟨_, _, run_allocC _ _ rfl u, (hk.x stE hD).bl, hk.x stE hD⟩)
        (fun x z u hk => ⟨_, _, run_allocC _ _ rfl u, (hk.y stE hD).bl, hk.y stE hD⟩)
        (fun x y u hk => ⟨_, _, run_allocKey _ _ rfl u, (hk.z stE hD).bl, hk.z stE hD⟩)
        ?_ (lck x + lck y + lck z) x y z u1 rfl hk1
      clear hk1 x y z
      intro x y z u hk
      obtain ⟨g1, rfl, hg1, ⟨na1, nb1⟩, r1⟩ := hk.nx _ rfl
      obtain ⟨g2, rfl, hg2, ⟨na2, nb2⟩, r2⟩ := hk.ny _ rfl
      obtain ⟨g3, rfl, hg3, ⟨na3, nb3⟩, r3⟩ := hk.nz _ rfl
      have h12 := hk.dxy g1 g2 rfl rfl
      have h13 := hk.dxz g1 g3 rfl rfl
      have h23 := hk.dyz g2 g3 rfl rfl
      have hA := Lib.hid hk.e.a
      have hB := Lib.hid hk.e.b
      have hbl := hk.bl
      have hw23 : w.heap.size + 3 < w2.heap.size := rk2.out.lt
      have ra := Lib.hid (ra2.out.below hbl)
      have rb := Lib.hid (rb2.out.below hbl)
      have rk := Lib.hid (rk2.out.below hbl)
      clear hk stE hD hfa hfb
      simp only [ab, putX]
      go_frame
      obtain ⟨x1, hst, h9, hg9⟩ := run_storeVar_at (P := Try.prog) (ty := 25) (o := 0) (vs := [.int .i64 ka, .slice rqa rna rca, .slice kqa kna kca]) r1 (sizeCont _ _ _) (Nat.le_refl _) (cont_one _ _ _ _ _ _ _)
      replace r1 : RowV 25 x1 g1 [.int .i64 ka, .slice rqa rna rca, .slice kqa kna kca] := h9
      replace r2 := RowV.gr r2 hg9 (by omega)
      replace r3 := RowV.gr r3 hg9 (by omega)
      replace ra := Lib.hid (RowV.gr ra.out hg9 (by omega))
      replace rb := Lib.hid (RowV.gr rb.out hg9 (by omega))
      replace rk := Lib.hid (RowV.gr rk.out hg9 (by omega))
      replace hA := Lib.hid (ContOn.gr hA.out hg9 na1.1 na1.2)
      replace hB := Lib.hid (ContOn.gr hB.out hg9 nb1.1 nb1.2)
      replace hbl := Gr.below hg9 hbl hg1
      clear h9 hg9
      refine held_skip (i := 12) (dst := none) (w' := x1) rfl rfl (by kernel_rfl) rfl (run_store_op (x := .tmp 7) (y := .tmp 30) rfl rfl rfl hst) hbl ?_; go_frame
      clear hst
      obtain ⟨x2, hst, h9, hg9⟩ := run_storeVar_at (P := Try.prog) (ty := 25) (o := 0) (vs := [.int .i64 kb, .slice rqb rnb rcb, .slice kqb knb kcb]) r2 (sizeCont _ _ _) (Nat.le_refl _) (cont_one _ _ _ _ _ _ _)
      replace r2 : RowV 25 x2 g2 [.int .i64 kb, .slice rqb rnb rcb, .slice kqb knb kcb] := h9
      replace r1 := RowV.gr r1 hg9 (by omega)
      replace r3 := RowV.gr r3 hg9 (by omega)
      replace ra := Lib.hid (RowV.gr ra.out hg9 (by omega))
      replace rb := Lib.hid (RowV.gr rb.out hg9 (by omega))
      replace rk := Lib.hid (RowV.gr rk.out hg9 (by omega))
      replace hA := Lib.hid (ContOn.gr hA.out hg9 na2.1 na2.2)
      replace hB := Lib.hid (ContOn.gr hB.out hg9 nb2.1 nb2.2)
      replace hbl := Gr.below hg9 hbl hg2
      clear h9 hg9
      refine held_skip (i := 13) (dst := none) (w' := x2) rfl rfl (by kernel_rfl) rfl (run_store_op (x := .tmp 8) (y := .tmp 31) rfl rfl rfl hst) hbl ?_; go_frame
      clear hst
      obtain ⟨x3, hst, h9, hg9⟩ := run_storeVar_at (P := Try.prog) (ty := 28) (o := 0) (vs := [.int .i64 st, .int .u16 si]) r3 (sizeKey _ _) (Nat.le_refl _) (key_one _ _)
      replace r3 : RowV 28 x3 g3 [.int .i64 st, .int .u16 si] := h9
      replace r1 := RowV.gr r1 hg9 (by omega)
      replace r2 := RowV.gr r2 hg9 (by omega)
      replace ra := Lib.hid (RowV.gr ra.out hg9 (by omega))
      replace rb := Lib.hid (RowV.gr rb.out hg9 (by omega))
      replace rk := Lib.hid (RowV.gr rk.out hg9 (by omega))
      replace hA := Lib.hid (ContOn.gr hA.out hg9 na3.1 na3.2)
      replace hB := Lib.hid (ContOn.gr hB.out hg9 nb3.1 nb3.2)
      replace hbl := Gr.below hg9 hbl hg3
      clear h9 hg9
      refine held_skip (i := 14) (dst := none) (w' := x3) rfl rfl (by kernel_rfl) rfl (run_store_op (x := .tmp 9) (y := .tmp 32) rfl rfl rfl hst) hbl ?_; go_frame
      clear hst
      refine wpAnyH_done (by kernel_rfl) ?_ _
      have d2 := Lib.hid (below_step hbl hd2.out)
      have b1 := Lib.hid r1.boxed
      have b2 := Lib.hid r2.boxed
      have b3 := Lib.hid r3.boxed
      clear hld hsz hcu hbl r1 r2 r3 na1 na2 na3 nb1 nb2 nb3
      go_wp2_with fail
      refine wp_region_held (S := fun u => Boxed u g1 [.int .i64 ka, .slice rqa rna rca, .slice kqa kna kca] ∧ Boxed u g2 [.int .i64 kb, .slice rqb rnb rcb, .slice kqb knb kcb] ∧ Boxed u g3 [.int .i64 st, .int .u16 si]) (by kernel_rfl) ?_
      change wpAnyH _ _ _ _ _ _ _ _ (World.drew x3)
      have hS0 : Hid (Boxed x3.drew g1 [.int .i64 ka, .slice rqa rna rca, .slice kqa kna kca] ∧ Boxed x3.drew g2 [.int .i64 kb, .slice rqb rnb rcb, .slice kqb knb kcb] ∧ Boxed x3.drew g3 [.int .i64 st, .int .u16 si]) := ⟨b1.out.below (below_drew _) (Nat.le_refl _), b2.out.below (below_drew _) (Nat.le_refl _), b3.out.below (below_drew _) (Nat.le_refl _)⟩
      have ra := Lib.hid (ra.out.below (below_drew x3))
      have rb := Lib.hid (rb.out.below (below_drew x3))
      have rk := Lib.hid (rk.out.below (below_drew x3))
      have hA := Lib.hid (hA.out.below (below_drew x3) (Nat.le_refl _))
      have hB := Lib.hid (hB.out.below (below_drew x3) (Nat.le_refl _))
      have hd := Lib.hid (below_step (below_drew x3) d2.out)
      clear b1 b2 b3 d2
      generalize World.drew x3 = y0 at hS0 ra rb rk hA hB hd ⊢
      refine held_tk (i := 0) (dst := some 33) rfl rfl (y_load_agg 25 (.tmp 7) rfl rfl rfl (fun u hu => run_loadVar_at Try.underlying25 rfl (sizeCont (.int .i64 ka) (.slice rqa rna rca) (.slice kqa kna kca)) _ hu.1.all)) hS0.out ?_; go_frame
      refine held_tk (i := 1) (dst := some 34) rfl rfl (y_load_agg 25 (.tmp 8) rfl rfl rfl (fun u hu => run_loadVar_at Try.underlying25 rfl (sizeCont (.int .i64 kb) (.slice rqb rnb rcb) (.slice kqb knb kcb)) _ hu.2.1.all)) hS0.out ?_; go_frame
      refine held_tk (i := 2) (dst := some 35) rfl rfl (y_load_agg 28 (.tmp 9) rfl rfl rfl (fun u hu => run_loadVar_at Try.underlying28 rfl (sizeKey st si) _ hu.2.2.all)) hS0.out ?_; go_frame
      obtain ⟨y1, hst, h9, hg9⟩ := run_storeVar_at (P := Try.prog) (ty := 25) (o := 0) (vs := [.int .i64 ka, .slice rqa rna rca, .slice kqa kna kca]) ra.out (sizeCont _ _ _) (Nat.le_refl _) (cont_one _ _ _ _ _ _ _)
      replace ra : Hid (RowV 25 y1 (w.heap.size + 1) [.int .i64 ka, .slice rqa rna rca, .slice kqa kna kca]) := h9
      replace rb := Lib.hid (RowV.gr rb.out hg9 (by omega))
      replace rk := Lib.hid (RowV.gr rk.out hg9 (by omega))
      replace hA := Lib.hid (ContOn.gr hA.out hg9 (fun a e => (hfr.out.1.1 a e 1 (by decide))) (fun a e => (hfr.out.1.2 a e 1 (by decide))))
      replace hB := Lib.hid (ContOn.gr hB.out hg9 (fun a e => (hfr.out.2.1 a e 1 (by decide))) (fun a e => (hfr.out.2.2 a e 1 (by decide))))
      replace hS0 := Lib.hid (And.intro (hS0.out.1.gr hg9 (by omega)) (And.intro (hS0.out.2.1.gr hg9 (by omega)) (hS0.out.2.2.gr hg9 (by omega))))
      replace hd := Lib.hid (Gr.below hg9 hd.out (by omega))
      clear h9 hg9
      refine held_skip (i := 3) (dst := none) (w' := y1) rfl rfl (by kernel_rfl) rfl (run_store_op (x := .tmp 2) (y := .tmp 33) rfl rfl rfl hst) hS0.out ?_; go_frame
      clear hst
      obtain ⟨y2, hst, h9, hg9⟩ := run_storeVar_at (P := Try.prog) (ty := 25) (o := 0) (vs := [.int .i64 kb, .slice rqb rnb rcb, .slice kqb knb kcb]) rb.out (sizeCont _ _ _) (Nat.le_refl _) (cont_one _ _ _ _ _ _ _)
      replace rb : Hid (RowV 25 y2 (w.heap.size + 2) [.int .i64 kb, .slice rqb rnb rcb, .slice kqb knb kcb]) := h9
      replace ra := Lib.hid (RowV.gr ra.out hg9 (by omega))
      replace rk := Lib.hid (RowV.gr rk.out hg9 (by omega))
      replace hA := Lib.hid (ContOn.gr hA.out hg9 (fun a e => (hfr.out.1.1 a e 2 (by decide))) (fun a e => (hfr.out.1.2 a e 2 (by decide))))
      replace hB := Lib.hid (ContOn.gr hB.out hg9 (fun a e => (hfr.out.2.1 a e 2 (by decide))) (fun a e => (hfr.out.2.2 a e 2 (by decide))))
      replace hS0 := Lib.hid (And.intro (hS0.out.1.gr hg9 (by omega)) (And.intro (hS0.out.2.1.gr hg9 (by omega)) (hS0.out.2.2.gr hg9 (by omega))))
      replace hd := Lib.hid (Gr.below hg9 hd.out (by omega))
      clear h9 hg9
      refine held_skip (i := 4) (dst := none) (w' := y2) rfl rfl (by kernel_rfl) rfl (run_store_op (x := .tmp 3) (y := .tmp 34) rfl rfl rfl hst) hS0.out ?_; go_frame
      clear hst
      obtain ⟨y3, hst, h9, hg9⟩ := run_storeVar_at (P := Try.prog) (ty := 28) (o := 0) (vs := [.int .i64 st, .int .u16 si]) rk.out (sizeKey _ _) (Nat.le_refl _) (key_one _ _)
      replace rk : Hid (RowV 28 y3 (w.heap.size + 3) [.int .i64 st, .int .u16 si]) := h9
      replace ra := Lib.hid (RowV.gr ra.out hg9 (by omega))
      replace rb := Lib.hid (RowV.gr rb.out hg9 (by omega))
      replace hA := Lib.hid (ContOn.gr hA.out hg9 (fun a e => (hfr.out.1.1 a e 3 (by decide))) (fun a e => (hfr.out.1.2 a e 3 (by decide))))
      replace hB := Lib.hid (ContOn.gr hB.out hg9 (fun a e => (hfr.out.2.1 a e 3 (by decide))) (fun a e => (hfr.out.2.2 a e 3 (by decide))))
      replace hS0 := Lib.hid (And.intro (hS0.out.1.gr hg9 (by omega)) (And.intro (hS0.out.2.1.gr hg9 (by omega)) (hS0.out.2.2.gr hg9 (by omega))))
      replace hd := Lib.hid (Gr.below hg9 hd.out (by omega))
      clear h9 hg9
      refine held_skip (i := 5) (dst := none) (w' := y3) rfl rfl (by kernel_rfl) rfl (run_store_op (x := .tmp 4) (y := .tmp 35) rfl rfl rfl hst) hS0.out ?_; go_frame
      clear hst
      refine held_tk (i := 6) (dst := some 5) (v := .int .i64 0) rfl rfl (.inl ⟨rfl, fun u hu => by go_simp⟩) hS0.out ?_; go_frame
      refine wpAnyH_done (by kernel_rfl) ?_ _
      have s1 := ra.out
      have s2 := rb.out
      have s3 := rk.out
      have m10 := s1.cell 0
      have m20 := s2.cell 0
      have m11 := s1.cell 1
      have m21 := s2.cell 1
      have m12 := s1.cell 2
      have m22 := s2.cell 2
      have m30 := s3.cell 0
      have m31 := s3.cell 1
      simp only [List.getElem?_cons_zero, List.getElem?_cons_succ] at m10 m11 m12 m20 m21 m22 m30 m31
      clear s1 s2 s3
      go_wp2
      refine bodyPost_ret (v := .tuple #[.agg #[.int .i64 ka, .slice rqa rna rca, .slice kqa kna kca], .agg #[.int .i64 kb, .slice rqb rnb rcb, .slice kqb knb kcb], .agg #[.int .i64 st, .int .u16 si], .int .i64 0]) (by simp [results, Try.results26, go_sem, m10, m11, m12, m20, m21, m22, m30, m31]) rfl ?_
      exact ⟨⟨ka, rqa, rna, rca, kqa, kna, kca⟩, ⟨kb, rqb, rnb, rcb, kqb, knb, kcb⟩, cutA c 2, cutB c 2, ⟨st, si⟩, 0, rfl, .inr ⟨hG.out, .inr ⟨⟨hF.out.1.2, hF.out.2⟩, rfl, rfl, rfl, hcs'.out.symm⟩⟩, hA.out, hB.out, hd.out⟩
end Go.Proofs.Ytaiepdhmlmnggaa
