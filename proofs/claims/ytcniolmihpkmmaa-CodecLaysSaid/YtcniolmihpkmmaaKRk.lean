/- The reader of codec: kid. -/
import Derived.Test.YtcniolmihpkmmaaKRr
namespace Go.Proofs.Ytcniolmihpkmmaa
open Go.RowKit

section
variable {P : Program} {ops : Array Oper} {Q : Exit → Act → World → Prop} {md : Region.Mode} {S : World → Prop}
/-- two may come up -/
theorem held_two {i j fuel : Nat} {listed : Array Bool} {a : Act} {w : World} (hr : Region.ready md ops listed = [i, j])
    (hi : wpOp P ops Q i (fun a' w' => S w' ∧ wpAnyH P md ops Q S fuel (listed.setIfInBounds i true) a' w') a w)
    (hj : wpOp P ops Q j (fun a' w' => S w' ∧ wpAnyH P md ops Q S fuel (listed.setIfInBounds j true) a' w') a w) : wpAnyH P md ops Q S (fuel + 1) listed a w := by
  refine wpAnyH_all hr (by simp) (fun k hk => ?_)
  rcases List.mem_cons.1 hk with rfl | hk
  · exact hi
  · rw [List.mem_singleton.1 hk]; exact hj
theorem op_call {i : Nat} {o : Oper} {dst : Option Tmp} (hd : o.dst = dst) {K : Act → World → Prop} {a : Act} {w : World} {f : FuncId} {args : Array Value} {R : Ending → World → Prop} (hi : ops[i]? = some o) (hw : Region.wanted o (yielded ops a.tmps) = true)
    (hrun : (execOp a.eval o).run P w = .ok (.enter f args) w) (hc : Calls P f args w R) (h : ∀ e w', R e w' → ∃ v, e = .returned v ∧ K (a.put dst v) w') : wpOp P ops Q i K a w := by
  subst hd
  unfold wpOp
  simp only [hi, hw, if_true]
  refine .inl ?_
  unfold Oper.wp
  rw [hrun, Oper.upon_enter]
  refine hc.mono fun e w' he => ?_
  obtain ⟨v, rfl, h1⟩ := h e w' he
  exact h1
theorem op_value {i : Nat} {o : Oper} {dst : Option Tmp} (hd : o.dst = dst) {K : Act → World → Prop} {a : Act} {w w' : World} {v : Value} (hi : ops[i]? = some o) (hw : Region.wanted o (yielded ops a.tmps) = true)
    (hrun : (execOp a.eval o).run P w = .ok (.value v) w') (h : K (a.put dst v) w') : wpOp P ops Q i K a w := by
  subst hd
  unfold wpOp
  simp only [hi, hw, if_true]
  refine .inl ?_
  unfold Oper.wp
  rw [hrun, Oper.upon_value]
  exact h
end

def kidD (s : St) : KidD := ⟨keyD s, (keyS s).num 1⟩
def kidS (s : St) : St := (keyS s).next 1
def kidV (k : KidD) : Value := .agg #[.int .i64 k.least.t, .int .u16 k.least.id, .int .i64 k.page]
def KidRd (s : St) (w : World) (g : Nat) (d : Option Nat) (e : Ending) (w' : World) : Prop :=
  e = .returned (.tuple #[kidV (kidD s), .int .i64 (kidS s).e]) ∧ w.grownBy w' (some g) ∧ RdrS w' g d (kidS s)
theorem kidD_ok (s : St) : 0 ≤ (kidD s).page ∧ (kidD s).page < 256 := by
  have h1 := numV1 (keyS s).l (keyS s).e
  exact ⟨h1.1, h1.2⟩

structure KdS (w : World) (g : Nat) (u : World) : Prop where
  box : Boxed u w.heap.size [.pointer (some ⟨g, 0, none⟩)]
  res : ∃ vs, vs.length = 3 ∧ RowV 56 u (w.heap.size + 1) vs
  gr : w.grownBy u (some g)
theorem KdS.on {w : World} {g : Nat} {u v : World} (h : KdS w g u) (hg : u.grownBy v (some g)) (hb : g < w.heap.size) : KdS w g v :=
  ⟨h.box.gr hg (by omega), by obtain ⟨vs, h1, h2⟩ := h.res; exact ⟨vs, h1, h2.gr hg (by omega)⟩, h.gr.trans hg⟩
theorem KdS.below {w : World} {g : Nat} {u v : World} (h : KdS w g u) (hb : Below u.heap.size u v) : KdS w g v :=
  ⟨h.box.below hb (Nat.le_refl _), by obtain ⟨vs, h1, h2⟩ := h.res; exact ⟨vs, h1, h2.below hb⟩, Gr.then h.gr hb⟩
theorem KdS.own {w : World} {g c : Nat} {u v : World} (h : KdS w g u) (hg : u.grownBy v (some c)) (hc : w.heap.size + 2 ≤ c) : KdS w g v :=
  ⟨h.box.gr hg (by omega), by obtain ⟨vs, h1, h2⟩ := h.res; exact ⟨vs, h1, h2.gr hg (by omega)⟩, Gr.own h.gr hg (by omega)⟩
theorem KdS.far {w : World} {g : Nat} {u : World} (h : KdS w g u) : w.heap.size + 2 ≤ u.heap.size := by
  obtain ⟨vs, _, h2⟩ := h.res
  have := h2.lt
  omega
structure KeS (w : World) (g c : Nat) (d : Option Nat) (k : KidD) (s : St) (u : World) : Prop where
  kd : KdS w g u
  kid : RowV 56 u c k.cells
  rd : RdrS u g d s
theorem KeS.all {w : World} {g c : Nat} {d : Option Nat} {k : KidD} {s : St} {u : World} (h : KeS w g c d k s u) : ∀ j v, k.cells[j]? = some v → u.cell? ((⟨c, 0, none⟩ : Addr).add j) = some v := h.kid.part (pre := []) (rest := []) (by simp) rfl

set_option maxRecDepth 100000 in
set_option maxHeartbeats 4000000 in
theorem kid_rd (g : Nat) (d : Option Nat) (s : St) (w : World) (h : RdrS w g d s) :
    Calls Try.prog 73 #[.agg #[.pointer (some ⟨g, 0, none⟩)]] w (KidRd s w g d) := by
  obtain ⟨W, hW⟩ : ∃ W, (w.alloc (.cells #[.pointer (some ⟨g, 0, none⟩)] 73)).alloc (.cells #[.int .i64 0, .int .u16 0, .int .i64 0] 56) = W := ⟨_, rfl⟩
  have hbx := Lib.hid (two_boxes (xs := [.pointer (some ⟨g, 0, none⟩)]) (ys := [.int .i64 0, .int .u16 0, .int .i64 0]) hW)
  have hres : RowV 56 W (w.heap.size + 1) [.int .i64 0, .int .u16 0, .int .i64 0] := by
    have h0 := RowV.made (T := 56) (w.alloc (.cells #[.pointer (some ⟨g, 0, none⟩)] 73)) [.int .i64 0, .int .u16 0, .int .i64 0]
    rw [← hW]; simpa using h0
  have hg := h.lt
  have hsrc := Lib.hid h.src
  have hr := h.below (hbx.out.1.trans ((below_drew W).mono hbx.out.1.size))
  have hs1 := sizeRd (.pointer (some ⟨g, 0, none⟩))
  obtain ⟨k0, k1, k2, k3⟩ := keyD_ok s
  obtain ⟨p0, p1⟩ := kidD_ok s
  obtain ⟨⟨kt, ki⟩, hk⟩ : ∃ k, keyD s = k := ⟨_, rfl⟩
  obtain ⟨pg, hp⟩ : ∃ p, (keyS s).num 1 = p := ⟨_, rfl⟩
  have hkd : Hid (kidD s = ⟨⟨kt, ki⟩, pg⟩) := by show (⟨keyD s, (keyS s).num 1⟩ : KidD) = _; rw [hk, hp]
  rw [hk] at k0 k1 k2 k3
  rw [hkd.out] at p0 p1
  have p0' : 0 ≤ pg := p0
  have p1' : pg < 256 := p1
  have hkey := fun u (hu : RdrS u g d s) => key_any g d s u hu
  have hu8 := fun u (hu : RdrS u g d (keyS s)) => rd8 g d (keyS s) u hu
  rw [hk] at hkey
  rw [hp] at hu8
  have wp1 : IntKind.i64.wrap pg = pg := IntWalk.i64_in _ (by omega)
  have zr : ∀ u : World, RowV 56 (u.alloc (.cells #[.int .i64 0, .int .u16 0, .int .i64 0] 56)) u.heap.size [.int .i64 0, .int .u16 0, .int .i64 0] := fun u => RowV.made u _
  have ab : ∀ u : World, Below u.heap.size u (u.alloc (.cells #[.int .i64 0, .int .u16 0, .int .i64 0] 56)) := fun u => (Below.refl _ _).alloc (Nat.le_refl _) _
  clear h hk hp p0 p1
  go_enter Try.func73, Try.ntmps73
  go_wp2
  clear hW
  have hS0 : KdS w g W.drew := ⟨hbx.out.2.1.below (below_drew W) (Nat.le_refl _), ⟨_, rfl, hres.below (below_drew W)⟩, below_grown (hbx.out.1.trans ((below_drew W).mono hbx.out.1.size)) _⟩
  refine wp_region_held (S := KdS w g) (by kernel_rfl) ?_
  change wpAnyH _ _ _ _ _ _ _ _ (World.drew W)
  refine held_take (i := 0) (dst := some 5) rfl rfl (by kernel_rfl) (by kernel_rfl) (by kernel_rfl) (fun _ _ _ h => h) (y_load_agg 73 (.tmp 1) rfl rfl rfl (fun W hW => run_loadVar_at Try.underlying73 rfl hs1 _ hW.box.all)) hS0 ?_
  go_frame
  refine held_take (i := 2) (dst := some 7) (v := .pointer (some ⟨w.heap.size, 0, none⟩)) rfl rfl (by kernel_rfl) (by kernel_rfl) (by kernel_rfl) (fun _ _ _ h => h) (.inl ⟨rfl, fun W hW => by go_simp⟩) hS0 ?_
  go_frame
  refine held_take (i := 3) (dst := some 8) (v := .pointer (some ⟨g, 0, none⟩)) rfl rfl (by kernel_rfl) (by kernel_rfl) (by kernel_rfl) (fun _ _ _ h => h) (.inl ⟨rfl, fun W hW => by have c0 := hW.box.cell 0 rfl; go_simp⟩) hS0 ?_
  go_frame
  refine held_two (i := 1) (j := 7) (by kernel_rfl) ?_ ?_
  · refine op_call (dst := some 6) rfl rfl rfl (by go_simp) (hkey _ hr) ?_
    rintro e u1 ⟨rfl, hg1, hr1⟩
    have hS1 := hS0.on hg1 hg
    refine ⟨_, rfl, hS1, ?_⟩
    go_frame
    refine held_two (i := 4) (j := 7) (by kernel_rfl) ?_ ?_
    · refine op_call (dst := some 9) rfl rfl rfl (by go_simp) (hu8 _ hr1) ?_
      rintro e u2 ⟨rfl, hg2, hr2⟩
      have hS2 := hS1.on hg2 hg
      refine ⟨_, rfl, hS2, ?_⟩
      go_frame
      refine held_take (i := 5) (dst := some 10) (v := .int .i64 pg) rfl rfl (by kernel_rfl) (by kernel_rfl) (by kernel_rfl) (fun _ _ _ h => h) (.inl ⟨rfl, fun W hW => by go_simp⟩) hS2 ?_
      go_frame
      refine held_take (i := 6) (dst := some 11) (v := .agg #[.int .i64 kt, .int .u16 ki, .int .i64 pg]) rfl rfl (by kernel_rfl) (by kernel_rfl) (by kernel_rfl) (fun _ _ _ h => h) (.inl ⟨rfl, fun W hW => by go_simp⟩) hS2 ?_
      go_frame
      refine held_value (i := 7) (dst := some 4) (v := .pointer (some ⟨u2.heap.size, 0, none⟩)) (w' := u2.alloc (.cells #[.int .i64 0, .int .u16 0, .int .i64 0] 56)) rfl rfl (by kernel_rfl) rfl (by go_simp) (hS2.below (ab _)) ?_
      go_frame
      obtain ⟨w7, hst, h7, hg7⟩ := run_storeVar_at (P := Try.prog) (ty := 56) (o := 0) (vs := [.int .i64 kt, .int .u16 ki, .int .i64 pg]) (zr u2) (sizeKid _ _ _) (Nat.le_refl _) (KidD.one ⟨⟨kt, ki⟩, pg⟩)
      have hfc : w.heap.size + 2 ≤ u2.heap.size := hS2.far
      have hS7 : KdS w g w7 := (hS2.below (ab _)).own hg7 hfc
      have hr7 : RdrS w7 g d (kidS s) := (hr2.below (ab _)).keep hg7 (by omega) (fun e => by have := hsrc.out _ e; omega)
      refine held_skip (i := 8) (dst := none) (w' := w7) rfl rfl (by kernel_rfl) rfl (run_store_op rfl rfl rfl hst) hS7 ?_
      go_frame
      refine wpAnyH_done (by kernel_rfl) ?_ _
      obtain ⟨C, hC⟩ : ∃ C, u2.heap.size = C := ⟨_, rfl⟩
      rw [hC] at h7 hfc ⊢
      have hE0 : Hid (KeS w g C d ⟨⟨kt, ki⟩, pg⟩ (kidS s) w7) := ⟨hS7, h7, hr7⟩
      clear hst h7 hg7 hS7 hr7 hC hkey hu8 wp1 zr ab
      have hE := hE0.out
      have hsk := sizeKid kt ki pg
      go_wp2
      refine wp_region_held (S := KeS w g C d ⟨⟨kt, ki⟩, pg⟩ (kidS s)) (by kernel_rfl) ?_
      change wpAnyH _ _ _ _ _ _ _ _ (World.drew w7)
      have hE1 : KeS w g C d ⟨⟨kt, ki⟩, pg⟩ (kidS s) w7.drew := ⟨hE.kd.below (below_drew w7), hE.kid.below (below_drew w7), hE.rd.below (below_drew w7)⟩
      refine held_take (i := 0) (dst := some 12) rfl rfl (by kernel_rfl) (by kernel_rfl) (by kernel_rfl) (fun _ _ _ h => h) (y_load_agg 56 (.tmp 4) rfl rfl rfl (fun W hW => run_loadVar_at Try.underlying56 rfl hsk _ hW.all)) hE1 ?_
      go_frame
      refine held_take (i := 1) (dst := some 13) (v := .pointer (some ⟨w.heap.size, 0, none⟩)) rfl rfl (by kernel_rfl) (by kernel_rfl) (by kernel_rfl) (fun _ _ _ h => h) (.inl ⟨rfl, fun W hW => by go_simp⟩) hE1 ?_
      go_frame
      refine held_take (i := 2) (dst := some 14) (v := .pointer (some ⟨g, 0, none⟩)) rfl rfl (by kernel_rfl) (by kernel_rfl) (by kernel_rfl) (fun _ _ _ h => h) (.inl ⟨rfl, fun W hW => by have c0 := hW.kd.box.cell 0 rfl; go_simp⟩) hE1 ?_
      go_frame
      refine held_call (i := 3) (dst := some 15) rfl rfl (by kernel_rfl) rfl (by go_simp) (rdErr g d (kidS s) _ hE1.rd) ?_
      rintro e u ⟨rfl, rfl⟩
      refine ⟨_, rfl, hE1, ?_⟩
      go_frame
      obtain ⟨vs, hvl, hvr⟩ := hE1.kd.res
      obtain ⟨w9, hst, h9, hg9⟩ := run_storeVar_at (P := Try.prog) (ty := 56) (o := 0) (vs := [.int .i64 kt, .int .u16 ki, .int .i64 pg]) hvr (sizeKid _ _ _) (by rw [hvl]; exact Nat.le_refl _) (KidD.one ⟨⟨kt, ki⟩, pg⟩)
      rw [splice_all _ _ (by rw [hvl]; rfl)] at h9
      have hE9 : KeS w g C d ⟨⟨kt, ki⟩, pg⟩ (kidS s) w9 := ⟨⟨hE1.kd.box.gr hg9 (by omega), ⟨_, rfl, h9⟩, Gr.own hE1.kd.gr hg9 (by omega)⟩, hE1.kid.gr hg9 (by omega), hE1.rd.keep hg9 (by omega) (fun e => by have := hsrc.out _ e; omega)⟩
      refine held_skip (i := 4) (dst := none) (w' := w9) rfl rfl (by kernel_rfl) rfl (run_store_op rfl rfl rfl hst) hE9 ?_
      go_frame
      refine held_take (i := 5) (dst := some 3) (v := .int .i64 (kidS s).e) rfl rfl (by kernel_rfl) (by kernel_rfl) (by kernel_rfl) (fun _ _ _ h => h) (.inl ⟨rfl, fun W hW => by go_simp⟩) hE9 ?_
      go_frame
      refine wpAnyH_done (by kernel_rfl) ?_ _
      have s9 : RowV 56 w9 (w.heap.size + 1) [.int .i64 kt, .int .u16 ki, .int .i64 pg] := h9
      have m0 := s9.cell 0
      have m1 := s9.cell 1
      have m2 := s9.cell 2
      simp only [List.getElem?_cons_zero, List.getElem?_cons_succ] at m0 m1 m2
      have hE9' := Lib.hid hE9
      clear hst h9 hg9 hE9 hE1 hE hvr
      go_wp2
      refine bodyPost_ret (v := .tuple #[kidV ⟨⟨kt, ki⟩, pg⟩, .int .i64 (kidS s).e]) (by simp [results, Try.results73, go_sem, m0, m1, m2, kidV]) rfl ?_
      exact ⟨by rw [hkd.out], hE9'.out.kd.gr, hE9'.out.rd⟩
    · refine op_value (dst := some 4) (v := .pointer (some ⟨u1.heap.size, 0, none⟩)) (w' := u1.alloc (.cells #[.int .i64 0, .int .u16 0, .int .i64 0] 56)) rfl rfl rfl (by go_simp) ⟨hS1.below (ab _), ?_⟩
      go_frame
      refine held_call (i := 4) (dst := some 9) rfl rfl (by kernel_rfl) rfl (by go_simp) (hu8 _ (hr1.below (ab _))) ?_
      rintro e u2 ⟨rfl, hg2, hr2⟩
      have hS2 := (hS1.below (ab _)).on hg2 hg
      have hz2 := (zr u1).gr hg2 (by have := hS1.far; omega)
      have hf := hS1.far
      refine ⟨_, rfl, hS2, ?_⟩
      go_frame
      refine held_take (i := 5) (dst := some 10) (v := .int .i64 pg) rfl rfl (by kernel_rfl) (by kernel_rfl) (by kernel_rfl) (fun _ _ _ h => h) (.inl ⟨rfl, fun W hW => by go_simp⟩) hS2 ?_
      go_frame
      refine held_take (i := 6) (dst := some 11) (v := .agg #[.int .i64 kt, .int .u16 ki, .int .i64 pg]) rfl rfl (by kernel_rfl) (by kernel_rfl) (by kernel_rfl) (fun _ _ _ h => h) (.inl ⟨rfl, fun W hW => by go_simp⟩) hS2 ?_
      go_frame
      obtain ⟨w7, hst, h7, hg7⟩ := run_storeVar_at (P := Try.prog) (ty := 56) (o := 0) (vs := [.int .i64 kt, .int .u16 ki, .int .i64 pg]) hz2 (sizeKid _ _ _) (Nat.le_refl _) (KidD.one ⟨⟨kt, ki⟩, pg⟩)
      have hfc : w.heap.size + 2 ≤ u1.heap.size := hf
      have hS7 : KdS w g w7 := hS2.own hg7 hfc
      have hr7 : RdrS w7 g d (kidS s) := hr2.keep hg7 (by omega) (fun e => by have := hsrc.out _ e; omega)
      refine held_skip (i := 8) (dst := none) (w' := w7) rfl rfl (by kernel_rfl) rfl (run_store_op rfl rfl rfl hst) hS7 ?_
      go_frame
      refine wpAnyH_done (by kernel_rfl) ?_ _
      obtain ⟨C, hC⟩ : ∃ C, u1.heap.size = C := ⟨_, rfl⟩
      rw [hC] at h7 hfc ⊢
      have hE0 : Hid (KeS w g C d ⟨⟨kt, ki⟩, pg⟩ (kidS s) w7) := ⟨hS7, h7, hr7⟩
      clear hst h7 hg7 hS7 hr7 hC hkey hu8 wp1 zr ab
      have hE := hE0.out
      have hsk := sizeKid kt ki pg
      go_wp2
      refine wp_region_held (S := KeS w g C d ⟨⟨kt, ki⟩, pg⟩ (kidS s)) (by kernel_rfl) ?_
      change wpAnyH _ _ _ _ _ _ _ _ (World.drew w7)
      have hE1 : KeS w g C d ⟨⟨kt, ki⟩, pg⟩ (kidS s) w7.drew := ⟨hE.kd.below (below_drew w7), hE.kid.below (below_drew w7), hE.rd.below (below_drew w7)⟩
      refine held_take (i := 0) (dst := some 12) rfl rfl (by kernel_rfl) (by kernel_rfl) (by kernel_rfl) (fun _ _ _ h => h) (y_load_agg 56 (.tmp 4) rfl rfl rfl (fun W hW => run_loadVar_at Try.underlying56 rfl hsk _ hW.all)) hE1 ?_
      go_frame
      refine held_take (i := 1) (dst := some 13) (v := .pointer (some ⟨w.heap.size, 0, none⟩)) rfl rfl (by kernel_rfl) (by kernel_rfl) (by kernel_rfl) (fun _ _ _ h => h) (.inl ⟨rfl, fun W hW => by go_simp⟩) hE1 ?_
      go_frame
      refine held_take (i := 2) (dst := some 14) (v := .pointer (some ⟨g, 0, none⟩)) rfl rfl (by kernel_rfl) (by kernel_rfl) (by kernel_rfl) (fun _ _ _ h => h) (.inl ⟨rfl, fun W hW => by have c0 := hW.kd.box.cell 0 rfl; go_simp⟩) hE1 ?_
      go_frame
      refine held_call (i := 3) (dst := some 15) rfl rfl (by kernel_rfl) rfl (by go_simp) (rdErr g d (kidS s) _ hE1.rd) ?_
      rintro e u ⟨rfl, rfl⟩
      refine ⟨_, rfl, hE1, ?_⟩
      go_frame
      obtain ⟨vs, hvl, hvr⟩ := hE1.kd.res
      obtain ⟨w9, hst, h9, hg9⟩ := run_storeVar_at (P := Try.prog) (ty := 56) (o := 0) (vs := [.int .i64 kt, .int .u16 ki, .int .i64 pg]) hvr (sizeKid _ _ _) (by rw [hvl]; exact Nat.le_refl _) (KidD.one ⟨⟨kt, ki⟩, pg⟩)
      rw [splice_all _ _ (by rw [hvl]; rfl)] at h9
      have hE9 : KeS w g C d ⟨⟨kt, ki⟩, pg⟩ (kidS s) w9 := ⟨⟨hE1.kd.box.gr hg9 (by omega), ⟨_, rfl, h9⟩, Gr.own hE1.kd.gr hg9 (by omega)⟩, hE1.kid.gr hg9 (by omega), hE1.rd.keep hg9 (by omega) (fun e => by have := hsrc.out _ e; omega)⟩
      refine held_skip (i := 4) (dst := none) (w' := w9) rfl rfl (by kernel_rfl) rfl (run_store_op rfl rfl rfl hst) hE9 ?_
      go_frame
      refine held_take (i := 5) (dst := some 3) (v := .int .i64 (kidS s).e) rfl rfl (by kernel_rfl) (by kernel_rfl) (by kernel_rfl) (fun _ _ _ h => h) (.inl ⟨rfl, fun W hW => by go_simp⟩) hE9 ?_
      go_frame
      refine wpAnyH_done (by kernel_rfl) ?_ _
      have s9 : RowV 56 w9 (w.heap.size + 1) [.int .i64 kt, .int .u16 ki, .int .i64 pg] := h9
      have m0 := s9.cell 0
      have m1 := s9.cell 1
      have m2 := s9.cell 2
      simp only [List.getElem?_cons_zero, List.getElem?_cons_succ] at m0 m1 m2
      have hE9' := Lib.hid hE9
      clear hst h9 hg9 hE9 hE1 hE hvr
      go_wp2
      refine bodyPost_ret (v := .tuple #[kidV ⟨⟨kt, ki⟩, pg⟩, .int .i64 (kidS s).e]) (by simp [results, Try.results73, go_sem, m0, m1, m2, kidV]) rfl ?_
      exact ⟨by rw [hkd.out], hE9'.out.kd.gr, hE9'.out.rd⟩
  · refine op_value (dst := some 4) (v := .pointer (some ⟨W.drew.heap.size, 0, none⟩)) (w' := W.drew.alloc (.cells #[.int .i64 0, .int .u16 0, .int .i64 0] 56)) rfl rfl rfl (by go_simp) ⟨hS0.below (ab _), ?_⟩
    go_frame
    refine held_call (i := 1) (dst := some 6) rfl rfl (by kernel_rfl) rfl (by go_simp) (hkey _ (hr.below (ab _))) ?_
    rintro e u1 ⟨rfl, hg1, hr1⟩
    have hS1 := (hS0.below (ab _)).on hg1 hg
    have hz1 := (zr W.drew).gr hg1 (by have := hS0.far; omega)
    have hf := hS0.far
    refine ⟨_, rfl, hS1, ?_⟩
    go_frame
    refine held_call (i := 4) (dst := some 9) rfl rfl (by kernel_rfl) rfl (by go_simp) (hu8 _ hr1) ?_
    rintro e u2 ⟨rfl, hg2, hr2⟩
    have hS2 := hS1.on hg2 hg
    have hz2 := hz1.gr hg2 (by omega)
    refine ⟨_, rfl, hS2, ?_⟩
    go_frame
    refine held_take (i := 5) (dst := some 10) (v := .int .i64 pg) rfl rfl (by kernel_rfl) (by kernel_rfl) (by kernel_rfl) (fun _ _ _ h => h) (.inl ⟨rfl, fun W hW => by go_simp⟩) hS2 ?_
    go_frame
    refine held_take (i := 6) (dst := some 11) (v := .agg #[.int .i64 kt, .int .u16 ki, .int .i64 pg]) rfl rfl (by kernel_rfl) (by kernel_rfl) (by kernel_rfl) (fun _ _ _ h => h) (.inl ⟨rfl, fun W hW => by go_simp⟩) hS2 ?_
    go_frame
    obtain ⟨w7, hst, h7, hg7⟩ := run_storeVar_at (P := Try.prog) (ty := 56) (o := 0) (vs := [.int .i64 kt, .int .u16 ki, .int .i64 pg]) hz2 (sizeKid _ _ _) (Nat.le_refl _) (KidD.one ⟨⟨kt, ki⟩, pg⟩)
    have hfc : w.heap.size + 2 ≤ W.drew.heap.size := hf
    have hS7 : KdS w g w7 := hS2.own hg7 hfc
    have hr7 : RdrS w7 g d (kidS s) := hr2.keep hg7 (by omega) (fun e => by have := hsrc.out _ e; omega)
    refine held_skip (i := 8) (dst := none) (w' := w7) rfl rfl (by kernel_rfl) rfl (run_store_op rfl rfl rfl hst) hS7 ?_
    go_frame
    refine wpAnyH_done (by kernel_rfl) ?_ _
    obtain ⟨C, hC⟩ : ∃ C, W.drew.heap.size = C := ⟨_, rfl⟩
    rw [hC] at h7 hfc ⊢
    have hE0 : Hid (KeS w g C d ⟨⟨kt, ki⟩, pg⟩ (kidS s) w7) := ⟨hS7, h7, hr7⟩
    clear hst h7 hg7 hS7 hr7 hC hkey hu8 wp1 zr ab
    have hE := hE0.out
    have hsk := sizeKid kt ki pg
    go_wp2
    refine wp_region_held (S := KeS w g C d ⟨⟨kt, ki⟩, pg⟩ (kidS s)) (by kernel_rfl) ?_
    change wpAnyH _ _ _ _ _ _ _ _ (World.drew w7)
    have hE1 : KeS w g C d ⟨⟨kt, ki⟩, pg⟩ (kidS s) w7.drew := ⟨hE.kd.below (below_drew w7), hE.kid.below (below_drew w7), hE.rd.below (below_drew w7)⟩
    refine held_take (i := 0) (dst := some 12) rfl rfl (by kernel_rfl) (by kernel_rfl) (by kernel_rfl) (fun _ _ _ h => h) (y_load_agg 56 (.tmp 4) rfl rfl rfl (fun W hW => run_loadVar_at Try.underlying56 rfl hsk _ hW.all)) hE1 ?_
    go_frame
    refine held_take (i := 1) (dst := some 13) (v := .pointer (some ⟨w.heap.size, 0, none⟩)) rfl rfl (by kernel_rfl) (by kernel_rfl) (by kernel_rfl) (fun _ _ _ h => h) (.inl ⟨rfl, fun W hW => by go_simp⟩) hE1 ?_
    go_frame
    refine held_take (i := 2) (dst := some 14) (v := .pointer (some ⟨g, 0, none⟩)) rfl rfl (by kernel_rfl) (by kernel_rfl) (by kernel_rfl) (fun _ _ _ h => h) (.inl ⟨rfl, fun W hW => by have c0 := hW.kd.box.cell 0 rfl; go_simp⟩) hE1 ?_
    go_frame
    refine held_call (i := 3) (dst := some 15) rfl rfl (by kernel_rfl) rfl (by go_simp) (rdErr g d (kidS s) _ hE1.rd) ?_
    rintro e u ⟨rfl, rfl⟩
    refine ⟨_, rfl, hE1, ?_⟩
    go_frame
    obtain ⟨vs, hvl, hvr⟩ := hE1.kd.res
    obtain ⟨w9, hst, h9, hg9⟩ := run_storeVar_at (P := Try.prog) (ty := 56) (o := 0) (vs := [.int .i64 kt, .int .u16 ki, .int .i64 pg]) hvr (sizeKid _ _ _) (by rw [hvl]; exact Nat.le_refl _) (KidD.one ⟨⟨kt, ki⟩, pg⟩)
    rw [splice_all _ _ (by rw [hvl]; rfl)] at h9
    have hE9 : KeS w g C d ⟨⟨kt, ki⟩, pg⟩ (kidS s) w9 := ⟨⟨hE1.kd.box.gr hg9 (by omega), ⟨_, rfl, h9⟩, Gr.own hE1.kd.gr hg9 (by omega)⟩, hE1.kid.gr hg9 (by omega), hE1.rd.keep hg9 (by omega) (fun e => by have := hsrc.out _ e; omega)⟩
    refine held_skip (i := 4) (dst := none) (w' := w9) rfl rfl (by kernel_rfl) rfl (run_store_op rfl rfl rfl hst) hE9 ?_
    go_frame
    refine held_take (i := 5) (dst := some 3) (v := .int .i64 (kidS s).e) rfl rfl (by kernel_rfl) (by kernel_rfl) (by kernel_rfl) (fun _ _ _ h => h) (.inl ⟨rfl, fun W hW => by go_simp⟩) hE9 ?_
    go_frame
    refine wpAnyH_done (by kernel_rfl) ?_ _
    have s9 : RowV 56 w9 (w.heap.size + 1) [.int .i64 kt, .int .u16 ki, .int .i64 pg] := h9
    have m0 := s9.cell 0
    have m1 := s9.cell 1
    have m2 := s9.cell 2
    simp only [List.getElem?_cons_zero, List.getElem?_cons_succ] at m0 m1 m2
    have hE9' := Lib.hid hE9
    clear hst h9 hg9 hE9 hE1 hE hvr
    go_wp2
    refine bodyPost_ret (v := .tuple #[kidV ⟨⟨kt, ki⟩, pg⟩, .int .i64 (kidS s).e]) (by simp [results, Try.results73, go_sem, m0, m1, m2, kidV]) rfl ?_
    exact ⟨by rw [hkd.out], hE9'.out.kd.gr, hE9'.out.rd⟩
end Go.Proofs.Ytcniolmihpkmmaa
