/- Parts of the proof: The reader of codec: kid; The reader of codec: a list of rows; The reader of codec: a list of kids -/
import Derived.Test.YtocekhckmpkbmaaGreatQ04
namespace Go.Proofs.YtocekhckmpkbmaaGreat
open Go.RowKit
section
variable {P : Program} {ops : Array Oper} {Q : Exit → Act → World → Prop} {md : Region.Mode} {S : World → Prop}
/-- two may come up -/
theorem held_two {i j fuel : Nat} {listed : Array Bool} {a : Act} {w : World} (hr : Region.ready md ops listed = [i, j])
 (hi : wpOp P ops Q i (fun a' w' => S w' ∧ wpAnyH P md ops Q S fuel (listed.setIfInBounds i true) a' w') a w)
 (hj : wpOp P ops Q j (fun a' w' => S w' ∧ wpAnyH P md ops Q S fuel (listed.setIfInBounds j true) a' w') a w) : wpAnyH P md ops Q S (fuel + 1) listed a w := by
 refine wpAnyH_all hr (by simp) (fun k hk => ?_)
 rcases List.mem_cons.1 hk with rfl | hk
 · exact hi
 · rw [List.mem_singleton.1 hk]; exact hj
theorem op_call {i : Nat} {o : Oper} {dst : Option Tmp} (hd : o.dst = dst) {K : Act → World → Prop} {a : Act} {w : World} {f : FuncId} {args : Array Value} {R : Ending → World → Prop} (hi : ops[i]? = some o) (hw : Region.wanted o (yielded ops a.tmps) = true)
 (hrun : (execOp a.eval o).run P w = .ok (.enter f args) w) (hc : Calls P f args w R) (h : ∀ e w', R e w' → ∃ v, e = .returned v ∧ K (a.put dst v) w') : wpOp P ops Q i K a w := by
 subst hd
 unfold wpOp
 simp only [hi, hw, if_true]
 refine .inl ?_
 unfold Oper.wp
 rw [hrun, Oper.upon_enter]
 refine hc.mono fun e w' he => ?_
 obtain ⟨v, rfl, h1⟩ := h e w' he
 exact h1
theorem op_value {i : Nat} {o : Oper} {dst : Option Tmp} (hd : o.dst = dst) {K : Act → World → Prop} {a : Act} {w w' : World} {v : Value} (hi : ops[i]? = some o) (hw : Region.wanted o (yielded ops a.tmps) = true)
 (hrun : (execOp a.eval o).run P w = .ok (.value v) w') (h : K (a.put dst v) w') : wpOp P ops Q i K a w := by
 subst hd
 unfold wpOp
 simp only [hi, hw, if_true]
 refine .inl ?_
 unfold Oper.wp
 rw [hrun, Oper.upon_value]
 exact h
end
def kidD (s : St) : KidD := ⟨keyD s, (keyS s).num 1⟩
def kidS (s : St) : St := (keyS s).next 1
def kidV (k : KidD) : Value := .agg #[.int .i64 k.least.t, .int .u16 k.least.id, .int .i64 k.page]
def KidRd (s : St) (w : World) (g : Nat) (d : Option Nat) (e : Ending) (w' : World) : Prop :=
 e = .returned (.tuple #[kidV (kidD s), .int .i64 (kidS s).e]) ∧ w.grownBy w' (some g) ∧ RdrS w' g d (kidS s)
theorem kidD_ok (s : St) : 0 ≤ (kidD s).page ∧ (kidD s).page < 256 := by
 have h1 := numV1 (keyS s).l (keyS s).e
 exact ⟨h1.1, h1.2⟩
structure KdS (w : World) (g : Nat) (u : World) : Prop where
 box : Boxed u w.heap.size [.pointer (some ⟨g, 0, none⟩)]
 res : ∃ vs, vs.length = 3 ∧ RowV 100 u (w.heap.size + 1) vs
 gr : w.grownBy u (some g)
theorem KdS.on {w : World} {g : Nat} {u v : World} (h : KdS w g u) (hg : u.grownBy v (some g)) (hb : g < w.heap.size) : KdS w g v :=
 ⟨h.box.gr hg (by omega), by obtain ⟨vs, h1, h2⟩ := h.res; exact ⟨vs, h1, h2.gr hg (by omega)⟩, h.gr.trans hg⟩
theorem KdS.below {w : World} {g : Nat} {u v : World} (h : KdS w g u) (hb : Below u.heap.size u v) : KdS w g v :=
 ⟨h.box.below hb (Nat.le_refl _), by obtain ⟨vs, h1, h2⟩ := h.res; exact ⟨vs, h1, h2.below hb⟩, Gr.then h.gr hb⟩
theorem KdS.own {w : World} {g c : Nat} {u v : World} (h : KdS w g u) (hg : u.grownBy v (some c)) (hc : w.heap.size + 2 ≤ c) : KdS w g v :=
 ⟨h.box.gr hg (by omega), by obtain ⟨vs, h1, h2⟩ := h.res; exact ⟨vs, h1, h2.gr hg (by omega)⟩, Gr.own h.gr hg (by omega)⟩
theorem KdS.far {w : World} {g : Nat} {u : World} (h : KdS w g u) : w.heap.size + 2 ≤ u.heap.size := by
 obtain ⟨vs, _, h2⟩ := h.res
 have := h2.lt
 omega
structure KeS (w : World) (g c : Nat) (d : Option Nat) (k : KidD) (s : St) (u : World) : Prop where
 kd : KdS w g u
 kid : RowV 100 u c k.cells
 rd : RdrS u g d s
theorem KeS.all {w : World} {g c : Nat} {d : Option Nat} {k : KidD} {s : St} {u : World} (h : KeS w g c d k s u) : ∀ j v, k.cells[j]? = some v → u.cell? ((⟨c, 0, none⟩ : Addr).add j) = some v := h.kid.part (pre := []) (rest := []) (by simp) rfl
set_option maxRecDepth 100000 in
set_option maxHeartbeats 4000000 in
theorem kid_rd (g : Nat) (d : Option Nat) (s : St) (w : World) (h : RdrS w g d s) :
 Calls Tryz.prog 165 #[.agg #[.pointer (some ⟨g, 0, none⟩)]] w (KidRd s w g d) := by
 obtain ⟨W, hW⟩ : ∃ W, (w.alloc (.cells #[.pointer (some ⟨g, 0, none⟩)] 190)).alloc (.cells #[.int .i64 0, .int .u16 0, .int .i64 0] 100) = W := ⟨_, rfl⟩
 have hbx := Lib.hid (two_boxes (xs := [.pointer (some ⟨g, 0, none⟩)]) (ys := [.int .i64 0, .int .u16 0, .int .i64 0]) hW)
 have hres : RowV 100 W (w.heap.size + 1) [.int .i64 0, .int .u16 0, .int .i64 0] := by
  have h0 := RowV.made (T := 100) (w.alloc (.cells #[.pointer (some ⟨g, 0, none⟩)] 190)) [.int .i64 0, .int .u16 0, .int .i64 0]
  rw [← hW]; simpa using h0
 have hg := h.lt
 have hsrc := Lib.hid h.src
 have hr := h.below (hbx.out.1.trans ((below_drew W).mono hbx.out.1.size))
 have hs1 := sizeRd (.pointer (some ⟨g, 0, none⟩))
 obtain ⟨k0, k1, k2, k3⟩ := keyD_ok s
 obtain ⟨p0, p1⟩ := kidD_ok s
 obtain ⟨⟨kt, ki⟩, hk⟩ : ∃ k, keyD s = k := ⟨_, rfl⟩
 obtain ⟨pg, hp⟩ : ∃ p, (keyS s).num 1 = p := ⟨_, rfl⟩
 have hkd : Hid (kidD s = ⟨⟨kt, ki⟩, pg⟩) := by show (⟨keyD s, (keyS s).num 1⟩ : KidD) = _; rw [hk, hp]
 rw [hk] at k0 k1 k2 k3
 rw [hkd.out] at p0 p1
 have p0' : 0 ≤ pg := p0
 have p1' : pg < 256 := p1
 have hkey := fun u (hu : RdrS u g d s) => key_any g d s u hu
 have hu8 := fun u (hu : RdrS u g d (keyS s)) => rd8 g d (keyS s) u hu
 rw [hk] at hkey
 rw [hp] at hu8
 have wp1 : IntKind.i64.wrap pg = pg := IntWalk.i64_in _ (by omega)
 have zr : ∀ u : World, RowV 100 (u.alloc (.cells #[.int .i64 0, .int .u16 0, .int .i64 0] 100)) u.heap.size [.int .i64 0, .int .u16 0, .int .i64 0] := fun u => RowV.made u _
 have ab : ∀ u : World, Below u.heap.size u (u.alloc (.cells #[.int .i64 0, .int .u16 0, .int .i64 0] 100)) := fun u => (Below.refl _ _).alloc (Nat.le_refl _) _
 clear h hk hp p0 p1
 go_enter Tryz.func165, Tryz.ntmps165
 go_wp2
 clear hW
 have hS0 : KdS w g W.drew := ⟨hbx.out.2.1.below (below_drew W) (Nat.le_refl _), ⟨_, rfl, hres.below (below_drew W)⟩, below_grown (hbx.out.1.trans ((below_drew W).mono hbx.out.1.size)) _⟩
 refine wp_region_held (S := KdS w g) (by kernel_rfl) ?_
 change wpAnyH _ _ _ _ _ _ _ _ (World.drew W)
 refine held_take (i := 0) (dst := some 5) rfl rfl (by kernel_rfl) (by kernel_rfl) (by kernel_rfl) (fun _ _ _ h => h) (y_load_agg 190 (.tmp 1) rfl rfl rfl (fun W hW => run_loadVar_at Tryz.underlying190 rfl hs1 _ hW.box.all)) hS0 ?_
 go_frame
 refine held_take (i := 2) (dst := some 7) (v := .pointer (some ⟨w.heap.size, 0, none⟩)) rfl rfl (by kernel_rfl) (by kernel_rfl) (by kernel_rfl) (fun _ _ _ h => h) (.inl ⟨rfl, fun W hW => by go_simp⟩) hS0 ?_
 go_frame
 refine held_take (i := 3) (dst := some 8) (v := .pointer (some ⟨g, 0, none⟩)) rfl rfl (by kernel_rfl) (by kernel_rfl) (by kernel_rfl) (fun _ _ _ h => h) (.inl ⟨rfl, fun W hW => by have c0 := hW.box.cell 0 rfl; go_simp⟩) hS0 ?_
 go_frame
 refine held_two (i := 1) (j := 7) (by kernel_rfl) ?_ ?_
 · refine op_call (dst := some 6) rfl rfl rfl (by go_simp) (hkey _ hr) ?_
   rintro e u1 ⟨rfl, hg1, hr1⟩
   have hS1 := hS0.on hg1 hg
   refine ⟨_, rfl, hS1, ?_⟩
   go_frame
   refine held_two (i := 4) (j := 7) (by kernel_rfl) ?_ ?_
   · refine op_call (dst := some 9) rfl rfl rfl (by go_simp) (hu8 _ hr1) ?_
     rintro e u2 ⟨rfl, hg2, hr2⟩
     have hS2 := hS1.on hg2 hg
     refine ⟨_, rfl, hS2, ?_⟩
     go_frame
     refine held_take (i := 5) (dst := some 10) (v := .int .i64 pg) rfl rfl (by kernel_rfl) (by kernel_rfl) (by kernel_rfl) (fun _ _ _ h => h) (.inl ⟨rfl, fun W hW => by go_simp⟩) hS2 ?_
     go_frame
     refine held_take (i := 6) (dst := some 11) (v := .agg #[.int .i64 kt, .int .u16 ki, .int .i64 pg]) rfl rfl (by kernel_rfl) (by kernel_rfl) (by kernel_rfl) (fun _ _ _ h => h) (.inl ⟨rfl, fun W hW => by go_simp⟩) hS2 ?_
     go_frame
     refine held_value (i := 7) (dst := some 4) (v := .pointer (some ⟨u2.heap.size, 0, none⟩)) (w' := u2.alloc (.cells #[.int .i64 0, .int .u16 0, .int .i64 0] 100)) rfl rfl (by kernel_rfl) rfl (by go_simp) (hS2.below (ab _)) ?_
     go_frame
     obtain ⟨w7, hst, h7, hg7⟩ := run_storeVar_at (P := Tryz.prog) (ty := 100) (o := 0) (vs := [.int .i64 kt, .int .u16 ki, .int .i64 pg]) (zr u2) (sizeKid _ _ _) (Nat.le_refl _) (KidD.one ⟨⟨kt, ki⟩, pg⟩)
     have hfc : w.heap.size + 2 ≤ u2.heap.size := hS2.far
     have hS7 : KdS w g w7 := (hS2.below (ab _)).own hg7 hfc
     have hr7 : RdrS w7 g d (kidS s) := (hr2.below (ab _)).keep hg7 (by omega) (fun e => by have := hsrc.out _ e; omega)
     refine held_skip (i := 8) (dst := none) (w' := w7) rfl rfl (by kernel_rfl) rfl (run_store_op rfl rfl rfl hst) hS7 ?_
     go_frame
     refine wpAnyH_done (by kernel_rfl) ?_ _
     obtain ⟨C, hC⟩ : ∃ C, u2.heap.size = C := ⟨_, rfl⟩
     rw [hC] at h7 hfc ⊢
     have hE0 : Hid (KeS w g C d ⟨⟨kt, ki⟩, pg⟩ (kidS s) w7) := ⟨hS7, h7, hr7⟩
     clear hst h7 hg7 hS7 hr7 hC hkey hu8 wp1 zr ab
     have hE := hE0.out
     have hsk := sizeKid kt ki pg
     go_wp2
     refine wp_region_held (S := KeS w g C d ⟨⟨kt, ki⟩, pg⟩ (kidS s)) (by kernel_rfl) ?_
     change wpAnyH _ _ _ _ _ _ _ _ (World.drew w7)
     have hE1 : KeS w g C d ⟨⟨kt, ki⟩, pg⟩ (kidS s) w7.drew := ⟨hE.kd.below (below_drew w7), hE.kid.below (below_drew w7), hE.rd.below (below_drew w7)⟩
     refine held_take (i := 0) (dst := some 12) rfl rfl (by kernel_rfl) (by kernel_rfl) (by kernel_rfl) (fun _ _ _ h => h) (y_load_agg 100 (.tmp 4) rfl rfl rfl (fun W hW => run_loadVar_at Tryz.underlying100 rfl hsk _ hW.all)) hE1 ?_
     go_frame
     refine held_take (i := 1) (dst := some 13) (v := .pointer (some ⟨w.heap.size, 0, none⟩)) rfl rfl (by kernel_rfl) (by kernel_rfl) (by kernel_rfl) (fun _ _ _ h => h) (.inl ⟨rfl, fun W hW => by go_simp⟩) hE1 ?_
     go_frame
     refine held_take (i := 2) (dst := some 14) (v := .pointer (some ⟨g, 0, none⟩)) rfl rfl (by kernel_rfl) (by kernel_rfl) (by kernel_rfl) (fun _ _ _ h => h) (.inl ⟨rfl, fun W hW => by have c0 := hW.kd.box.cell 0 rfl; go_simp⟩) hE1 ?_
     go_frame
     refine held_call (i := 3) (dst := some 15) rfl rfl (by kernel_rfl) rfl (by go_simp) (rdErr g d (kidS s) _ hE1.rd) ?_
     rintro e u ⟨rfl, rfl⟩
     refine ⟨_, rfl, hE1, ?_⟩
     go_frame
     obtain ⟨vs, hvl, hvr⟩ := hE1.kd.res
     obtain ⟨w9, hst, h9, hg9⟩ := run_storeVar_at (P := Tryz.prog) (ty := 100) (o := 0) (vs := [.int .i64 kt, .int .u16 ki, .int .i64 pg]) hvr (sizeKid _ _ _) (by rw [hvl]; exact Nat.le_refl _) (KidD.one ⟨⟨kt, ki⟩, pg⟩)
     rw [splice_all _ _ (by rw [hvl]; rfl)] at h9
     have hE9 : KeS w g C d ⟨⟨kt, ki⟩, pg⟩ (kidS s) w9 := ⟨⟨hE1.kd.box.gr hg9 (by omega), ⟨_, rfl, h9⟩, Gr.own hE1.kd.gr hg9 (by omega)⟩, hE1.kid.gr hg9 (by omega), hE1.rd.keep hg9 (by omega) (fun e => by have := hsrc.out _ e; omega)⟩
     refine held_skip (i := 4) (dst := none) (w' := w9) rfl rfl (by kernel_rfl) rfl (run_store_op rfl rfl rfl hst) hE9 ?_
     go_frame
     refine held_take (i := 5) (dst := some 3) (v := .int .i64 (kidS s).e) rfl rfl (by kernel_rfl) (by kernel_rfl) (by kernel_rfl) (fun _ _ _ h => h) (.inl ⟨rfl, fun W hW => by go_simp⟩) hE9 ?_
     go_frame
     refine wpAnyH_done (by kernel_rfl) ?_ _
     have s9 : RowV 100 w9 (w.heap.size + 1) [.int .i64 kt, .int .u16 ki, .int .i64 pg] := h9
     have m0 := s9.cell 0
     have m1 := s9.cell 1
     have m2 := s9.cell 2
     simp only [List.getElem?_cons_zero, List.getElem?_cons_succ] at m0 m1 m2
     have hE9' := Lib.hid hE9
     clear hst h9 hg9 hE9 hE1 hE hvr
     go_wp2
     refine bodyPost_ret (v := .tuple #[kidV ⟨⟨kt, ki⟩, pg⟩, .int .i64 (kidS s).e]) (by simp [results, Tryz.results165, go_sem, m0, m1, m2, kidV]) rfl ?_
     exact ⟨by rw [hkd.out], hE9'.out.kd.gr, hE9'.out.rd⟩
   · refine op_value (dst := some 4) (v := .pointer (some ⟨u1.heap.size, 0, none⟩)) (w' := u1.alloc (.cells #[.int .i64 0, .int .u16 0, .int .i64 0] 100)) rfl rfl rfl (by go_simp) ⟨hS1.below (ab _), ?_⟩
     go_frame
     refine held_call (i := 4) (dst := some 9) rfl rfl (by kernel_rfl) rfl (by go_simp) (hu8 _ (hr1.below (ab _))) ?_
     rintro e u2 ⟨rfl, hg2, hr2⟩
     have hS2 := (hS1.below (ab _)).on hg2 hg
     have hz2 := (zr u1).gr hg2 (by have := hS1.far; omega)
     have hf := hS1.far
     refine ⟨_, rfl, hS2, ?_⟩
     go_frame
     refine held_take (i := 5) (dst := some 10) (v := .int .i64 pg) rfl rfl (by kernel_rfl) (by kernel_rfl) (by kernel_rfl) (fun _ _ _ h => h) (.inl ⟨rfl, fun W hW => by go_simp⟩) hS2 ?_
     go_frame
     refine held_take (i := 6) (dst := some 11) (v := .agg #[.int .i64 kt, .int .u16 ki, .int .i64 pg]) rfl rfl (by kernel_rfl) (by kernel_rfl) (by kernel_rfl) (fun _ _ _ h => h) (.inl ⟨rfl, fun W hW => by go_simp⟩) hS2 ?_
     go_frame
     obtain ⟨w7, hst, h7, hg7⟩ := run_storeVar_at (P := Tryz.prog) (ty := 100) (o := 0) (vs := [.int .i64 kt, .int .u16 ki, .int .i64 pg]) hz2 (sizeKid _ _ _) (Nat.le_refl _) (KidD.one ⟨⟨kt, ki⟩, pg⟩)
     have hfc : w.heap.size + 2 ≤ u1.heap.size := hf
     have hS7 : KdS w g w7 := hS2.own hg7 hfc
     have hr7 : RdrS w7 g d (kidS s) := hr2.keep hg7 (by omega) (fun e => by have := hsrc.out _ e; omega)
     refine held_skip (i := 8) (dst := none) (w' := w7) rfl rfl (by kernel_rfl) rfl (run_store_op rfl rfl rfl hst) hS7 ?_
     go_frame
     refine wpAnyH_done (by kernel_rfl) ?_ _
     obtain ⟨C, hC⟩ : ∃ C, u1.heap.size = C := ⟨_, rfl⟩
     rw [hC] at h7 hfc ⊢
     have hE0 : Hid (KeS w g C d ⟨⟨kt, ki⟩, pg⟩ (kidS s) w7) := ⟨hS7, h7, hr7⟩
     clear hst h7 hg7 hS7 hr7 hC hkey hu8 wp1 zr ab
     have hE := hE0.out
     have hsk := sizeKid kt ki pg
     go_wp2
     refine wp_region_held (S := KeS w g C d ⟨⟨kt, ki⟩, pg⟩ (kidS s)) (by kernel_rfl) ?_
     change wpAnyH _ _ _ _ _ _ _ _ (World.drew w7)
     have hE1 : KeS w g C d ⟨⟨kt, ki⟩, pg⟩ (kidS s) w7.drew := ⟨hE.kd.below (below_drew w7), hE.kid.below (below_drew w7), hE.rd.below (below_drew w7)⟩
     refine held_take (i := 0) (dst := some 12) rfl rfl (by kernel_rfl) (by kernel_rfl) (by kernel_rfl) (fun _ _ _ h => h) (y_load_agg 100 (.tmp 4) rfl rfl rfl (fun W hW => run_loadVar_at Tryz.underlying100 rfl hsk _ hW.all)) hE1 ?_
     go_frame
     refine held_take (i := 1) (dst := some 13) (v := .pointer (some ⟨w.heap.size, 0, none⟩)) rfl rfl (by kernel_rfl) (by kernel_rfl) (by kernel_rfl) (fun _ _ _ h => h) (.inl ⟨rfl, fun W hW => by go_simp⟩) hE1 ?_
     go_frame
     refine held_take (i := 2) (dst := some 14) (v := .pointer (some ⟨g, 0, none⟩)) rfl rfl (by kernel_rfl) (by kernel_rfl) (by kernel_rfl) (fun _ _ _ h => h) (.inl ⟨rfl, fun W hW => by have c0 := hW.kd.box.cell 0 rfl; go_simp⟩) hE1 ?_
     go_frame
     refine held_call (i := 3) (dst := some 15) rfl rfl (by kernel_rfl) rfl (by go_simp) (rdErr g d (kidS s) _ hE1.rd) ?_
     rintro e u ⟨rfl, rfl⟩
     refine ⟨_, rfl, hE1, ?_⟩
     go_frame
     obtain ⟨vs, hvl, hvr⟩ := hE1.kd.res
     obtain ⟨w9, hst, h9, hg9⟩ := run_storeVar_at (P := Tryz.prog) (ty := 100) (o := 0) (vs := [.int .i64 kt, .int .u16 ki, .int .i64 pg]) hvr (sizeKid _ _ _) (by rw [hvl]; exact Nat.le_refl _) (KidD.one ⟨⟨kt, ki⟩, pg⟩)
     rw [splice_all _ _ (by rw [hvl]; rfl)] at h9
     have hE9 : KeS w g C d ⟨⟨kt, ki⟩, pg⟩ (kidS s) w9 := ⟨⟨hE1.kd.box.gr hg9 (by omega), ⟨_, rfl, h9⟩, Gr.own hE1.kd.gr hg9 (by omega)⟩, hE1.kid.gr hg9 (by omega), hE1.rd.keep hg9 (by omega) (fun e => by have := hsrc.out _ e; omega)⟩
     refine held_skip (i := 4) (dst := none) (w' := w9) rfl rfl (by kernel_rfl) rfl (run_store_op rfl rfl rfl hst) hE9 ?_
     go_frame
     refine held_take (i := 5) (dst := some 3) (v := .int .i64 (kidS s).e) rfl rfl (by kernel_rfl) (by kernel_rfl) (by kernel_rfl) (fun _ _ _ h => h) (.inl ⟨rfl, fun W hW => by go_simp⟩) hE9 ?_
     go_frame
     refine wpAnyH_done (by kernel_rfl) ?_ _
     have s9 : RowV 100 w9 (w.heap.size + 1) [.int .i64 kt, .int .u16 ki, .int .i64 pg] := h9
     have m0 := s9.cell 0
     have m1 := s9.cell 1
     have m2 := s9.cell 2
     simp only [List.getElem?_cons_zero, List.getElem?_cons_succ] at m0 m1 m2
     have hE9' := Lib.hid hE9
     clear hst h9 hg9 hE9 hE1 hE hvr
     go_wp2
     refine bodyPost_ret (v := .tuple #[kidV ⟨⟨kt, ki⟩, pg⟩, .int .i64 (kidS s).e]) (by simp [results, Tryz.results165, go_sem, m0, m1, m2, kidV]) rfl ?_
     exact ⟨by rw [hkd.out], hE9'.out.kd.gr, hE9'.out.rd⟩
 · refine op_value (dst := some 4) (v := .pointer (some ⟨W.drew.heap.size, 0, none⟩)) (w' := W.drew.alloc (.cells #[.int .i64 0, .int .u16 0, .int .i64 0] 100)) rfl rfl rfl (by go_simp) ⟨hS0.below (ab _), ?_⟩
   go_frame
   refine held_call (i := 1) (dst := some 6) rfl rfl (by kernel_rfl) rfl (by go_simp) (hkey _ (hr.below (ab _))) ?_
   rintro e u1 ⟨rfl, hg1, hr1⟩
   have hS1 := (hS0.below (ab _)).on hg1 hg
   have hz1 := (zr W.drew).gr hg1 (by have := hS0.far; omega)
   have hf := hS0.far
   refine ⟨_, rfl, hS1, ?_⟩
   go_frame
   refine held_call (i := 4) (dst := some 9) rfl rfl (by kernel_rfl) rfl (by go_simp) (hu8 _ hr1) ?_
   rintro e u2 ⟨rfl, hg2, hr2⟩
   have hS2 := hS1.on hg2 hg
   have hz2 := hz1.gr hg2 (by omega)
   refine ⟨_, rfl, hS2, ?_⟩
   go_frame
   refine held_take (i := 5) (dst := some 10) (v := .int .i64 pg) rfl rfl (by kernel_rfl) (by kernel_rfl) (by kernel_rfl) (fun _ _ _ h => h) (.inl ⟨rfl, fun W hW => by go_simp⟩) hS2 ?_
   go_frame
   refine held_take (i := 6) (dst := some 11) (v := .agg #[.int .i64 kt, .int .u16 ki, .int .i64 pg]) rfl rfl (by kernel_rfl) (by kernel_rfl) (by kernel_rfl) (fun _ _ _ h => h) (.inl ⟨rfl, fun W hW => by go_simp⟩) hS2 ?_
   go_frame
   obtain ⟨w7, hst, h7, hg7⟩ := run_storeVar_at (P := Tryz.prog) (ty := 100) (o := 0) (vs := [.int .i64 kt, .int .u16 ki, .int .i64 pg]) hz2 (sizeKid _ _ _) (Nat.le_refl _) (KidD.one ⟨⟨kt, ki⟩, pg⟩)
   have hfc : w.heap.size + 2 ≤ W.drew.heap.size := hf
   have hS7 : KdS w g w7 := hS2.own hg7 hfc
   have hr7 : RdrS w7 g d (kidS s) := hr2.keep hg7 (by omega) (fun e => by have := hsrc.out _ e; omega)
   refine held_skip (i := 8) (dst := none) (w' := w7) rfl rfl (by kernel_rfl) rfl (run_store_op rfl rfl rfl hst) hS7 ?_
   go_frame
   refine wpAnyH_done (by kernel_rfl) ?_ _
   obtain ⟨C, hC⟩ : ∃ C, W.drew.heap.size = C := ⟨_, rfl⟩
   rw [hC] at h7 hfc ⊢
   have hE0 : Hid (KeS w g C d ⟨⟨kt, ki⟩, pg⟩ (kidS s) w7) := ⟨hS7, h7, hr7⟩
   clear hst h7 hg7 hS7 hr7 hC hkey hu8 wp1 zr ab
   have hE := hE0.out
   have hsk := sizeKid kt ki pg
   go_wp2
   refine wp_region_held (S := KeS w g C d ⟨⟨kt, ki⟩, pg⟩ (kidS s)) (by kernel_rfl) ?_
   change wpAnyH _ _ _ _ _ _ _ _ (World.drew w7)
   have hE1 : KeS w g C d ⟨⟨kt, ki⟩, pg⟩ (kidS s) w7.drew := ⟨hE.kd.below (below_drew w7), hE.kid.below (below_drew w7), hE.rd.below (below_drew w7)⟩
   refine held_take (i := 0) (dst := some 12) rfl rfl (by kernel_rfl) (by kernel_rfl) (by kernel_rfl) (fun _ _ _ h => h) (y_load_agg 100 (.tmp 4) rfl rfl rfl (fun W hW => run_loadVar_at Tryz.underlying100 rfl hsk _ hW.all)) hE1 ?_
   go_frame
   refine held_take (i := 1) (dst := some 13) (v := .pointer (some ⟨w.heap.size, 0, none⟩)) rfl rfl (by kernel_rfl) (by kernel_rfl) (by kernel_rfl) (fun _ _ _ h => h) (.inl ⟨rfl, fun W hW => by go_simp⟩) hE1 ?_
   go_frame
   refine held_take (i := 2) (dst := some 14) (v := .pointer (some ⟨g, 0, none⟩)) rfl rfl (by kernel_rfl) (by kernel_rfl) (by kernel_rfl) (fun _ _ _ h => h) (.inl ⟨rfl, fun W hW => by have c0 := hW.kd.box.cell 0 rfl; go_simp⟩) hE1 ?_
   go_frame
   refine held_call (i := 3) (dst := some 15) rfl rfl (by kernel_rfl) rfl (by go_simp) (rdErr g d (kidS s) _ hE1.rd) ?_
   rintro e u ⟨rfl, rfl⟩
   refine ⟨_, rfl, hE1, ?_⟩
   go_frame
   obtain ⟨vs, hvl, hvr⟩ := hE1.kd.res
   obtain ⟨w9, hst, h9, hg9⟩ := run_storeVar_at (P := Tryz.prog) (ty := 100) (o := 0) (vs := [.int .i64 kt, .int .u16 ki, .int .i64 pg]) hvr (sizeKid _ _ _) (by rw [hvl]; exact Nat.le_refl _) (KidD.one ⟨⟨kt, ki⟩, pg⟩)
   rw [splice_all _ _ (by rw [hvl]; rfl)] at h9
   have hE9 : KeS w g C d ⟨⟨kt, ki⟩, pg⟩ (kidS s) w9 := ⟨⟨hE1.kd.box.gr hg9 (by omega), ⟨_, rfl, h9⟩, Gr.own hE1.kd.gr hg9 (by omega)⟩, hE1.kid.gr hg9 (by omega), hE1.rd.keep hg9 (by omega) (fun e => by have := hsrc.out _ e; omega)⟩
   refine held_skip (i := 4) (dst := none) (w' := w9) rfl rfl (by kernel_rfl) rfl (run_store_op rfl rfl rfl hst) hE9 ?_
   go_frame
   refine held_take (i := 5) (dst := some 3) (v := .int .i64 (kidS s).e) rfl rfl (by kernel_rfl) (by kernel_rfl) (by kernel_rfl) (fun _ _ _ h => h) (.inl ⟨rfl, fun W hW => by go_simp⟩) hE9 ?_
   go_frame
   refine wpAnyH_done (by kernel_rfl) ?_ _
   have s9 : RowV 100 w9 (w.heap.size + 1) [.int .i64 kt, .int .u16 ki, .int .i64 pg] := h9
   have m0 := s9.cell 0
   have m1 := s9.cell 1
   have m2 := s9.cell 2
   simp only [List.getElem?_cons_zero, List.getElem?_cons_succ] at m0 m1 m2
   have hE9' := Lib.hid hE9
   clear hst h9 hg9 hE9 hE1 hE hvr
   go_wp2
   refine bodyPost_ret (v := .tuple #[kidV ⟨⟨kt, ki⟩, pg⟩, .int .i64 (kidS s).e]) (by simp [results, Tryz.results165, go_sem, m0, m1, m2, kidV]) rfl ?_
   exact ⟨by rw [hkd.out], hE9'.out.kd.gr, hE9'.out.rd⟩
end Go.Proofs.YtocekhckmpkbmaaGreat
namespace Go.Proofs.YtocekhckmpkbmaaGreat
open Go.RowKit
theorem RowV.rows1 {T : TypeId} {w : World} {g : Nat} {r : RowD} (h : RowV T w g r.cells) (hok : RowOk r) : RowsOn w (some ⟨g, 0, none⟩) 1 1 [r] :=
 ⟨rfl, Nat.le_refl _, by unfold maxLen; decide, (fun e => by cases e), fun i x hi => ⟨_, rfl, fun j v hj => by
  match i, hi with
  | 0, hi =>
    obtain rfl : r = x := by simpa using hi
    rw [Nat.zero_mul, add0]
    exact h.part (pre := []) (rest := []) (by simp) rfl j v hj
  | i + 1, hi => simp at hi⟩, fun x hx => by rw [List.mem_singleton.1 hx]; exact hok⟩
theorem rowP_ok {s s' : St} {r : RowD} (h : rowP s = (r, 0, s')) : RowOk r ∧ tabB r.key.t = true ∧ r.note.size ≤ 8 := by
 obtain ⟨k0, k1, k2, k3⟩ := keyD_ok s
 unfold rowP at h
 split at h
 · rename_i ht
   split at h
   · rename_i hl
     split at h
     · rename_i he
       simp only [Prod.mk.injEq] at h
       obtain ⟨rfl, _, _⟩ := h
       have hn : ((lenT s).raw (lenS s)).length ≤ 8 := by
        unfold St.raw rawL
        split
        · rw [List.length_take]; omega
        · simp
       have hv : I64 (valS s) := by
        unfold valS I64
        rw [IntKind.wrap_i64]
        omega
       refine ⟨⟨⟨by unfold I64; constructor <;> (show _ ; have : (⟨keyD s, valS s, ⟨((lenT s).raw (lenS s)).toArray⟩⟩ : RowD).key.t = (keyD s).t := rfl; omega), k2, k3⟩, hv, ?_⟩, ht, ?_⟩
       · show ((lenT s).raw (lenS s)).toArray.size ≤ _
         unfold maxLen; simp; omega
       · show ((lenT s).raw (lenS s)).toArray.size ≤ _
         simpa using hn
     · rename_i he
       simp only [Prod.mk.injEq] at h
       exact absurd h.2.1 he
   · simp at h
 · simp at h
def rowsP : Nat → List RowD → St → List RowD × Int × St
 | 0, acc, s => (acc, s.e, s)
 | n + 1, acc, s => if (rowP s).2.1 = 0 then rowsP n (acc ++ [(rowP s).1]) (rowP s).2.2 else ([], (rowP s).2.1, (rowP s).2.2)
def listR (s : St) : List RowD × Int × St := if 4 < s.num 1 then ([], 161, s.next 1) else rowsP (s.num 1).toNat [] (s.next 1)
/-- what the list holds in the middle -/
structure LRS (w : World) (g : Nat) (d : Option Nat) (acc : List RowD) (v : Value) (s : St) (u : World) : Prop where
 box : Boxed u w.heap.size [.pointer (some ⟨g, 0, none⟩)]
 own : OwnR 68 u (w.heap.size + 1) v acc
 gr : w.grownBy u (some g)
 rd : RdrS u g d s
 far : w.heap.size < u.heap.size
theorem LRS.on {w u v : World} {g : Nat} {d : Option Nat} {acc : List RowD} {q : Option Addr} {n c : Nat} {s s' : St} (h : LRS w g d acc (.slice q n c) s u) (hg : u.grownBy v (some g)) (hr : RdrS v g d s') (hb : g < w.heap.size) : LRS w g d acc (.slice q n c) s' v :=
 ⟨h.box.gr hg (by omega), h.own.kept (fun a ha => hg.block _ (h.own.far a ha).2 (fun e => by have := (h.own.far a ha).1; simp at e; omega)), h.gr.trans hg, hr, Nat.lt_of_lt_of_le h.far hg.size⟩
theorem LRS.below {w u v : World} {g : Nat} {d : Option Nat} {acc : List RowD} {q : Option Addr} {n c : Nat} {s : St} (h : LRS w g d acc (.slice q n c) s u) (hb : Below u.heap.size u v) : LRS w g d acc (.slice q n c) s v :=
 ⟨h.box.below hb (Nat.le_refl _), h.own.below hb, Gr.then h.gr hb, h.rd.below hb, Nat.lt_of_lt_of_le h.far hb.size⟩
theorem LRS.more {w u v : World} {g : Nat} {d : Option Nat} {acc acc' : List RowD} {q q' : Option Addr} {n c n' c' : Nat} {s : St} (h : LRS w g d acc (.slice q n c) s u) (hg : u.grownBy v (q.map (·.block))) (ho : OwnR 68 v (w.heap.size + 1) (.slice q' n' c') acc')
 (hb : g < w.heap.size) (hsrc : ∀ x, d = some x → x < w.heap.size) : LRS w g d acc' (.slice q' n' c') s v := by
 cases q with
 | none =>
   have hbl : Below u.heap.size u v := grown_belowN hg (Nat.le_refl _) (fun k hk => by cases hk)
   exact ⟨h.box.below hbl (Nat.le_refl _), ho, Gr.then h.gr hbl, h.rd.below hbl, Nat.lt_of_lt_of_le h.far hbl.size⟩
 | some a =>
   have hf := (h.own.far a rfl).1
   have hg' : u.grownBy v (some a.block) := hg
   exact ⟨h.box.gr hg' (by omega), ho, Gr.own h.gr hg' (by omega), h.rd.keep hg' (by omega) (fun e => by have := hsrc _ e; omega), Nat.lt_of_lt_of_le h.far hg'.size⟩
def ListR (s : St) (w : World) (g : Nat) (d : Option Nat) (e : Ending) (w' : World) : Prop :=
 ∃ L er s' q n c, listR s = (L, er, s') ∧ e = .returned (.tuple #[.slice q n c, .int .i64 er]) ∧ RowsOn w' q n c L ∧ w.grownBy w' (some g) ∧ RdrS w' g d s' ∧ (∀ a, q = some a → w.heap.size ≤ a.block)
set_option maxRecDepth 100000 in
set_option maxHeartbeats 4000000 in
theorem listR_rd (g : Nat) (d : Option Nat) (s : St) (w : World) (h : RdrS w g d s) :
 Calls Tryz.prog 163 #[.agg #[.pointer (some ⟨g, 0, none⟩)], .int .i64 4, .func (.func 151) #[.agg #[.pointer (some ⟨g, 0, none⟩)]] #[]] w (ListR s w g d) := by
 obtain ⟨W, hW⟩ : ∃ W, w.alloc (.cells #[.pointer (some ⟨g, 0, none⟩)] 190) = W := ⟨_, rfl⟩
 have hbx := Lib.hid (one_box (xs := [.pointer (some ⟨g, 0, none⟩)]) hW)
 have hg := h.lt
 have hsrc := Lib.hid h.src
 have hr := Lib.hid (h.below hbx.out.1)
 have c0 := hbx.out.2.1.cell 0 rfl
 have hn := numV1 s.l s.e
 obtain ⟨z, hz⟩ : ∃ z : Nat, s.num 1 = z := ⟨(s.num 1).toNat, by have : s.num 1 = numV 1 s.l s.e := rfl; omega⟩
 have hzz : 0 ≤ (z : Int) ∧ (z : Int) < 256 := by rw [← hz]; exact hn
 have hu8 := rd8 g d s W hr.out
 rw [hz] at hu8
 have hz' := Lib.hid hz
 have hfar := hbx.out.2.2
 clear h hz hn
 obtain ⟨z0, z1⟩ := hzz
 go_enter Tryz.func163, Tryz.ntmps163
 go_wp2_with fail
 refine hu8.mono ?_
 clear hu8
 rintro e w1 ⟨rfl, hg1, hr1⟩
 have hb1 := Lib.hid (hbx.out.2.1.gr hg1 (by omega))
 have gr1 := Lib.hid (Gr.after hbx.out.1 hg1)
 have r1 := Lib.hid hr1
 have hf1 : w.heap.size < w1.heap.size := by have := hg1.size; omega
 clear hg1 hr1 c0 hW
 by_cases h4 : 4 < z
 · have hl : Hid (listR s = ([], 161, s.next 1)) := by
    show listR s = _
    unfold listR
    rw [hz'.out, if_pos (by omega)]
   go_wp2
   go_ret2
   exact ⟨_, _, _, none, 0, 0, hl.out, rfl, RowsOn.none_ _, gr1.out, r1.out, fun a ha => by cases ha⟩
 · have hl : Hid (listR s = rowsP z [] (s.next 1)) := by
    show listR s = _
    unfold listR
    rw [hz'.out, if_neg (by omega)]
    rfl
   have hr0 : Hid (LRS w g d [] (.slice none 0 0) (s.next 1) w1) := ⟨hb1.out, OwnR.nil _ _ _, gr1.out, r1.out, hf1⟩
   have he0 : Hid (rowsP z [] (s.next 1) = rowsP (z - 0) [] (s.next 1) ∧ ([] : List RowD).length = 0 ∧ ∀ x ∈ ([] : List RowD), RowOk x) := ⟨rfl, rfl, fun x hx => by cases hx⟩
   go_wp2
   go_loopw [9, 20] (fun v9 v20 wr => ∃ (k : Nat) (acc : List RowD) (si : St) (q0 : Option Addr) (n0 cap0 : Nat), k ≤ z ∧ v20 = .int .i64 k ∧ v9 = .slice q0 n0 cap0 ∧ Hid (rowsP z [] (s.next 1) = rowsP (z - k) acc si ∧ acc.length = k ∧ ∀ x ∈ acc, RowOk x) ∧ Hid (LRS w g d acc (.slice q0 n0 cap0) si wr)) (fun _ v20 _ => z - (intOf v20).toNat)
   case atStart => exact ⟨0, [], s.next 1, none, 0, 0, Nat.zero_le _, rfl, rfl, he0, hr0⟩
   case round =>
    obtain ⟨k, acc, si, q0, n0, cap0, hk, rfl, rfl, hac, hrl⟩ := hrel
    by_cases hlt : k < z
    · have hn0 : n0 ≤ k := by rw [hrl.out.own.len]; exact Nat.le_of_eq hac.out.2.1
      go_wp2_with fail
      refine (row_rd g d si wr hrl.out.rd).mono ?_
      rintro e u1 ⟨r, er, s1, hP, rfl, hg1, hr1⟩
      have hP' := Lib.hid hP
      have hS1 := Lib.hid (hrl.out.on hg1 hr1 hg)
      have hzk : z - k = (z - (k + 1)) + 1 := by omega
      clear hP hg1 hr1
      unfold rowV
      obtain ⟨⟨rt, ri⟩, rv, rs⟩ := r
      by_cases hz7 : er = 0
      · subst hz7
        have hok := Lib.hid (rowP_ok hP'.out)
        have hstep : Hid (rowsP z [] (s.next 1) = rowsP (z - (k + 1)) (acc ++ [⟨⟨rt, ri⟩, rv, rs⟩]) s1 ∧ (acc ++ [(⟨⟨rt, ri⟩, rv, rs⟩ : RowD)]).length = k + 1 ∧ ∀ x ∈ acc ++ [(⟨⟨rt, ri⟩, rv, rs⟩ : RowD)], RowOk x) := by
         refine ⟨?_, by rw [List.length_append, hac.out.2.1]; rfl, fun x hx => ?_⟩
         · rw [hac.out.1, hzk]
           show (if (rowP si).2.1 = 0 then _ else _) = _
           rw [hP'.out]
           rfl
         · rcases List.mem_append.1 hx with hx | hx
           · exact hac.out.2.2 x hx
           · rw [List.mem_singleton.1 hx]; exact hok.out.1
        clear hzk
        obtain ⟨W2, hW2⟩ : ∃ W2, (u1.alloc (.cells #[.int .i64 rt, .int .u16 ri, .int .i64 rv, .string rs] 68)).alloc (.cells #[.int .i64 rt, .int .u16 ri, .int .i64 rv, .string rs] 68) = W2 := ⟨_, rfl⟩
        have hb2 := Lib.hid (two_boxes (xs := [.int .i64 rt, .int .u16 ri, .int .i64 rv, .string rs]) (ys := [.int .i64 rt, .int .u16 ri, .int .i64 rv, .string rs]) hW2)
        have f1 := Lib.hid (Boxed.made (T := 68) u1 [.int .i64 rt, .int .u16 ri, .int .i64 rv, .string rs])
        have hs2 := sizeRow rt ri rv rs
        have hrow : Hid (RowsOn W2 (some ⟨u1.heap.size + 1, 0, none⟩) 1 1 [⟨⟨rt, ri⟩, rv, rs⟩]) := by
         have h0 := RowV.made (T := 68) (u1.alloc (.cells #[.int .i64 rt, .int .u16 ri, .int .i64 rv, .string rs] 68)) [.int .i64 rt, .int .u16 ri, .int .i64 rv, .string rs]
         have h1 : RowV 68 W2 (u1.heap.size + 1) [.int .i64 rt, .int .u16 ri, .int .i64 rv, .string rs] := by rw [← hW2]; simpa using h0
         exact RowV.rows1 (r := ⟨⟨rt, ri⟩, rv, rs⟩) h1 hok.out.1
        have hS2 := Lib.hid (hS1.out.below hb2.out.1)
        have hsz : Hid (w.heap.size + 1 ≤ W2.heap.size) := hS2.out.far
        have h40 : Hid ((n0 + 1) * 40 ≤ 140737488355328) := by show _ ≤ _; omega
        have h41 : Hid (n0 + 1 ≤ 140737488355328) := by show _ ≤ _; omega
        go_wp2_with (first
         | (with_reducible refine wpList_load_at rfl 68 (.tmp 10) rfl Tryz.underlying68 rfl hs2 rfl f1.out.all ?_)
         | (at_builtin
            refine wpList_append_r Tryz.underlying52 infoRow rfl rfl (.tmp 30) (.tmp 32) rfl rfl rfl hS2.out.own hrow.out h40.out h41.out hsz.out ?_
            intro q' c' w' h1 h2 h3
            have hnew : Hid (LRS w g d (acc ++ [⟨⟨rt, ri⟩, rv, rs⟩]) (.slice q' (n0 + 1) c') s1 w') := hS2.out.more h2 h1 hg hsrc.out
            clear h1 h2 h3))
        go_roundw
        case rel => exact ⟨k + 1, acc ++ [⟨⟨rt, ri⟩, rv, rs⟩], s1, q', n0 + 1, c', by omega, by go_num, rfl, hstep, hnew⟩
        case measure => simp [intOf]; omega
      · have hfin : Hid (listR s = ([], er, s1)) := by
         show listR s = _
         rw [hl.out, hac.out.1, hzk]
         show (if (rowP si).2.1 = 0 then _ else _) = _
         rw [hP'.out, if_neg hz7]
        clear hzk
        go_wp2
        go_ret2
        exact ⟨_, _, _, none, 0, 0, hfin.out, rfl, RowsOn.none_ _, Gr.then hS1.out.gr ((Below.refl _ _).alloc (Nat.le_refl _) _), hS1.out.rd.below ((Below.refl _ _).alloc (Nat.le_refl _) _), fun a ha => by cases ha⟩
    · obtain rfl : z = k := by omega
      have cE := hrl.out.box.cell 0 rfl
      go_wp2_with fail
      refine (rdErr g d si wr hrl.out.rd).mono ?_
      rintro e wE ⟨rfl, rfl⟩
      clear cE
      have hfin : Hid (listR s = (acc, si.e, si)) := by
       show listR s = _
       rw [hl.out, hac.out.1, Nat.sub_self]
       rfl
      go_wp2
      go_ret2
      exact ⟨_, _, _, q0, n0, cap0, hfin.out, rfl, hrl.out.own.reads hac.out.2.2, hrl.out.gr, hrl.out.rd, fun a ha => by have := (hrl.out.own.far a ha).1; omega⟩
end Go.Proofs.YtocekhckmpkbmaaGreat
namespace Go.Proofs.YtocekhckmpkbmaaGreat
open Go.RowKit
theorem kidD_okk (s : St) : KidOk (kidD s) := by
 obtain ⟨k0, k1, k2, k3⟩ := keyD_ok s
 obtain ⟨p0, p1⟩ := kidD_ok s
 exact ⟨⟨by unfold I64; constructor <;> (have : (kidD s).least.t = (keyD s).t := rfl; omega), k2, k3⟩, by unfold I64; omega⟩
theorem RowV.kids1 {w : World} {g : Nat} {r : KidD} (h : RowV 100 w g r.cells) (hok : KidOk r) : KidsOn w (some ⟨g, 0, none⟩) 1 1 [r] :=
 ⟨rfl, Nat.le_refl _, by unfold maxLen; decide, (fun e => by cases e), fun i x hi => ⟨_, rfl, fun j v hj => by
  match i, hi with
  | 0, hi =>
    obtain rfl : r = x := by simpa using hi
    rw [Nat.zero_mul, add0]
    exact h.part (pre := []) (rest := []) (by simp) rfl j v hj
  | i + 1, hi => simp at hi⟩, fun x hx => by rw [List.mem_singleton.1 hx]; exact hok⟩
def kidsP : Nat → List KidD → St → List KidD × Int × St
 | 0, acc, s => (acc, s.e, s)
 | n + 1, acc, s => if (kidS s).e = 0 then kidsP n (acc ++ [kidD s]) (kidS s) else ([], (kidS s).e, kidS s)
def listK (s : St) : List KidD × Int × St := if 4 < s.num 1 then ([], 161, s.next 1) else kidsP (s.num 1).toNat [] (s.next 1)
/-- what the list holds in the middle -/
structure LKS (w : World) (g : Nat) (d : Option Nat) (acc : List KidD) (v : Value) (s : St) (u : World) : Prop where
 box : Boxed u w.heap.size [.pointer (some ⟨g, 0, none⟩)]
 own : OwnK u (w.heap.size + 1) v acc
 gr : w.grownBy u (some g)
 rd : RdrS u g d s
 far : w.heap.size < u.heap.size
theorem LKS.on {w u v : World} {g : Nat} {d : Option Nat} {acc : List KidD} {q : Option Addr} {n c : Nat} {s s' : St} (h : LKS w g d acc (.slice q n c) s u) (hg : u.grownBy v (some g)) (hr : RdrS v g d s') (hb : g < w.heap.size) : LKS w g d acc (.slice q n c) s' v :=
 ⟨h.box.gr hg (by omega), h.own.kept (fun a ha => hg.block _ (h.own.far a ha).2 (fun e => by have := (h.own.far a ha).1; simp at e; omega)), h.gr.trans hg, hr, Nat.lt_of_lt_of_le h.far hg.size⟩
theorem LKS.below {w u v : World} {g : Nat} {d : Option Nat} {acc : List KidD} {q : Option Addr} {n c : Nat} {s : St} (h : LKS w g d acc (.slice q n c) s u) (hb : Below u.heap.size u v) : LKS w g d acc (.slice q n c) s v :=
 ⟨h.box.below hb (Nat.le_refl _), h.own.below hb, Gr.then h.gr hb, h.rd.below hb, Nat.lt_of_lt_of_le h.far hb.size⟩
theorem LKS.more {w u v : World} {g : Nat} {d : Option Nat} {acc acc' : List KidD} {q q' : Option Addr} {n c n' c' : Nat} {s : St} (h : LKS w g d acc (.slice q n c) s u) (hg : u.grownBy v (q.map (·.block))) (ho : OwnK v (w.heap.size + 1) (.slice q' n' c') acc')
 (hb : g < w.heap.size) (hsrc : ∀ x, d = some x → x < w.heap.size) : LKS w g d acc' (.slice q' n' c') s v := by
 cases q with
 | none =>
   have hbl : Below u.heap.size u v := grown_belowN hg (Nat.le_refl _) (fun k hk => by cases hk)
   exact ⟨h.box.below hbl (Nat.le_refl _), ho, Gr.then h.gr hbl, h.rd.below hbl, Nat.lt_of_lt_of_le h.far hbl.size⟩
 | some a =>
   have hf := (h.own.far a rfl).1
   have hg' : u.grownBy v (some a.block) := hg
   exact ⟨h.box.gr hg' (by omega), ho, Gr.own h.gr hg' (by omega), h.rd.keep hg' (by omega) (fun e => by have := hsrc _ e; omega), Nat.lt_of_lt_of_le h.far hg'.size⟩
def ListK (s : St) (w : World) (g : Nat) (d : Option Nat) (e : Ending) (w' : World) : Prop :=
 ∃ L er s' q n c, listK s = (L, er, s') ∧ e = .returned (.tuple #[.slice q n c, .int .i64 er]) ∧ KidsOn w' q n c L ∧ w.grownBy w' (some g) ∧ RdrS w' g d s' ∧ (∀ a, q = some a → w.heap.size ≤ a.block)
set_option maxRecDepth 100000 in
set_option maxHeartbeats 4000000 in
theorem listK_rd (g : Nat) (d : Option Nat) (s : St) (w : World) (h : RdrS w g d s) :
 Calls Tryz.prog 164 #[.agg #[.pointer (some ⟨g, 0, none⟩)], .int .i64 4, .func (.func 165) #[.agg #[.pointer (some ⟨g, 0, none⟩)]] #[]] w (ListK s w g d) := by
 obtain ⟨W, hW⟩ : ∃ W, w.alloc (.cells #[.pointer (some ⟨g, 0, none⟩)] 190) = W := ⟨_, rfl⟩
 have hbx := Lib.hid (one_box (xs := [.pointer (some ⟨g, 0, none⟩)]) hW)
 have hg := h.lt
 have hsrc := Lib.hid h.src
 have hr := Lib.hid (h.below hbx.out.1)
 have c0 := hbx.out.2.1.cell 0 rfl
 have hn := numV1 s.l s.e
 obtain ⟨z, hz⟩ : ∃ z : Nat, s.num 1 = z := ⟨(s.num 1).toNat, by have : s.num 1 = numV 1 s.l s.e := rfl; omega⟩
 have hzz : 0 ≤ (z : Int) ∧ (z : Int) < 256 := by rw [← hz]; exact hn
 have hu8 := rd8 g d s W hr.out
 rw [hz] at hu8
 have hz' := Lib.hid hz
 have hfar := hbx.out.2.2
 clear h hz hn
 obtain ⟨z0, z1⟩ := hzz
 go_enter Tryz.func164, Tryz.ntmps164
 go_wp2_with fail
 refine hu8.mono ?_
 clear hu8
 rintro e w1 ⟨rfl, hg1, hr1⟩
 have hb1 := Lib.hid (hbx.out.2.1.gr hg1 (by omega))
 have gr1 := Lib.hid (Gr.after hbx.out.1 hg1)
 have r1 := Lib.hid hr1
 have hf1 : w.heap.size < w1.heap.size := by have := hg1.size; omega
 clear hg1 hr1 c0 hW
 by_cases h4 : 4 < z
 · have hl : Hid (listK s = ([], 161, s.next 1)) := by
    show listK s = _
    unfold listK
    rw [hz'.out, if_pos (by omega)]
   go_wp2
   go_ret2
   exact ⟨_, _, _, none, 0, 0, hl.out, rfl, KidsOn.none_ _, gr1.out, r1.out, fun a ha => by cases ha⟩
 · have hl : Hid (listK s = kidsP z [] (s.next 1)) := by
    show listK s = _
    unfold listK
    rw [hz'.out, if_neg (by omega)]
    rfl
   have hr0 : Hid (LKS w g d [] (.slice none 0 0) (s.next 1) w1) := ⟨hb1.out, OwnK.nil _ _, gr1.out, r1.out, hf1⟩
   have he0 : Hid (kidsP z [] (s.next 1) = kidsP (z - 0) [] (s.next 1) ∧ ([] : List KidD).length = 0 ∧ ∀ x ∈ ([] : List KidD), KidOk x) := ⟨rfl, rfl, fun x hx => by cases hx⟩
   go_wp2
   go_loopw [9, 20] (fun v9 v20 wr => ∃ (k : Nat) (acc : List KidD) (si : St) (q0 : Option Addr) (n0 cap0 : Nat), k ≤ z ∧ v20 = .int .i64 k ∧ v9 = .slice q0 n0 cap0 ∧ Hid (kidsP z [] (s.next 1) = kidsP (z - k) acc si ∧ acc.length = k ∧ ∀ x ∈ acc, KidOk x) ∧ Hid (LKS w g d acc (.slice q0 n0 cap0) si wr)) (fun _ v20 _ => z - (intOf v20).toNat)
   case atStart => exact ⟨0, [], s.next 1, none, 0, 0, Nat.zero_le _, rfl, rfl, he0, hr0⟩
   case round =>
    obtain ⟨k, acc, si, q0, n0, cap0, hk, rfl, rfl, hac, hrl⟩ := hrel
    by_cases hlt : k < z
    · have hn0 : n0 ≤ k := by rw [hrl.out.own.len]; exact Nat.le_of_eq hac.out.2.1
      go_wp2_with fail
      refine (kid_rd g d si wr hrl.out.rd).mono ?_
      rintro e u1 ⟨rfl, hg1, hr1⟩
      have hS1 := Lib.hid (hrl.out.on hg1 hr1 hg)
      have hzk : z - k = (z - (k + 1)) + 1 := by omega
      have hkok := Lib.hid (kidD_okk si)
      obtain ⟨s1, hs1⟩ : ∃ x, kidS si = x := ⟨_, rfl⟩
      obtain ⟨er, her⟩ : ∃ x, s1.e = x := ⟨_, rfl⟩
      obtain ⟨kd, hkd⟩ : ∃ x, kidD si = x := ⟨_, rfl⟩
      rw [hkd] at hkok
      rw [hs1] at hS1
      rw [hkd, hs1, her]
      have hs1' := Lib.hid hs1
      have her' := Lib.hid her
      have hkd' := Lib.hid hkd
      clear hs1 her hkd hg1 hr1
      unfold kidV
      obtain ⟨⟨rt, ri⟩, rv⟩ := kd
      by_cases hz7 : er = 0
      · subst hz7
        have hstep : Hid (kidsP z [] (s.next 1) = kidsP (z - (k + 1)) (acc ++ [⟨⟨rt, ri⟩, rv⟩]) s1 ∧ (acc ++ [(⟨⟨rt, ri⟩, rv⟩ : KidD)]).length = k + 1 ∧ ∀ x ∈ acc ++ [(⟨⟨rt, ri⟩, rv⟩ : KidD)], KidOk x) := by
         refine ⟨?_, by rw [List.length_append, hac.out.2.1]; rfl, fun x hx => ?_⟩
         · rw [hac.out.1, hzk]
           show (if (kidS si).e = 0 then _ else _) = _
           rw [hs1'.out, if_pos her'.out, hkd'.out]
         · rcases List.mem_append.1 hx with hx | hx
           · exact hac.out.2.2 x hx
           · rw [List.mem_singleton.1 hx]; exact hkok.out
        clear hzk
        obtain ⟨W2, hW2⟩ : ∃ W2, (u1.alloc (.cells #[.int .i64 rt, .int .u16 ri, .int .i64 rv] 100)).alloc (.cells #[.int .i64 rt, .int .u16 ri, .int .i64 rv] 100) = W2 := ⟨_, rfl⟩
        have hb2 := Lib.hid (two_boxes (xs := [.int .i64 rt, .int .u16 ri, .int .i64 rv]) (ys := [.int .i64 rt, .int .u16 ri, .int .i64 rv]) hW2)
        have f1 := Lib.hid (Boxed.made (T := 100) u1 [.int .i64 rt, .int .u16 ri, .int .i64 rv])
        have hs2 := sizeKid rt ri rv
        have hrow : Hid (KidsOn W2 (some ⟨u1.heap.size + 1, 0, none⟩) 1 1 [⟨⟨rt, ri⟩, rv⟩]) := by
         have h0 := RowV.made (T := 100) (u1.alloc (.cells #[.int .i64 rt, .int .u16 ri, .int .i64 rv] 100)) [.int .i64 rt, .int .u16 ri, .int .i64 rv]
         have h1 : RowV 100 W2 (u1.heap.size + 1) [.int .i64 rt, .int .u16 ri, .int .i64 rv] := by rw [← hW2]; simpa using h0
         exact RowV.kids1 (r := ⟨⟨rt, ri⟩, rv⟩) h1 hkok.out
        have hS2 := Lib.hid (hS1.out.below hb2.out.1)
        have hsz : Hid (w.heap.size + 1 ≤ W2.heap.size) := hS2.out.far
        have h40 : Hid ((n0 + 1) * 24 ≤ 140737488355328) := by show _ ≤ _; omega
        have h41 : Hid (n0 + 1 ≤ 140737488355328) := by show _ ≤ _; omega
        go_wp2_with (first
         | (with_reducible refine wpList_load_at rfl 100 (.tmp 10) rfl Tryz.underlying100 rfl hs2 rfl f1.out.all ?_)
         | (at_builtin
            refine wpList_append_k Tryz.underlying53 infoKid rfl rfl (.tmp 30) (.tmp 32) rfl rfl rfl hS2.out.own hrow.out h40.out h41.out hsz.out ?_
            intro q' c' w' h1 h2 h3
            have hnew : Hid (LKS w g d (acc ++ [⟨⟨rt, ri⟩, rv⟩]) (.slice q' (n0 + 1) c') s1 w') := hS2.out.more h2 h1 hg hsrc.out
            clear h1 h2 h3))
        go_roundw
        case rel => exact ⟨k + 1, acc ++ [⟨⟨rt, ri⟩, rv⟩], s1, q', n0 + 1, c', by omega, by go_num, rfl, hstep, hnew⟩
        case measure => simp [intOf]; omega
      · have hfin : Hid (listK s = ([], er, s1)) := by
         show listK s = _
         rw [hl.out, hac.out.1, hzk]
         show (if (kidS si).e = 0 then _ else _) = _
         rw [hs1'.out, if_neg (by rw [her'.out]; exact hz7), her'.out]
        clear hzk
        go_wp2
        go_ret2
        exact ⟨_, _, _, none, 0, 0, hfin.out, rfl, KidsOn.none_ _, Gr.then hS1.out.gr ((Below.refl _ _).alloc (Nat.le_refl _) _), hS1.out.rd.below ((Below.refl _ _).alloc (Nat.le_refl _) _), fun a ha => by cases ha⟩
    · obtain rfl : z = k := by omega
      have cE := hrl.out.box.cell 0 rfl
      go_wp2_with fail
      refine (rdErr g d si wr hrl.out.rd).mono ?_
      rintro e wE ⟨rfl, rfl⟩
      clear cE
      have hfin : Hid (listK s = (acc, si.e, si)) := by
       show listK s = _
       rw [hl.out, hac.out.1, Nat.sub_self]
       rfl
      go_wp2
      go_ret2
      exact ⟨_, _, _, q0, n0, cap0, hfin.out, rfl, hrl.out.own.reads hac.out.2.2, hrl.out.gr, hrl.out.rd, fun a ha => by have := (hrl.out.own.far a ha).1; omega⟩
end Go.Proofs.YtocekhckmpkbmaaGreat
