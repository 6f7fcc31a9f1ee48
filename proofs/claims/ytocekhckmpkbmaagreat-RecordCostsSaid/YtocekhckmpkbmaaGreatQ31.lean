/- The laws on records: content. -/
import Derived.Test.YtocekhckmpkbmaaGreatQ30
import Derived.Deep.CutRange
import Derived.Deep.DeepCutAuto
import Derived.Test.YtocekhckmpkbmaaGreatQ01
namespace Go.Proofs.YtocekhckmpkbmaaGreat
open Go.RowKit
instance : Cel RowD where
 cells := RowD.cells
 sz := 4
 len _ := rfl
 pos := by decide
 one := RowD.one
instance : Cel KidD where
 cells := KidD.cells
 sz := 3
 len _ := rfl
 pos := by decide
 one _ := one_all rfl
theorem RowsOn.sl {w : World} {q : Option Addr} {n c : Nat} {l : List RowD} (h : RowsOn w q n c l) : SlOn w q n c l := ⟨h.len, h.le, h.cap, h.nil, h.get⟩
theorem KidsOn.sl {w : World} {q : Option Addr} {n c : Nat} {l : List KidD} (h : KidsOn w q n c l) : SlOn w q n c l := ⟨h.len, h.le, h.cap, h.nil, h.get⟩
theorem SlOn.rows {w : World} {q : Option Addr} {n c : Nat} {l : List RowD} (h : SlOn w q n c l) (ok : ∀ r ∈ l, RowOk r) : RowsOn w q n c l := ⟨h.len, h.le, h.cap, h.nil, h.get, ok⟩
theorem SlOn.kids {w : World} {q : Option Addr} {n c : Nat} {l : List KidD} (h : SlOn w q n c l) (ok : ∀ r ∈ l, KidOk r) : KidsOn w q n c l := ⟨h.len, h.le, h.cap, h.nil, h.get, ok⟩
section
variable {α : Type} [Cel α]
theorem cellsL_set : ∀ (L : List α) (i : Nat) (x y : α) (j : Nat) (v : Value), L[i]? = some x → j < Cel.sz α → Cel.cells y = (Cel.cells x).set j v → (cellsL L).set (i * Cel.sz α + j) v = cellsL (L.set i y)
 | [], i, x, y, j, v, h, _, _ => by simp at h
 | s :: l, 0, x, y, j, v, h, hj, hy => by
   simp at h; subst h; simp only [Nat.zero_mul, Nat.zero_add, List.set_cons_zero, cellsL]; rw [List.set_append_left _ _ (by rw [Cel.len]; exact hj), hy]
 | s :: l, i + 1, x, y, j, v, h, hj, hy => by
   simp at h; have ih := cellsL_set l i x y j v h hj hy; simp only [List.set_cons_succ, cellsL]; rw [List.set_append_right _ _ (by rw [Cel.len, Nat.add_mul]; omega), Cel.len, show (i + 1) * Cel.sz α + j - Cel.sz α = i * Cel.sz α + j by rw [Nat.add_mul]; omega, ih]
theorem OwnS.setc {T : TypeId} {w : World} {B g n c : Nat} {L : List α} (h : OwnS T w B (.slice (some ⟨g, 0, none⟩) n c) L) {i j : Nat} {x y : α} {v : Value} (hx : L[i]? = some x) (hj : j < Cel.sz α) (hy : Cel.cells y = (Cel.cells x).set j v) :
 OwnS T (w.setCell ⟨g, i * Cel.sz α + j, none⟩ v) B (.slice (some ⟨g, 0, none⟩) n c) (L.set i y) := by
 have hl := h.len; obtain ⟨g', cur, he, hB, hr, hn, hc, hs, ht⟩ := h.opened
 cases he
 refine OwnS.mk hB (hr.set _ v) hn hc (by rw [List.length_set]; exact hs) ?_ (by rw [List.length_set]; exact hl.symm); rw [← cellsL_set L i x y j v hx hj hy, ← ht, List.take_set]
theorem OwnS.cell_at {T : TypeId} {w : World} {B g n c : Nat} {L : List α} (h : OwnS T w B (.slice (some ⟨g, 0, none⟩) n c) L) {i j : Nat} {x : α} {v : Value} (hx : L[i]? = some x) (hv : (Cel.cells x)[j]? = some v) : w.cell? ⟨g, i * Cel.sz α + j, none⟩ = some v := by
 obtain ⟨a, ha, hc⟩ := h.reads.get i x hx
 cases ha
 have h1 := hc j v hv; rw [Go.Deep.add_add] at h1; have e : (⟨g, 0, none⟩ : Addr).add (i * Cel.sz α + j) = ⟨g, i * Cel.sz α + j, none⟩ := by unfold Addr.add; split <;> simp_all
 rwa [e] at h1
theorem OwnS.free_at {T : TypeId} {w : World} {B g n c : Nat} {L : List α} (h : OwnS T w B (.slice (some ⟨g, 0, none⟩) n c) L) (j : Nat) : w.frozen? ⟨g, j, none⟩ = false := by
 obtain ⟨g', cur, he, hB, hr, _⟩ := h.opened
 cases he
 exact hr.free j
end
/-- rows of which the first are short -/
def shorts (R : List RowD) (j : Nat) : List RowD := (R.take j).map shortR ++ R.drop j
theorem shorts_at {R : List RowD} {j : Nat} {r : RowD} (h : R[j]? = some r) : (shorts R j)[j]? = some r ∧ (shorts R j).set j (shortR r) = shorts R (j + 1) := by
 obtain ⟨hj, rfl⟩ := List.getElem?_eq_some_iff.1 h; have hl : ((R.take j).map shortR).length = j := by rw [List.length_map, List.length_take, Nat.min_eq_left (by omega)]
 have hd : R.drop j = R[j] :: R.drop (j + 1) := List.drop_eq_getElem_cons hj; unfold shorts; refine ⟨?_, ?_⟩
 · rw [List.getElem?_append_right (by omega), hl, Nat.sub_self, hd]; rfl
 · rw [List.set_append_right _ _ (by omega), hl, Nat.sub_self, hd, List.set_cons_zero, List.take_add_one, h, List.map_append, List.append_assoc]
   rfl
/-- a content whose lists are the call's own, at the block that was new; the result's box behind it -/
structure CtS (w u : World) (k : Int) (q1 : Option Addr) (n1 c1 : Nat) (q2 : Option Addr) (n2 c2 : Nat) (R : List RowD) (L : List KidD) : Prop where
 below : Below w.heap.size w u
 box : RowV 55 u w.heap.size [.int .i64 k, .slice q1 n1 c1, .slice q2 n2 c2]
 res : RowV 55 u (w.heap.size + 1) [.int .i64 0, .slice none 0 0, .slice none 0 0]
 ro : OwnS 68 u (w.heap.size + 2) (.slice q1 n1 c1) R
 ki : OwnS 100 u (w.heap.size + 2) (.slice q2 n2 c2) L
 ap : ∀ a b, q1 = some a → q2 = some b → a.block ≠ b.block
def CtL (c : ContD) (w : World) (e : Ending) (w' : World) : Prop :=
 ∃ k rq rn rc kq kn kc, e = .returned (.agg #[.int .i64 k, .slice rq rn rc, .slice kq kn kc]) ∧ ContOn w' k rq rn rc kq kn kc (fewC c) ∧ Far w.heap.size rq ∧ Far w.heap.size kq ∧ Below w.heap.size w w'
set_option maxRecDepth 100000 in
set_option maxHeartbeats 16000000 in
theorem contentL_any (k : Int) (rq : Option Addr) (rn rc : Nat) (kq : Option Addr) (kn kc : Nat) (c : ContD) (w : World) (h : ContOn w k rq rn rc kq kn kc c) :
 Calls Tryz.prog 30 #[.agg #[.int .i64 k, .slice rq rn rc, .slice kq kn kc]] w (CtL c w) := by
 obtain ⟨W, hW⟩ : ∃ W, (w.alloc (.cells #[.int .i64 k, .slice rq rn rc, .slice kq kn kc] 55)).alloc (.cells #[.int .i64 0, .slice none 0 0, .slice none 0 0] 55) = W := ⟨_, rfl⟩; have hbx := lh (two_boxes (xs := [.int .i64 k, .slice rq rn rc, .slice kq kn kc]) (ys := [.int .i64 0, .slice none 0 0, .slice none 0 0]) hW)
 have r0 : Hid (RowV 55 W w.heap.size [.int .i64 k, .slice rq rn rc, .slice kq kn kc]) := by
  have h1 := (RowV.made (T := 55) w [.int .i64 k, .slice rq rn rc, .slice kq kn kc]).below ((Below.refl _ _).alloc (Nat.le_refl _) (.cells #[.int .i64 0, .slice none 0 0, .slice none 0 0] 55)); show RowV _ _ _ _; rw [← hW]; exact h1
 have p0 : Hid (RowV 55 W (w.heap.size + 1) [.int .i64 0, .slice none 0 0, .slice none 0 0]) := by
  have h1 := RowV.made (T := 55) (w.alloc (.cells #[.int .i64 k, .slice rq rn rc, .slice kq kn kc] 55)) [.int .i64 0, .slice none 0 0, .slice none 0 0]; show RowV _ _ _ _; rw [← hW]; simpa using h1
 have hon := lh (h.below hbx.out.1 (Nat.le_refl _)); have hsz : Hid (w.heap.size + 2 ≤ W.heap.size) := by have h1 := p0.out.lt; show _ ≤ _; omega
 have hrl : Hid (c.rows.length = rn) := h.rows.len; have hkl : Hid (c.kids.length = kn) := h.kids.len; have hrc := h.rows.le; have hkc := h.kids.le; have hrcap := h.rows.cap; have hkcap := h.kids.cap; unfold maxLen at hrcap hkcap; have hkk : Hid (k = c.kind) := h.kind; obtain ⟨M1, hM1⟩ : ∃ m : Nat, m = min rn 5 := ⟨_, rfl⟩; obtain ⟨M2, hM2⟩ : ∃ m : Nat, m = min kn 5 := ⟨_, rfl⟩; have m1 : min (rn : Int) 5 = (M1 : Int) := by omega
 have m2 : min (kn : Int) 5 = (M2 : Int) := by omega
 have l1 : M1 ≤ rn := by omega
 have l2 : M2 ≤ kn := by omega
 have b1 : M1 ≤ 5 := by omega
 have b2 : M2 ≤ 5 := by omega
 have hs1 := lh (fun u : World => slice_rows rq rn rc M1 l1 hrc u); have hs2 := lh (fun u : World => slice_kids kq kn kc M2 l2 hkc u); replace hM1 := lh hM1; replace hM2 := lh hM2; have srows : Hid (∀ u, Below W.heap.size W u → SlOn u rq M1 rc (c.rows.take M1)) := fun u hu => (hon.out.rows.sl.front l1).below hu (Nat.le_refl _)
 have skids : Hid (∀ u, Below W.heap.size W u → SlOn u kq M2 kc (c.kids.take M2)) := fun u hu => (hon.out.kids.sl.front l2).below hu (Nat.le_refl _)
 have hR1 : Hid ((c.rows.take M1).length = M1) := by show _ = _; rw [List.length_take, hrl.out]; omega
 have hK1 : Hid ((c.kids.take M2).length = M2) := by show _ = _; rw [List.length_take, hkl.out]; omega
 clear h hrc hkc
 go_enter Tryz.func30, Tryz.ntmps30
 go_upto_region 1 with fail
 go_cut [1, 2] from 4 to 23 (fun v1 v2 wx => ∃ (q1 : Option Addr) (c1 : Nat) (q2 : Option Addr) (c2 : Nat), v1 = .pointer (some ⟨w.heap.size, 0, none⟩) ∧ v2 = .pointer (some ⟨w.heap.size + 1, 0, none⟩) ∧ Hid (CtS w wx k q1 M1 c1 q2 M2 c2 (c.rows.take M1) (c.kids.take M2)))
 case first =>
  clear hW; refine wp_region_x (by kernel_rfl) 19 (fun u => RowV 55 u w.heap.size [.int .i64 k, .slice rq rn rc, .slice kq kn kc]) ?_; change wpAnyX _ _ _ _ _ _ _ _ _ (World.drew W); have hdr := below_drew W; have hX : RowV 55 (World.drew W) w.heap.size [.int .i64 k, .slice rq rn rc, .slice kq kn kc] := r0.out.below hdr; have hp : RowV 55 (World.drew W) (w.heap.size + 1) [.int .i64 0, .slice none 0 0, .slice none 0 0] := p0.out.below hdr; have hz : w.heap.size + 2 ≤ (World.drew W).heap.size := Nat.le_trans hsz.out hdr.size; have hbd : Below W.heap.size W (World.drew W) := hdr; generalize World.drew W = u0 at hX hp hz hbd ⊢; refine x_pure (i := 1) (dst := some 5) (v := .pointer (some ⟨w.heap.size, 1, none⟩)) rfl rfl (by kernel_rfl) (by kernel_rfl) (by kernel_rfl) (by kernel_rfl) (fun _ _ _ h => h) (.inl ⟨rfl, fun u hu => by go_simp⟩) (fun _ => hX) ?_; go_frame; refine x_take (i := 2) (dst := some 6) (v := .slice rq rn rc) rfl rfl (by kernel_rfl) (by kernel_rfl) (by kernel_rfl) (by kernel_rfl) (by kernel_rfl) (fun _ _ _ h => h) (.inl ⟨rfl, fun u hu => by have c1 : u.cell? ⟨w.heap.size, 1, none⟩ = some (.slice rq rn rc) := hu.cell 1; go_simp⟩) hX ?_; go_frame
  refine x_pure (i := 3) (dst := some 7) (v := .pointer (some ⟨w.heap.size, 1, none⟩)) rfl rfl (by kernel_rfl) (by kernel_rfl) (by kernel_rfl) (by kernel_rfl) (fun _ _ _ h => h) (.inl ⟨rfl, fun u hu => by go_simp⟩) (fun _ => hX) ?_; go_frame; refine x_take (i := 4) (dst := some 8) (v := .slice rq rn rc) rfl rfl (by kernel_rfl) (by kernel_rfl) (by kernel_rfl) (by kernel_rfl) (by kernel_rfl) (fun _ _ _ h => h) (.inl ⟨rfl, fun u hu => by have c1 : u.cell? ⟨w.heap.size, 1, none⟩ = some (.slice rq rn rc) := hu.cell 1; go_simp⟩) hX ?_; go_frame; refine x_pure (i := 5) (dst := some 9) (v := .int .i64 rn) rfl rfl (by kernel_rfl) (by kernel_rfl) (by kernel_rfl) (by kernel_rfl) (fun _ _ _ h => h) (.inl ⟨rfl, fun u hu => by go_simp⟩) (fun _ => hX) ?_; go_frame; refine x_pure (i := 6) (dst := some 10) (v := .int .i64 M1) rfl rfl (by kernel_rfl) (by kernel_rfl) (by kernel_rfl) (by kernel_rfl) (fun _ _ _ h => h) (.inl ⟨rfl, fun u hu => by go_simp⟩) (fun _ => hX) ?_; go_frame
  refine x_pure (i := 7) (dst := some 11) (v := .slice rq M1 rc) rfl rfl (by kernel_rfl) (by kernel_rfl) (by kernel_rfl) (by kernel_rfl) (fun _ _ _ h => h) (.inl ⟨rfl, fun u hu => by have hs := hs1.out u; go_simp⟩) (fun _ => hX) ?_; go_frame; refine x_pure (i := 10) (dst := some 14) (v := .pointer (some ⟨w.heap.size, 2, none⟩)) rfl rfl (by kernel_rfl) (by kernel_rfl) (by kernel_rfl) (by kernel_rfl) (fun _ _ _ h => h) (.inl ⟨rfl, fun u hu => by go_simp⟩) (fun _ => hX) ?_; go_frame; refine x_take (i := 11) (dst := some 15) (v := .slice kq kn kc) rfl rfl (by kernel_rfl) (by kernel_rfl) (by kernel_rfl) (by kernel_rfl) (by kernel_rfl) (fun _ _ _ h => h) (.inl ⟨rfl, fun u hu => by have c2 : u.cell? ⟨w.heap.size, 2, none⟩ = some (.slice kq kn kc) := hu.cell 2; go_simp⟩) hX ?_; go_frame; refine x_pure (i := 12) (dst := some 16) (v := .pointer (some ⟨w.heap.size, 2, none⟩)) rfl rfl (by kernel_rfl) (by kernel_rfl) (by kernel_rfl) (by kernel_rfl) (fun _ _ _ h => h) (.inl ⟨rfl, fun u hu => by go_simp⟩) (fun _ => hX) ?_; go_frame
  refine x_take (i := 13) (dst := some 17) (v := .slice kq kn kc) rfl rfl (by kernel_rfl) (by kernel_rfl) (by kernel_rfl) (by kernel_rfl) (by kernel_rfl) (fun _ _ _ h => h) (.inl ⟨rfl, fun u hu => by have c2 : u.cell? ⟨w.heap.size, 2, none⟩ = some (.slice kq kn kc) := hu.cell 2; go_simp⟩) hX ?_; go_frame; refine x_pure (i := 14) (dst := some 18) (v := .int .i64 kn) rfl rfl (by kernel_rfl) (by kernel_rfl) (by kernel_rfl) (by kernel_rfl) (fun _ _ _ h => h) (.inl ⟨rfl, fun u hu => by go_simp⟩) (fun _ => hX) ?_; go_frame; refine x_pure (i := 15) (dst := some 19) (v := .int .i64 M2) rfl rfl (by kernel_rfl) (by kernel_rfl) (by kernel_rfl) (by kernel_rfl) (fun _ _ _ h => h) (.inl ⟨rfl, fun u hu => by go_simp⟩) (fun _ => hX) ?_; go_frame; refine x_pure (i := 16) (dst := some 20) (v := .slice kq M2 kc) rfl rfl (by kernel_rfl) (by kernel_rfl) (by kernel_rfl) (by kernel_rfl) (fun _ _ _ h => h) (.inl ⟨rfl, fun u hu => by have hs := hs2.out u; go_simp⟩) (fun _ => hX) ?_; go_frame
  have xu0 := hX; have pu0 := hp; have tu0 := hbd; have zu0 := hz
  skip
  obtain ⟨uR, huR⟩ : ∃ y, u0.alloc (.cells #[] 68) = y := ⟨_, rfl⟩; obtain ⟨uK, huK⟩ : ∃ y, u0.alloc (.cells #[] 100) = y := ⟨_, rfl⟩; have buR : Below u0.heap.size u0 uR := by rw [← huR]; exact (Below.refl _ _).alloc (Nat.le_refl _) _
  have suR : uR.heap.size = u0.heap.size + 1 := by rw [← huR]; simp
  have oR0 := OwnS.empty (α := RowD) huR rfl; have xuR := xu0.below buR; have puR := pu0.below buR; have tuR : Below W.heap.size W uR := tu0.trans (buR.mono tu0.size); have zuR : w.heap.size + 2 ≤ uR.heap.size := Nat.le_trans zu0 buR.size; have buK : Below u0.heap.size u0 uK := by rw [← huK]; exact (Below.refl _ _).alloc (Nat.le_refl _) _
  have suK : uK.heap.size = u0.heap.size + 1 := by rw [← huK]; simp
  have oK0 := OwnS.empty (α := KidD) huK rfl; have xuK := xu0.below buK; have puK := pu0.below buK; have tuK : Below W.heap.size W uK := tu0.trans (buK.mono tu0.size); have zuK : w.heap.size + 2 ≤ uK.heap.size := Nat.le_trans zu0 buK.size; have hWu := tu0.size; have hg0 : ∃ g, u0.heap.size = g := ⟨_, rfl⟩; obtain ⟨G, hG⟩ := hg0; refine x_two (i := 0) (j := 9) rfl rfl rfl rfl (by kernel_rfl) rfl rfl ⟨.slice (some ⟨u0.heap.size, 0, none⟩) 0 0, uR, by go_simp, xuR, ?_⟩ ⟨.slice (some ⟨u0.heap.size, 0, none⟩) 0 0, uK, by go_simp, xuK, ?_⟩
  · go_frame
    rw [hG] at oR0 ⊢; have oR := oR0; obtain ⟨uB, huB⟩ : ∃ y, uR.alloc (.cells #[] 100) = y := ⟨_, rfl⟩; have buB : Below uR.heap.size uR uB := by rw [← huB]; exact (Below.refl _ _).alloc (Nat.le_refl _) _
    have suB : uB.heap.size = uR.heap.size + 1 := by rw [← huB]; simp
    have oKB := OwnS.empty (α := KidD) huB rfl; have xuB := xuR.below buB; have puB := puR.below buB; have tuB : Below W.heap.size W uB := tuR.trans (buB.mono tuR.size); have zuB : w.heap.size + 2 ≤ uB.heap.size := Nat.le_trans zuR buB.size; have wuB := tuB.size; obtain ⟨q1, cq1, a1, hruna1, aR, ga1, ata1⟩ := run_append_l (w := uR) Tryz.underlying52 infoRow rfl 52 oR (srows.out uR tuR) (by omega) (by omega) (by omega); rw [List.nil_append, Nat.zero_add] at aR; rw [Nat.zero_add] at hruna1; have ea1 : ∀ y, (some (⟨G, 0, none⟩ : Addr)).map (·.block) = some y → y = G := fun y e => by simpa using e.symm
    have xa1 : RowV 55 a1 w.heap.size [.int .i64 k, .slice rq rn rc, .slice kq kn kc] := xuR.block (ga1.block _ xuR.lt (fun e => by have h1 := ea1 _ e.symm; omega)); have pa1 : RowV 55 a1 (w.heap.size + 1) [.int .i64 0, .slice none 0 0, .slice none 0 0] := puR.block (ga1.block _ puR.lt (fun e => by have h1 := ea1 _ e.symm; omega)); have ta1 : Below W.heap.size W a1 := tuR.trans (grown_belowN ga1 tuR.size (fun y e => by have h1 := ea1 _ e; omega)); have za1 : w.heap.size + 2 ≤ a1.heap.size := Nat.le_trans zuR ga1.size; have wa1 := ta1.size; have ya1 := ga1.size; refine x_two (i := 8) (j := 9) rfl rfl rfl rfl (by kernel_rfl) rfl rfl ⟨.slice q1 M1 cq1, a1, run_append_op2 (s := .tmp 4) (x := .tmp 11) rfl rfl rfl hruna1, xa1, ?_⟩ ⟨.slice (some ⟨uR.heap.size, 0, none⟩) 0 0, uB, by go_simp, xuB, ?_⟩
    · go_frame
      refine x_pure (i := 18) (dst := some 22) (v := .pointer (some ⟨w.heap.size, 1, none⟩)) rfl rfl (by kernel_rfl) (by kernel_rfl) (by kernel_rfl) (by kernel_rfl) (fun _ _ _ h => h) (.inl ⟨rfl, fun u hu => by go_simp⟩) (fun _ => xa1) ?_; go_frame; obtain ⟨a2, ha2⟩ : ∃ y, a1.alloc (.cells #[] 100) = y := ⟨_, rfl⟩; have ba2 : Below a1.heap.size a1 a2 := by rw [← ha2]; exact (Below.refl _ _).alloc (Nat.le_refl _) _
      have sa2 : a2.heap.size = a1.heap.size + 1 := by rw [← ha2]; simp
      have oK := OwnS.empty (α := KidD) ha2 rfl; have xa2 := xa1.below ba2; have pa2 := pa1.below ba2; have ta2 : Below W.heap.size W a2 := ta1.trans (ba2.mono ta1.size); have za2 : w.heap.size + 2 ≤ a2.heap.size := Nat.le_trans za1 ba2.size; have wa2 := ta2.size; obtain ⟨H, hH⟩ : ∃ g, a1.heap.size = g := ⟨_, rfl⟩; refine x_value (i := 9) (dst := some 13) (v := .slice (some ⟨a1.heap.size, 0, none⟩) 0 0) (w' := a2) rfl rfl (by kernel_rfl) rfl (by go_simp) (fun _ => xa2) ?_; go_frame; rw [hH] at oK ⊢; have aR2 := aR.below ba2; obtain ⟨q2, cq2, a3, hruna3, aK, ga3, ata3⟩ := run_append_l (w := a2) Tryz.underlying53 infoKid rfl 53 oK (skids.out a2 ta2) (by omega) (by omega) (by omega); rw [List.nil_append, Nat.zero_add] at aK; rw [Nat.zero_add] at hruna3; have ea3 : ∀ y, (some (⟨H, 0, none⟩ : Addr)).map (·.block) = some y → y = H := fun y e => by simpa using e.symm
      have xa3 : RowV 55 a3 w.heap.size [.int .i64 k, .slice rq rn rc, .slice kq kn kc] := xa2.block (ga3.block _ xa2.lt (fun e => by have h1 := ea3 _ e.symm; omega)); have pa3 : RowV 55 a3 (w.heap.size + 1) [.int .i64 0, .slice none 0 0, .slice none 0 0] := pa2.block (ga3.block _ pa2.lt (fun e => by have h1 := ea3 _ e.symm; omega)); have ta3 : Below W.heap.size W a3 := ta2.trans (grown_belowN ga3 ta2.size (fun y e => by have h1 := ea3 _ e; omega)); have za3 : w.heap.size + 2 ≤ a3.heap.size := Nat.le_trans za2 ga3.size; have wa3 := ta3.size; have ya3 := ga3.size; refine x_value (i := 17) (dst := some 21) (v := .slice q2 M2 cq2) (w' := a3) rfl rfl (by kernel_rfl) rfl (run_append_op2 (s := .tmp 13) (x := .tmp 20) rfl rfl rfl hruna3) (fun _ => xa3) ?_; go_frame
      have hr1 : ∀ a, q1 = some a → a.block ≠ H := fun a ha => by
       have h2 := (aR.far a ha).2; omega
      have hap : ∀ a b, q1 = some a → q2 = some b → a.block ≠ b.block := fun a b h1 h2 => by
       have f1 := (aR2.far a h1).2; have f2 := hr1 a h1
       rcases ata3 with e | e <;> (rw [h2] at e; simp at e; omega)
      have fR : OwnS 68 a3 (w.heap.size + 2) (.slice q1 M1 cq1) (c.rows.take M1) := (aR2.kept (fun a ha => ga3.block _ (aR2.far a ha).2 (fun e => by have h1 := ea3 _ e.symm; have h2 := hr1 a ha; omega))).mono (by omega); have fK : OwnS 100 a3 (w.heap.size + 2) (.slice q2 M2 cq2) (c.kids.take M2) := aK.mono (by omega)
      skip
      obtain ⟨v1, hv1⟩ : ∃ y, a3.setCell ⟨w.heap.size, 1, none⟩ (.slice q1 M1 cq1) = y := ⟨_, rfl⟩; have e1 := xa3.cell 1; have f1 : a3.frozen? ⟨w.heap.size, 1, none⟩ = false := xa3.free 1; have st1 : (storeVar 52 ⟨w.heap.size, 1, none⟩ (.slice q1 M1 cq1)).run Tryz.prog a3 = .ok () v1 := by rw [← hv1]; go_simp
      have y1 := xa3.set 1 (.slice q1 M1 cq1); have g1 := setCell_grown a3 w.heap.size 1 (.slice q1 M1 cq1); rw [hv1] at y1 g1; refine x_skip (i := 19) (dst := none) rfl rfl (by kernel_rfl) rfl (run_store_op (x := .tmp 22) (y := .tmp 12) rfl rfl rfl st1) (no_x (by kernel_rfl)) ?_; go_frame; refine x_pure (i := 20) (dst := some 23) (v := .pointer (some ⟨w.heap.size, 2, none⟩)) rfl rfl (by kernel_rfl) (by kernel_rfl) (by kernel_rfl) (by kernel_rfl) (fun _ _ _ h => h) (.inl ⟨rfl, fun u hu => by go_simp⟩) (no_x (by kernel_rfl)) ?_; go_frame; obtain ⟨v2, hv2⟩ : ∃ y, v1.setCell ⟨w.heap.size, 2, none⟩ (.slice q2 M2 cq2) = y := ⟨_, rfl⟩; have e2 := y1.cell 2; have f2 : v1.frozen? ⟨w.heap.size, 2, none⟩ = false := y1.free 2; have st2 : (storeVar 53 ⟨w.heap.size, 2, none⟩ (.slice q2 M2 cq2)).run Tryz.prog v1 = .ok () v2 := by rw [← hv2]; go_simp
      have y2 := y1.set 2 (.slice q2 M2 cq2); have g2 := setCell_grown v1 w.heap.size 2 (.slice q2 M2 cq2); rw [hv2] at y2 g2; refine x_skip (i := 21) (dst := none) rfl rfl (by kernel_rfl) rfl (run_store_op (x := .tmp 23) (y := .tmp 21) rfl rfl rfl st2) (no_x (by kernel_rfl)) ?_; go_frame; refine x_done (by kernel_rfl) ?_; have gg := Gr.trans g1 g2; have hend : Hid (CtS w v2 k q1 M1 cq1 q2 M2 cq2 (c.rows.take M1) (c.kids.take M2)) := ⟨Gr.below gg (hbx.out.1.trans (ta3.mono hbx.out.1.size)) (Nat.le_refl _), y2, pa3.kept gg (by omega), fR.kept (fun a ha => gg.block _ (fR.far a ha).2 (fun e => by have h1 := (fR.far a ha).1; simp only [Option.some.injEq] at e; omega)), fK.kept (fun a ha => gg.block _ (fK.far a ha).2 (fun e => by have h1 := (fK.far a ha).1; simp only [Option.some.injEq] at e; omega)), hap⟩; clear e1 f1 st1 e2 f2 st2 y1 y2 g1 g2 gg hv1 hv2
      go_wp2_with fail
      go_meet
      exact ⟨q1, cq1, q2, cq2, rfl, rfl, hend⟩
    · go_frame
      obtain ⟨H, hH⟩ : ∃ g, uR.heap.size = g := ⟨_, rfl⟩; rw [hH] at oKB ⊢; clear hruna1 aR ga1 ata1 xa1 pa1 ta1 za1 ea1; have oR1 := oR.below buB; replace oR := oR1; obtain ⟨q1, cq1, a2, hruna2, aR, ga2, ata2⟩ := run_append_l (w := uB) Tryz.underlying52 infoRow rfl 52 oR (srows.out uB tuB) (by omega) (by omega) (by omega); rw [List.nil_append, Nat.zero_add] at aR; rw [Nat.zero_add] at hruna2; have ea2 : ∀ y, (some (⟨G, 0, none⟩ : Addr)).map (·.block) = some y → y = G := fun y e => by simpa using e.symm
      have xa2 : RowV 55 a2 w.heap.size [.int .i64 k, .slice rq rn rc, .slice kq kn kc] := xuB.block (ga2.block _ xuB.lt (fun e => by have h1 := ea2 _ e.symm; omega)); have pa2 : RowV 55 a2 (w.heap.size + 1) [.int .i64 0, .slice none 0 0, .slice none 0 0] := puB.block (ga2.block _ puB.lt (fun e => by have h1 := ea2 _ e.symm; omega)); have ta2 : Below W.heap.size W a2 := tuB.trans (grown_belowN ga2 tuB.size (fun y e => by have h1 := ea2 _ e; omega)); have za2 : w.heap.size + 2 ≤ a2.heap.size := Nat.le_trans zuB ga2.size; have wa2 := ta2.size; have ya2 := ga2.size; refine x_value (i := 8) (dst := some 12) (v := .slice q1 M1 cq1) (w' := a2) rfl rfl (by kernel_rfl) rfl (run_append_op2 (s := .tmp 4) (x := .tmp 11) rfl rfl rfl hruna2) (fun _ => xa2) ?_; go_frame; refine x_pure (i := 18) (dst := some 22) (v := .pointer (some ⟨w.heap.size, 1, none⟩)) rfl rfl (by kernel_rfl) (by kernel_rfl) (by kernel_rfl) (by kernel_rfl) (fun _ _ _ h => h) (.inl ⟨rfl, fun u hu => by go_simp⟩) (fun _ => xa2) ?_; go_frame
      have oK : OwnS 100 a2 H (.slice (some ⟨H, 0, none⟩) 0 0) ([] : List KidD) := oKB.kept (fun a ha => ga2.block _ (oKB.far a ha).2 (fun e => by have h1 := ea2 _ e.symm; have h2 := (oKB.far a ha).1; omega)); obtain ⟨q2, cq2, a3, hruna3, aK, ga3, ata3⟩ := run_append_l (w := a2) Tryz.underlying53 infoKid rfl 53 oK (skids.out a2 ta2) (by omega) (by omega) (by omega); rw [List.nil_append, Nat.zero_add] at aK; rw [Nat.zero_add] at hruna3; have ea3 : ∀ y, (some (⟨H, 0, none⟩ : Addr)).map (·.block) = some y → y = H := fun y e => by simpa using e.symm
      have xa3 : RowV 55 a3 w.heap.size [.int .i64 k, .slice rq rn rc, .slice kq kn kc] := xa2.block (ga3.block _ xa2.lt (fun e => by have h1 := ea3 _ e.symm; omega)); have pa3 : RowV 55 a3 (w.heap.size + 1) [.int .i64 0, .slice none 0 0, .slice none 0 0] := pa2.block (ga3.block _ pa2.lt (fun e => by have h1 := ea3 _ e.symm; omega)); have ta3 : Below W.heap.size W a3 := ta2.trans (grown_belowN ga3 ta2.size (fun y e => by have h1 := ea3 _ e; omega)); have za3 : w.heap.size + 2 ≤ a3.heap.size := Nat.le_trans za2 ga3.size; have wa3 := ta3.size; have ya3 := ga3.size; refine x_value (i := 17) (dst := some 21) (v := .slice q2 M2 cq2) (w' := a3) rfl rfl (by kernel_rfl) rfl (run_append_op2 (s := .tmp 13) (x := .tmp 20) rfl rfl rfl hruna3) (fun _ => xa3) ?_; go_frame
      have hr1 : ∀ a, q1 = some a → a.block ≠ H := fun a ha => by
       rcases ata2 with e | e <;> (rw [ha] at e; simp at e; omega)
      have hap : ∀ a b, q1 = some a → q2 = some b → a.block ≠ b.block := fun a b h1 h2 => by
       have f1 := (aR.far a h1).2; have f2 := hr1 a h1
       rcases ata3 with e | e <;> (rw [h2] at e; simp at e; omega)
      have fR : OwnS 68 a3 (w.heap.size + 2) (.slice q1 M1 cq1) (c.rows.take M1) := (aR.kept (fun a ha => ga3.block _ (aR.far a ha).2 (fun e => by have h1 := ea3 _ e.symm; have h2 := hr1 a ha; omega))).mono (by omega); have fK : OwnS 100 a3 (w.heap.size + 2) (.slice q2 M2 cq2) (c.kids.take M2) := aK.mono (by omega)
      skip
      obtain ⟨v1, hv1⟩ : ∃ y, a3.setCell ⟨w.heap.size, 1, none⟩ (.slice q1 M1 cq1) = y := ⟨_, rfl⟩; have e1 := xa3.cell 1; have f1 : a3.frozen? ⟨w.heap.size, 1, none⟩ = false := xa3.free 1; have st1 : (storeVar 52 ⟨w.heap.size, 1, none⟩ (.slice q1 M1 cq1)).run Tryz.prog a3 = .ok () v1 := by rw [← hv1]; go_simp
      have y1 := xa3.set 1 (.slice q1 M1 cq1); have g1 := setCell_grown a3 w.heap.size 1 (.slice q1 M1 cq1); rw [hv1] at y1 g1; refine x_skip (i := 19) (dst := none) rfl rfl (by kernel_rfl) rfl (run_store_op (x := .tmp 22) (y := .tmp 12) rfl rfl rfl st1) (no_x (by kernel_rfl)) ?_; go_frame; refine x_pure (i := 20) (dst := some 23) (v := .pointer (some ⟨w.heap.size, 2, none⟩)) rfl rfl (by kernel_rfl) (by kernel_rfl) (by kernel_rfl) (by kernel_rfl) (fun _ _ _ h => h) (.inl ⟨rfl, fun u hu => by go_simp⟩) (no_x (by kernel_rfl)) ?_; go_frame; obtain ⟨v2, hv2⟩ : ∃ y, v1.setCell ⟨w.heap.size, 2, none⟩ (.slice q2 M2 cq2) = y := ⟨_, rfl⟩; have e2 := y1.cell 2; have f2 : v1.frozen? ⟨w.heap.size, 2, none⟩ = false := y1.free 2; have st2 : (storeVar 53 ⟨w.heap.size, 2, none⟩ (.slice q2 M2 cq2)).run Tryz.prog v1 = .ok () v2 := by rw [← hv2]; go_simp
      have y2 := y1.set 2 (.slice q2 M2 cq2); have g2 := setCell_grown v1 w.heap.size 2 (.slice q2 M2 cq2); rw [hv2] at y2 g2; refine x_skip (i := 21) (dst := none) rfl rfl (by kernel_rfl) rfl (run_store_op (x := .tmp 23) (y := .tmp 21) rfl rfl rfl st2) (no_x (by kernel_rfl)) ?_; go_frame; refine x_done (by kernel_rfl) ?_; have gg := Gr.trans g1 g2; have hend : Hid (CtS w v2 k q1 M1 cq1 q2 M2 cq2 (c.rows.take M1) (c.kids.take M2)) := ⟨Gr.below gg (hbx.out.1.trans (ta3.mono hbx.out.1.size)) (Nat.le_refl _), y2, pa3.kept gg (by omega), fR.kept (fun a ha => gg.block _ (fR.far a ha).2 (fun e => by have h1 := (fR.far a ha).1; simp only [Option.some.injEq] at e; omega)), fK.kept (fun a ha => gg.block _ (fK.far a ha).2 (fun e => by have h1 := (fK.far a ha).1; simp only [Option.some.injEq] at e; omega)), hap⟩; clear e1 f1 st1 e2 f2 st2 y1 y2 g1 g2 gg hv1 hv2
      go_wp2_with fail
      go_meet
      exact ⟨q1, cq1, q2, cq2, rfl, rfl, hend⟩
  · go_frame
    rw [hG] at oK0 ⊢; obtain ⟨uB, huB⟩ : ∃ y, uK.alloc (.cells #[] 68) = y := ⟨_, rfl⟩; have buB : Below uK.heap.size uK uB := by rw [← huB]; exact (Below.refl _ _).alloc (Nat.le_refl _) _
    have suB : uB.heap.size = uK.heap.size + 1 := by rw [← huB]; simp
    have oR := OwnS.empty (α := RowD) huB rfl; have xuB := xuK.below buB; have puB := puK.below buB; have tuB : Below W.heap.size W uB := tuK.trans (buB.mono tuK.size); have zuB : w.heap.size + 2 ≤ uB.heap.size := Nat.le_trans zuK buB.size; have wuB := tuB.size; obtain ⟨H, hH⟩ : ∃ g, uK.heap.size = g := ⟨_, rfl⟩; refine x_value (i := 0) (dst := some 4) (v := .slice (some ⟨uK.heap.size, 0, none⟩) 0 0) (w' := uB) rfl rfl (by kernel_rfl) rfl (by go_simp) (fun _ => xuB) ?_; go_frame; rw [hH] at oR ⊢; have oKB := oK0.below buB; obtain ⟨q1, cq1, a2, hruna2, aR, ga2, ata2⟩ := run_append_l (w := uB) Tryz.underlying52 infoRow rfl 52 oR (srows.out uB tuB) (by omega) (by omega) (by omega); rw [List.nil_append, Nat.zero_add] at aR; rw [Nat.zero_add] at hruna2; have ea2 : ∀ y, (some (⟨H, 0, none⟩ : Addr)).map (·.block) = some y → y = H := fun y e => by simpa using e.symm
    have xa2 : RowV 55 a2 w.heap.size [.int .i64 k, .slice rq rn rc, .slice kq kn kc] := xuB.block (ga2.block _ xuB.lt (fun e => by have h1 := ea2 _ e.symm; omega)); have pa2 : RowV 55 a2 (w.heap.size + 1) [.int .i64 0, .slice none 0 0, .slice none 0 0] := puB.block (ga2.block _ puB.lt (fun e => by have h1 := ea2 _ e.symm; omega)); have ta2 : Below W.heap.size W a2 := tuB.trans (grown_belowN ga2 tuB.size (fun y e => by have h1 := ea2 _ e; omega)); have za2 : w.heap.size + 2 ≤ a2.heap.size := Nat.le_trans zuB ga2.size; have wa2 := ta2.size; have ya2 := ga2.size; refine x_value (i := 8) (dst := some 12) (v := .slice q1 M1 cq1) (w' := a2) rfl rfl (by kernel_rfl) rfl (run_append_op2 (s := .tmp 4) (x := .tmp 11) rfl rfl rfl hruna2) (fun _ => xa2) ?_; go_frame; refine x_pure (i := 18) (dst := some 22) (v := .pointer (some ⟨w.heap.size, 1, none⟩)) rfl rfl (by kernel_rfl) (by kernel_rfl) (by kernel_rfl) (by kernel_rfl) (fun _ _ _ h => h) (.inl ⟨rfl, fun u hu => by go_simp⟩) (fun _ => xa2) ?_; go_frame
    have oK : OwnS 100 a2 G (.slice (some ⟨G, 0, none⟩) 0 0) ([] : List KidD) := oKB.kept (fun a ha => ga2.block _ (oKB.far a ha).2 (fun e => by have h1 := ea2 _ e.symm; cases ha; simp only at h1; omega)); obtain ⟨q2, cq2, a3, hruna3, aK, ga3, ata3⟩ := run_append_l (w := a2) Tryz.underlying53 infoKid rfl 53 oK (skids.out a2 ta2) (by omega) (by omega) (by omega); rw [List.nil_append, Nat.zero_add] at aK; rw [Nat.zero_add] at hruna3; have ea3 : ∀ y, (some (⟨G, 0, none⟩ : Addr)).map (·.block) = some y → y = G := fun y e => by simpa using e.symm
    have xa3 : RowV 55 a3 w.heap.size [.int .i64 k, .slice rq rn rc, .slice kq kn kc] := xa2.block (ga3.block _ xa2.lt (fun e => by have h1 := ea3 _ e.symm; omega)); have pa3 : RowV 55 a3 (w.heap.size + 1) [.int .i64 0, .slice none 0 0, .slice none 0 0] := pa2.block (ga3.block _ pa2.lt (fun e => by have h1 := ea3 _ e.symm; omega)); have ta3 : Below W.heap.size W a3 := ta2.trans (grown_belowN ga3 ta2.size (fun y e => by have h1 := ea3 _ e; omega)); have za3 : w.heap.size + 2 ≤ a3.heap.size := Nat.le_trans za2 ga3.size; have wa3 := ta3.size; have ya3 := ga3.size; refine x_value (i := 17) (dst := some 21) (v := .slice q2 M2 cq2) (w' := a3) rfl rfl (by kernel_rfl) rfl (run_append_op2 (s := .tmp 13) (x := .tmp 20) rfl rfl rfl hruna3) (fun _ => xa3) ?_; go_frame
    have hr1 : ∀ a, q1 = some a → a.block ≠ G := fun a ha => by
     rcases ata2 with e | e <;> (rw [ha] at e; simp at e; omega)
    have hap : ∀ a b, q1 = some a → q2 = some b → a.block ≠ b.block := fun a b h1 h2 => by
     have f1 := (aR.far a h1).2; have f2 := hr1 a h1
     rcases ata3 with e | e <;> (rw [h2] at e; simp at e; omega)
    have fR : OwnS 68 a3 (w.heap.size + 2) (.slice q1 M1 cq1) (c.rows.take M1) := (aR.kept (fun a ha => ga3.block _ (aR.far a ha).2 (fun e => by have h1 := ea3 _ e.symm; have h2 := hr1 a ha; omega))).mono (by omega); have fK : OwnS 100 a3 (w.heap.size + 2) (.slice q2 M2 cq2) (c.kids.take M2) := aK.mono (by omega)
    skip
    obtain ⟨v1, hv1⟩ : ∃ y, a3.setCell ⟨w.heap.size, 1, none⟩ (.slice q1 M1 cq1) = y := ⟨_, rfl⟩; have e1 := xa3.cell 1; have f1 : a3.frozen? ⟨w.heap.size, 1, none⟩ = false := xa3.free 1; have st1 : (storeVar 52 ⟨w.heap.size, 1, none⟩ (.slice q1 M1 cq1)).run Tryz.prog a3 = .ok () v1 := by rw [← hv1]; go_simp
    have y1 := xa3.set 1 (.slice q1 M1 cq1); have g1 := setCell_grown a3 w.heap.size 1 (.slice q1 M1 cq1); rw [hv1] at y1 g1; refine x_skip (i := 19) (dst := none) rfl rfl (by kernel_rfl) rfl (run_store_op (x := .tmp 22) (y := .tmp 12) rfl rfl rfl st1) (no_x (by kernel_rfl)) ?_; go_frame; refine x_pure (i := 20) (dst := some 23) (v := .pointer (some ⟨w.heap.size, 2, none⟩)) rfl rfl (by kernel_rfl) (by kernel_rfl) (by kernel_rfl) (by kernel_rfl) (fun _ _ _ h => h) (.inl ⟨rfl, fun u hu => by go_simp⟩) (no_x (by kernel_rfl)) ?_; go_frame; obtain ⟨v2, hv2⟩ : ∃ y, v1.setCell ⟨w.heap.size, 2, none⟩ (.slice q2 M2 cq2) = y := ⟨_, rfl⟩; have e2 := y1.cell 2; have f2 : v1.frozen? ⟨w.heap.size, 2, none⟩ = false := y1.free 2; have st2 : (storeVar 53 ⟨w.heap.size, 2, none⟩ (.slice q2 M2 cq2)).run Tryz.prog v1 = .ok () v2 := by rw [← hv2]; go_simp
    have y2 := y1.set 2 (.slice q2 M2 cq2); have g2 := setCell_grown v1 w.heap.size 2 (.slice q2 M2 cq2); rw [hv2] at y2 g2; refine x_skip (i := 21) (dst := none) rfl rfl (by kernel_rfl) rfl (run_store_op (x := .tmp 23) (y := .tmp 21) rfl rfl rfl st2) (no_x (by kernel_rfl)) ?_; go_frame; refine x_done (by kernel_rfl) ?_; have gg := Gr.trans g1 g2; have hend : Hid (CtS w v2 k q1 M1 cq1 q2 M2 cq2 (c.rows.take M1) (c.kids.take M2)) := ⟨Gr.below gg (hbx.out.1.trans (ta3.mono hbx.out.1.size)) (Nat.le_refl _), y2, pa3.kept gg (by omega), fR.kept (fun a ha => gg.block _ (fR.far a ha).2 (fun e => by have h1 := (fR.far a ha).1; simp only [Option.some.injEq] at e; omega)), fK.kept (fun a ha => gg.block _ (fK.far a ha).2 (fun e => by have h1 := (fK.far a ha).1; simp only [Option.some.injEq] at e; omega)), hap⟩; clear e1 f1 st1 e2 f2 st2 y1 y2 g1 g2 gg hv1 hv2
    go_wp2_with fail
    go_meet
    exact ⟨q1, cq1, q2, cq2, rfl, rfl, hend⟩
 case rest =>
  obtain ⟨q1, c1, q2, c2, rfl, rfl, hcut⟩ := hcut; have z1 := hcut.out.box.cell 1; have h0 : Hid (CtS w wc k q1 M1 c1 q2 M2 c2 (shorts (c.rows.take M1) 0) (c.kids.take M2)) := by have h1 := hcut.out; rw [show shorts (c.rows.take M1) 0 = c.rows.take M1 from rfl]; exact h1
  go_wp2; clear z1 hW
  go_loopw [27] (fun v wr => ∃ j : Nat, j ≤ M1 ∧ v = .int .i64 j ∧ Hid (CtS w wr k q1 M1 c1 q2 M2 c2 (shorts (c.rows.take M1) j) (c.kids.take M2))) (fun v _ => M1 - (RowKit.intOf v).toNat)
  case atStart => exact ⟨0, Nat.zero_le _, rfl, h0⟩
  case round =>
   obtain ⟨j, hj, rfl, hst⟩ := hrel; clear h0 hcut
   by_cases hlt : j < M1
   · obtain ⟨r, hr⟩ : ∃ r, (c.rows.take M1)[j]? = some r := ⟨_, List.getElem?_eq_getElem (by have h1 := hR1.out; omega)⟩
     obtain ⟨hs3, hs4⟩ := shorts_at hr; have hrok : RowOk r := hon.out.rows.ok r (List.mem_of_mem_take (List.mem_of_getElem? hr)); obtain ⟨⟨t, id⟩, v, s⟩ := r; have hsn := hrok.note; unfold maxLen at hsn; simp only at hsn; obtain ⟨m, hm⟩ : ∃ m : Nat, m = min s.size 9 := ⟨_, rfl⟩; have hmn : min (s.size : Int) 9 = (m : Int) := by omega
     have hms : m ≤ s.size := by omega
     have hmi : (m : Int) ≤ s.size := by omega
     have hm0 : (0 : Int) ≤ m := by omega
     obtain ⟨S, hS⟩ : ∃ S, s.extract 0 m = S := ⟨_, rfl⟩; have hsh : Hid (shortR ⟨⟨t, id⟩, v, s⟩ = ⟨⟨t, id⟩, v, S⟩) := by show _ = _; unfold shortR; rw [← hm, hS]
     replace hm := lh hm
     obtain ⟨A, hq⟩ : ∃ A, q1 = some A := by
      cases hq : q1 with
      | none =>
        exfalso
        have h1 := hst.out.ro; rw [hq] at h1; have h2 := h1.nil_cap.1; omega
      | some A => exact ⟨A, rfl⟩
     subst hq; obtain ⟨G, cur, hA, _⟩ := hst.out.ro.opened; subst hA; have i0 : (0 : Int) ≤ j := by omega
     have i1 : (j : Int) < M1 := by omega
     have hs3 := lh hs3; have hs4 := lh hs4; have hA : (⟨G, 0, none⟩ : Addr).add (j * 4) = ⟨G, j * 4, none⟩ := by unfold Addr.add; split <;> simp_all
     clear hr
     go_wp2_with fail
     refine wp_region_x (by kernel_rfl) 20 (fun u => CtS w u k (some ⟨G, 0, none⟩) M1 c1 q2 M2 c2 (shorts (c.rows.take M1) j) (c.kids.take M2)) ?_; change wpAnyX _ _ _ _ _ _ _ _ _ (World.drew wr); have hdr := below_drew wr; have hX : CtS w (World.drew wr) k (some ⟨G, 0, none⟩) M1 c1 q2 M2 c2 (shorts (c.rows.take M1) j) (c.kids.take M2) := ⟨hst.out.below.trans (hdr.mono hst.out.below.size), hst.out.box.below hdr, hst.out.res.below hdr, hst.out.ro.below hdr, hst.out.ki.below hdr, hst.out.ap⟩; generalize World.drew wr = u0 at hX ⊢; have kb : ∀ {u : World}, CtS w u k (some ⟨G, 0, none⟩) M1 c1 q2 M2 c2 (shorts (c.rows.take M1) j) (c.kids.take M2) → u.cell? ⟨w.heap.size, 1, none⟩ = some (.slice (some ⟨G, 0, none⟩) M1 c1) := fun hu => hu.box.cell 1
     have kn' : ∀ {u : World}, CtS w u k (some ⟨G, 0, none⟩) M1 c1 q2 M2 c2 (shorts (c.rows.take M1) j) (c.kids.take M2) → u.cell? ⟨G, j * 4 + 3, none⟩ = some (.string s) := fun hu => hu.ro.cell_at (j := 3) hs3.out rfl
     refine x_pure (i := 0) (dst := some 30) (v := .pointer (some ⟨w.heap.size, 1, none⟩)) rfl rfl (by kernel_rfl) (by kernel_rfl) (by kernel_rfl) (by kernel_rfl) (fun _ _ _ h => h) (.inl ⟨rfl, fun u hu => by go_simp⟩) (fun _ => hX) ?_; go_frame; refine x_take (i := 1) (dst := some 31) (v := .slice (some ⟨G, 0, none⟩) M1 c1) rfl rfl (by kernel_rfl) (by kernel_rfl) (by kernel_rfl) (by kernel_rfl) (by kernel_rfl) (fun _ _ _ h => h) (.inl ⟨rfl, fun u hu => by have c1' := kb hu; go_simp⟩) hX ?_; go_frame; refine x_pure (i := 2) (dst := some 32) (v := .int .i64 j) rfl rfl (by kernel_rfl) (by kernel_rfl) (by kernel_rfl) (by kernel_rfl) (fun _ _ _ h => h) (.inl ⟨rfl, fun u hu => by go_simp⟩) (fun _ => hX) ?_; go_frame; refine x_pure (i := 3) (dst := some 33) (v := .pointer (some ⟨w.heap.size, 1, none⟩)) rfl rfl (by kernel_rfl) (by kernel_rfl) (by kernel_rfl) (by kernel_rfl) (fun _ _ _ h => h) (.inl ⟨rfl, fun u hu => by go_simp⟩) (fun _ => hX) ?_; go_frame
     refine x_take (i := 4) (dst := some 34) (v := .slice (some ⟨G, 0, none⟩) M1 c1) rfl rfl (by kernel_rfl) (by kernel_rfl) (by kernel_rfl) (by kernel_rfl) (by kernel_rfl) (fun _ _ _ h => h) (.inl ⟨rfl, fun u hu => by have c1' := kb hu; go_simp⟩) hX ?_; go_frame; refine x_pure (i := 5) (dst := some 35) (v := .int .i64 j) rfl rfl (by kernel_rfl) (by kernel_rfl) (by kernel_rfl) (by kernel_rfl) (fun _ _ _ h => h) (.inl ⟨rfl, fun u hu => by go_simp⟩) (fun _ => hX) ?_; go_frame; refine x_pure (i := 6) (dst := some 36) (v := .pointer (some ⟨G, j * 4, none⟩)) rfl rfl (by kernel_rfl) (by kernel_rfl) (by kernel_rfl) (by kernel_rfl) (fun _ _ _ h => h) (.inl ⟨rfl, fun u hu => by go_simp⟩) (fun _ => hX) ?_; go_frame; refine x_pure (i := 7) (dst := some 37) (v := .pointer (some ⟨G, j * 4 + 3, none⟩)) rfl rfl (by kernel_rfl) (by kernel_rfl) (by kernel_rfl) (by kernel_rfl) (fun _ _ _ h => h) (.inl ⟨rfl, fun u hu => by go_simp⟩) (fun _ => hX) ?_; go_frame
     refine x_take (i := 8) (dst := some 38) (v := .string s) rfl rfl (by kernel_rfl) (by kernel_rfl) (by kernel_rfl) (by kernel_rfl) (by kernel_rfl) (fun _ _ _ h => h) (.inl ⟨rfl, fun u hu => by have c1' := kn' hu; go_simp⟩) hX ?_; go_frame; refine x_pure (i := 9) (dst := some 39) (v := .pointer (some ⟨w.heap.size, 1, none⟩)) rfl rfl (by kernel_rfl) (by kernel_rfl) (by kernel_rfl) (by kernel_rfl) (fun _ _ _ h => h) (.inl ⟨rfl, fun u hu => by go_simp⟩) (fun _ => hX) ?_; go_frame; refine x_take (i := 10) (dst := some 40) (v := .slice (some ⟨G, 0, none⟩) M1 c1) rfl rfl (by kernel_rfl) (by kernel_rfl) (by kernel_rfl) (by kernel_rfl) (by kernel_rfl) (fun _ _ _ h => h) (.inl ⟨rfl, fun u hu => by have c1' := kb hu; go_simp⟩) hX ?_; go_frame; refine x_pure (i := 11) (dst := some 41) (v := .int .i64 j) rfl rfl (by kernel_rfl) (by kernel_rfl) (by kernel_rfl) (by kernel_rfl) (fun _ _ _ h => h) (.inl ⟨rfl, fun u hu => by go_simp⟩) (fun _ => hX) ?_; go_frame
     refine x_pure (i := 12) (dst := some 42) (v := .pointer (some ⟨G, j * 4, none⟩)) rfl rfl (by kernel_rfl) (by kernel_rfl) (by kernel_rfl) (by kernel_rfl) (fun _ _ _ h => h) (.inl ⟨rfl, fun u hu => by go_simp⟩) (fun _ => hX) ?_; go_frame; refine x_pure (i := 13) (dst := some 43) (v := .pointer (some ⟨G, j * 4 + 3, none⟩)) rfl rfl (by kernel_rfl) (by kernel_rfl) (by kernel_rfl) (by kernel_rfl) (fun _ _ _ h => h) (.inl ⟨rfl, fun u hu => by go_simp⟩) (fun _ => hX) ?_; go_frame; refine x_take (i := 14) (dst := some 44) (v := .string s) rfl rfl (by kernel_rfl) (by kernel_rfl) (by kernel_rfl) (by kernel_rfl) (by kernel_rfl) (fun _ _ _ h => h) (.inl ⟨rfl, fun u hu => by have c1' := kn' hu; go_simp⟩) hX ?_; go_frame; refine x_pure (i := 15) (dst := some 45) (v := .int .i64 s.size) rfl rfl (by kernel_rfl) (by kernel_rfl) (by kernel_rfl) (by kernel_rfl) (fun _ _ _ h => h) (.inl ⟨rfl, fun u hu => by go_simp⟩) (fun _ => hX) ?_; go_frame
     refine x_pure (i := 16) (dst := some 46) (v := .int .i64 m) rfl rfl (by kernel_rfl) (by kernel_rfl) (by kernel_rfl) (by kernel_rfl) (fun _ _ _ h => h) (.inl ⟨rfl, fun u hu => by go_simp⟩) (fun _ => hX) ?_; go_frame; refine x_pure (i := 17) (dst := some 47) (v := .string S) rfl rfl (by kernel_rfl) (by kernel_rfl) (by kernel_rfl) (by kernel_rfl) (fun _ _ _ h => h) (.inl ⟨rfl, fun u hu => by go_simp⟩) (fun _ => hX) ?_; go_frame; refine x_pure (i := 18) (dst := some 48) (v := .pointer (some ⟨G, j * 4, none⟩)) rfl rfl (by kernel_rfl) (by kernel_rfl) (by kernel_rfl) (by kernel_rfl) (fun _ _ _ h => h) (.inl ⟨rfl, fun u hu => by go_simp⟩) (fun _ => hX) ?_; go_frame; refine x_pure (i := 19) (dst := some 49) (v := .pointer (some ⟨G, j * 4 + 3, none⟩)) rfl rfl (by kernel_rfl) (by kernel_rfl) (by kernel_rfl) (by kernel_rfl) (fun _ _ _ h => h) (.inl ⟨rfl, fun u hu => by go_simp⟩) (fun _ => hX) ?_; go_frame
     obtain ⟨u9, hu9⟩ : ∃ y, u0.setCell ⟨G, j * 4 + 3, none⟩ (.string S) = y := ⟨_, rfl⟩; have e4 := kn' hX; have f4 : u0.frozen? ⟨G, j * 4 + 3, none⟩ = false := hX.ro.free_at _; have st4 : (storeVar 9 ⟨G, j * 4 + 3, none⟩ (.string S)).run Tryz.prog u0 = .ok () u9 := by rw [← hu9]; go_simp
     refine x_skip (i := 20) (dst := none) rfl rfl (by kernel_rfl) rfl (run_store_op (x := .tmp 49) (y := .tmp 47) rfl rfl rfl st4) (no_x (by kernel_rfl)) ?_; go_frame; refine x_done (by kernel_rfl) ?_; have hg9 := setCell_grown u0 G (j * 4 + 3) (.string S); rw [hu9] at hg9; have hGf := hX.ro.far _ rfl; simp only at hGf; have hro9 := hX.ro.setc (i := j) (j := 3) (y := (⟨⟨t, id⟩, v, S⟩ : RowD)) (v := .string S) hs3.out (by decide) rfl; rw [show j * Cel.sz RowD + 3 = j * 4 + 3 from rfl, hu9] at hro9
     have hst9 : Hid (CtS w u9 k (some ⟨G, 0, none⟩) M1 c1 q2 M2 c2 (shorts (c.rows.take M1) (j + 1)) (c.kids.take M2)) := by
      refine ⟨hX.below.trans (grown_belowN hg9 hX.below.size (fun y e => by cases e; omega)), hX.box.kept hg9 (by omega), hX.res.kept hg9 (by omega), ?_, hX.ki.kept (fun a ha => hg9.block _ (hX.ki.far a ha).2 (fun e => by have h1 := hX.ap _ a rfl ha; simp only [Option.some.injEq] at e; simp only at h1; omega)), hX.ap⟩; rw [← hs4.out, hsh.out]; exact hro9
     clear hX kb kn' e4 f4 st4 hro9 hg9 hu9 hdr hst; go_wp2
     go_roundw
     case rel => exact ⟨j + 1, by omega, by go_num, hst9⟩
     case measure => simp [RowKit.intOf]; omega
   · obtain rfl : M1 = j := by omega
     have hsz1 := sizeCont (.int .i64 k) (.slice q1 M1 c1) (.slice q2 M2 c2); have hone : ∀ x ∈ ([.int .i64 k, .slice q1 M1 c1, .slice q2 M2 c2] : List Value), x.oneCell' = true := one_all rfl
     go_wp2_with (first
      | (with_reducible refine wpList_load_at rfl 55 (.tmp 1) rfl Tryz.underlying55 rfl hsz1 rfl hst.out.box.boxed.all ?_)
      | ((with_reducible refine wpList_store_at rfl 55 (.tmp 2) (.tmp 51) rfl (o := 0) (vs := [.int .i64 k, .slice q1 M1 c1, .slice q2 M2 c2]) rfl rfl hst.out.res hsz1 (Nat.le_refl _) hone ?_)
         intro wz h9 hg9; have rz : Hid (RowV 55 wz (w.heap.size + 1) [.int .i64 k, .slice q1 M1 c1, .slice q2 M2 c2]) := h9; have gz := lh hg9
         clear h9 hg9))
     have y0 := rz.out.cell 0; have y1 := rz.out.cell 1; have y2 := rz.out.cell 2; refine bodyPost_ret (v := .agg #[.int .i64 k, .slice q1 M1 c1, .slice q2 M2 c2]) (by simp [results, Tryz.results30, go_sem, y0, y1, y2]) rfl ?_; have hro := hst.out.ro.kept (w' := wz) (fun a ha => gz.out.block _ (hst.out.ro.far a ha).2 (fun e => by have h1 := (hst.out.ro.far a ha).1; simp only [Option.some.injEq] at e; omega)); have hki := hst.out.ki.kept (w' := wz) (fun a ha => gz.out.block _ (hst.out.ki.far a ha).2 (fun e => by have h1 := (hst.out.ki.far a ha).1; simp only [Option.some.injEq] at e; omega))
     have hall : shorts (c.rows.take M1) M1 = (c.rows.take M1).map shortR := by
      unfold shorts; rw [List.take_of_length_le (Nat.le_of_eq hR1.out), List.drop_of_length_le (Nat.le_of_eq hR1.out), List.append_nil]
     rw [hall] at hro
     have er : c.rows.take M1 = c.rows.take 5 := by
      rw [hM1.out, ← hrl.out]; exact List.take_eq_take_iff.2 (by omega)
     have ek : c.kids.take M2 = c.kids.take 5 := by
      rw [hM2.out, ← hkl.out]; exact List.take_eq_take_iff.2 (by omega)
     rw [er] at hro; rw [ek] at hki; refine ⟨k, q1, M1, c1, q2, M2, c2, rfl, ⟨hkk.out, hro.reads.rows (fun r hr => ?_), hki.reads.kids (fun r hr => hon.out.kids.ok r (List.mem_of_mem_take hr))⟩, (fun a ha => by have h1 := (hst.out.ro.far a ha).1; omega), (fun a ha => by have h1 := (hst.out.ki.far a ha).1; omega), Gr.below gz.out hst.out.below (by omega)⟩; obtain ⟨r0', h1, rfl⟩ := List.mem_map.1 hr; exact shortR_ok (hon.out.rows.ok r0' (List.mem_of_mem_take h1))
end Go.Proofs.YtocekhckmpkbmaaGreat
