/- What a record has besides what its Kind has: others. -/
import Derived.Test.YtocekhckmpkbmaaGreatU01
import Derived.Test.YtocekhckmpkbmaaGreatU11
namespace Go.Proofs.YtocekhckmpkbmaaGreat
open Go.RowKit
def zRec : RecD := ⟨0, 0, 0, 0, 0, [], [], 0, [], []⟩
def othersD (r : RecD) : RecD :=
 if r.kind = 2 then ⟨0, 0, 0, 0, r.next, [], r.steps, r.nextTxn, r.txns, r.dirty⟩
 else if r.kind = 3 then ⟨0, 0, 0, 0, 0, r.images, r.steps, r.nextTxn, r.txns, r.dirty⟩
 else if r.kind = 4 then ⟨0, 0, 0, 0, 0, r.images, [], r.nextTxn, r.txns, r.dirty⟩
 else if r.kind = 5 then ⟨0, 0, 0, 0, 0, [], r.steps, r.nextTxn, r.txns, r.dirty⟩
 else if r.kind = 9 then ⟨0, 0, 0, 0, r.next, r.images, r.steps, 0, [], []⟩
 else ⟨0, 0, 0, 0, r.next, r.images, r.steps, r.nextTxn, r.txns, r.dirty⟩
theorem i64_zero : I64 0 := by unfold I64; omega
theorem u64_zero : U64 0 := by unfold U64; omega
theorem ImgsOn.none_ (w : World) : ImgsOn w none 0 0 [] [] := ⟨SlOn.none_ w, rfl, fun i v d h => by simp at h⟩
def OthersPost (r : RecD) (w : World) (e : Ending) (w' : World) : Prop := ∃ v' V', e = .returned v'.val ∧ RecV.On v' w' V' (othersD r) ∧ Below w.heap.size w w'
theorem szI : (Tryz.prog.info? 3).map (·.size) = some 1 := by kernel_rfl
theorem szU : (Tryz.prog.info? 24).map (·.size) = some 1 := by kernel_rfl
theorem szImgs : (Tryz.prog.info? 25).map (·.size) = some 1 := by kernel_rfl
theorem szSteps : (Tryz.prog.info? 26).map (·.size) = some 1 := by kernel_rfl
theorem szTxns : (Tryz.prog.info? 27).map (·.size) = some 1 := by kernel_rfl
theorem szPgs : (Tryz.prog.info? 28).map (·.size) = some 1 := by kernel_rfl
theorem lt10 {a b c d e f g h i j : Value} {k : Nat} (hk : k < 10) : k < ([a, b, c, d, e, f, g, h, i, j] : List Value).length := hk
set_option maxRecDepth 100000 in
set_option maxHeartbeats 4000000 in
theorem others2 (lsn txn prev next nextTxn : Int) (iq sq tq dq : Option Addr) (im ic sn sc tn tc dn dc : Nat) (V : List ImgV) (r : RecD) (w : World) (h : RecV.On ⟨2, lsn, txn, prev, next, iq, im, ic, sq, sn, sc, nextTxn, tq, tn, tc, dq, dn, dc⟩ w V r) :
 Calls Tryz.prog 60 #[.agg #[.int .i64 2, .int .u64 lsn, .int .i64 txn, .int .u64 prev, .int .u64 next, .slice iq im ic, .slice sq sn sc, .int .i64 nextTxn, .slice tq tn tc, .slice dq dn dc]] w (OthersPost r w) := by
 obtain ⟨W, hW⟩ : ∃ W, (w.alloc (.cells #[.int .i64 2, .int .u64 lsn, .int .i64 txn, .int .u64 prev, .int .u64 next, .slice iq im ic, .slice sq sn sc, .int .i64 nextTxn, .slice tq tn tc, .slice dq dn dc] 30)).alloc (.cells #[.int .i64 0, .int .u64 0, .int .i64 0, .int .u64 0, .int .u64 0, .slice none 0 0, .slice none 0 0, .int .i64 0, .slice none 0 0, .slice none 0 0] 30) = W := ⟨_, rfl⟩; have hbx := lh (two_boxes hW)
 have r0 : Hid (RowV 30 W w.heap.size [.int .i64 2, .int .u64 lsn, .int .i64 txn, .int .u64 prev, .int .u64 next, .slice iq im ic, .slice sq sn sc, .int .i64 nextTxn, .slice tq tn tc, .slice dq dn dc]) := by have h1 := (RowV.made (T := 30) w [.int .i64 2, .int .u64 lsn, .int .i64 txn, .int .u64 prev, .int .u64 next, .slice iq im ic, .slice sq sn sc, .int .i64 nextTxn, .slice tq tn tc, .slice dq dn dc]).below ((Below.refl _ _).alloc (Nat.le_refl _) (.cells #[.int .i64 0, .int .u64 0, .int .i64 0, .int .u64 0, .int .u64 0, .slice none 0 0, .slice none 0 0, .int .i64 0, .slice none 0 0, .slice none 0 0] 30)); show RowV _ _ _ _; rw [← hW]; exact h1
 have q0 : Hid (RowV 30 W (w.heap.size + 1) [.int .i64 0, .int .u64 0, .int .i64 0, .int .u64 0, .int .u64 0, .slice none 0 0, .slice none 0 0, .int .i64 0, .slice none 0 0, .slice none 0 0]) := by have h1 := RowV.made (T := 30) (w.alloc (.cells #[.int .i64 2, .int .u64 lsn, .int .i64 txn, .int .u64 prev, .int .u64 next, .slice iq im ic, .slice sq sn sc, .int .i64 nextTxn, .slice tq tn tc, .slice dq dn dc] 30)) [.int .i64 0, .int .u64 0, .int .i64 0, .int .u64 0, .int .u64 0, .slice none 0 0, .slice none 0 0, .int .i64 0, .slice none 0 0, .slice none 0 0]; show RowV _ _ _ _; rw [← hW]; simpa using h1
 have hr := lh h; have c0 := r0.out.cell 0; have g0 : Hid (W.grownBy W (some w.heap.size)) := Gr.refl _ _; clear h; have l0 : (0 : Nat) < 10 := by decide
 have l1 : (1 : Nat) < 10 := by decide
 have l2 : (2 : Nat) < 10 := by decide
 have l3 : (3 : Nat) < 10 := by decide
 have l4 : (4 : Nat) < 10 := by decide
 have l5 : (5 : Nat) < 10 := by decide
 have l6 : (6 : Nat) < 10 := by decide
 have l7 : (7 : Nat) < 10 := by decide
 have l8 : (8 : Nat) < 10 := by decide
 have l9 : (9 : Nat) < 10 := by decide
 show Calls _ _ #[.agg #[.int .i64 2, .int .u64 lsn, .int .i64 txn, .int .u64 prev, .int .u64 next, .slice iq im ic, .slice sq sn sc, .int .i64 nextTxn, .slice tq tn tc, .slice dq dn dc]] _ _
 go_enter Tryz.func60, Tryz.ntmps60
 go_wp2_with (first
  | ((with_reducible refine wpList_store_f rfl 25 (.tmp 7) (.const (.slice none 0 0)) rfl (g := w.heap.size) (o := 5) (v := .slice none 0 0) rfl rfl r0.out szImgs (lt10 l5) rfl ?_)
     intro w1 h9 hg9; have r1 : Hid (RowV 30 w1 w.heap.size [.int .i64 2, .int .u64 lsn, .int .i64 txn, .int .u64 prev, .int .u64 next, .slice none 0 0, .slice sq sn sc, .int .i64 nextTxn, .slice tq tn tc, .slice dq dn dc]) := h9; have g1 := lh (Gr.trans g0.out hg9)
     clear h9 hg9 c0)
  | ((with_reducible refine wpList_store_f rfl 3 (.tmp 24) (.const (.int .i64 0)) rfl (g := w.heap.size) (o := 0) (v := .int .i64 0) rfl rfl r1.out szI (lt10 l0) rfl ?_)
     intro w2 h9 hg9; have r2 : Hid (RowV 30 w2 w.heap.size [.int .i64 0, .int .u64 lsn, .int .i64 txn, .int .u64 prev, .int .u64 next, .slice none 0 0, .slice sq sn sc, .int .i64 nextTxn, .slice tq tn tc, .slice dq dn dc]) := h9; have g2 := lh (Gr.trans g1.out hg9)
     clear h9 hg9)
  | ((with_reducible refine wpList_store_f rfl 24 (.tmp 25) (.const (.int .u64 0)) rfl (g := w.heap.size) (o := 1) (v := .int .u64 0) rfl rfl r2.out szU (lt10 l1) rfl ?_)
     intro w3 h9 hg9; have r3 : Hid (RowV 30 w3 w.heap.size [.int .i64 0, .int .u64 0, .int .i64 txn, .int .u64 prev, .int .u64 next, .slice none 0 0, .slice sq sn sc, .int .i64 nextTxn, .slice tq tn tc, .slice dq dn dc]) := h9; have g3 := lh (Gr.trans g2.out hg9)
     clear h9 hg9)
  | ((with_reducible refine wpList_store_f rfl 3 (.tmp 26) (.const (.int .i64 0)) rfl (g := w.heap.size) (o := 2) (v := .int .i64 0) rfl rfl r3.out szI (lt10 l2) rfl ?_)
     intro w4 h9 hg9; have r4 : Hid (RowV 30 w4 w.heap.size [.int .i64 0, .int .u64 0, .int .i64 0, .int .u64 prev, .int .u64 next, .slice none 0 0, .slice sq sn sc, .int .i64 nextTxn, .slice tq tn tc, .slice dq dn dc]) := h9; have g4 := lh (Gr.trans g3.out hg9)
     clear h9 hg9)
  | ((with_reducible refine wpList_store_f rfl 24 (.tmp 27) (.const (.int .u64 0)) rfl (g := w.heap.size) (o := 3) (v := .int .u64 0) rfl rfl r4.out szU (lt10 l3) rfl ?_)
     intro w5 h9 hg9; have r5 : Hid (RowV 30 w5 w.heap.size [.int .i64 0, .int .u64 0, .int .i64 0, .int .u64 0, .int .u64 next, .slice none 0 0, .slice sq sn sc, .int .i64 nextTxn, .slice tq tn tc, .slice dq dn dc]) := h9; have g5 := lh (Gr.trans g4.out hg9)
     clear h9 hg9)
  | (with_reducible refine wpList_load_at rfl 30 (.tmp 1) rfl Tryz.underlying30 rfl (vs := [.int .i64 0, .int .u64 0, .int .i64 0, .int .u64 0, .int .u64 next, .slice none 0 0, .slice sq sn sc, .int .i64 nextTxn, .slice tq tn tc, .slice dq dn dc]) (sizeRec ⟨0, 0, 0, 0, next, none, 0, 0, sq, sn, sc, nextTxn, tq, tn, tc, dq, dn, dc⟩) rfl r5.out.boxed.all ?_)
  | ((with_reducible refine wpList_store_at rfl 30 (.tmp 2) (.tmp 28) rfl (o := 0) (vs := [.int .i64 0, .int .u64 0, .int .i64 0, .int .u64 0, .int .u64 next, .slice none 0 0, .slice sq sn sc, .int .i64 nextTxn, .slice tq tn tc, .slice dq dn dc]) rfl rfl (q0.out.gr g5.out (by omega)) (sizeRec ⟨0, 0, 0, 0, next, none, 0, 0, sq, sn, sc, nextTxn, tq, tn, tc, dq, dn, dc⟩) (Nat.le_refl _) (RecV.one ⟨0, 0, 0, 0, next, none, 0, 0, sq, sn, sc, nextTxn, tq, tn, tc, dq, dn, dc⟩) ?_)
     intro wz h9 hg9; have rz : Hid (RowV 30 wz (w.heap.size + 1) [.int .i64 0, .int .u64 0, .int .i64 0, .int .u64 0, .int .u64 next, .slice none 0 0, .slice sq sn sc, .int .i64 nextTxn, .slice tq tn tc, .slice dq dn dc]) := h9; have gz := lh hg9
     clear h9 hg9))
 have m0 := rz.out.cell 0; have m1 := rz.out.cell 1; have m2 := rz.out.cell 2; have m3 := rz.out.cell 3; have m4 := rz.out.cell 4; have m5 := rz.out.cell 5; have m6 := rz.out.cell 6; have m7 := rz.out.cell 7; have m8 := rz.out.cell 8; have m9 := rz.out.cell 9; refine bodyPost_ret (v := .agg #[.int .i64 0, .int .u64 0, .int .i64 0, .int .u64 0, .int .u64 next, .slice none 0 0, .slice sq sn sc, .int .i64 nextTxn, .slice tq tn tc, .slice dq dn dc]) (by simp [results, Tryz.results60, go_sem, m0, m1, m2, m3, m4, m5, m6, m7, m8, m9]) rfl ?_; have hb := Gr.below gz.out (Gr.below g5.out hbx.out.1 (Nat.le_refl _)) (by omega); have ho := hr.out.below hb (Nat.le_refl _); have hoth : othersD r = ⟨0, 0, 0, 0, r.next, [], r.steps, r.nextTxn, r.txns, r.dirty⟩ := show othersD r = _ from by unfold othersD; rw [← hr.out.kind]; rfl
 exact ⟨⟨0, 0, 0, 0, next, none, 0, 0, sq, sn, sc, nextTxn, tq, tn, tc, dq, dn, dc⟩, [], rfl, by rw [hoth]; exact ⟨rfl, rfl, rfl, rfl, ho.next, ho.nextTxn, ⟨i64_zero, u64_zero, i64_zero, u64_zero, ho.ints.2.2.2.2.1, ho.ints.2.2.2.2.2⟩, ImgsOn.none_ _, ho.steps, ho.txns, ho.dirty, ho.sok, ho.tok, ho.dok⟩, hb⟩
set_option maxRecDepth 100000 in
set_option maxHeartbeats 4000000 in
theorem others3 (lsn txn prev next nextTxn : Int) (iq sq tq dq : Option Addr) (im ic sn sc tn tc dn dc : Nat) (V : List ImgV) (r : RecD) (w : World) (h : RecV.On ⟨3, lsn, txn, prev, next, iq, im, ic, sq, sn, sc, nextTxn, tq, tn, tc, dq, dn, dc⟩ w V r) :
 Calls Tryz.prog 60 #[.agg #[.int .i64 3, .int .u64 lsn, .int .i64 txn, .int .u64 prev, .int .u64 next, .slice iq im ic, .slice sq sn sc, .int .i64 nextTxn, .slice tq tn tc, .slice dq dn dc]] w (OthersPost r w) := by
 obtain ⟨W, hW⟩ : ∃ W, (w.alloc (.cells #[.int .i64 3, .int .u64 lsn, .int .i64 txn, .int .u64 prev, .int .u64 next, .slice iq im ic, .slice sq sn sc, .int .i64 nextTxn, .slice tq tn tc, .slice dq dn dc] 30)).alloc (.cells #[.int .i64 0, .int .u64 0, .int .i64 0, .int .u64 0, .int .u64 0, .slice none 0 0, .slice none 0 0, .int .i64 0, .slice none 0 0, .slice none 0 0] 30) = W := ⟨_, rfl⟩; have hbx := lh (two_boxes hW)
 have r0 : Hid (RowV 30 W w.heap.size [.int .i64 3, .int .u64 lsn, .int .i64 txn, .int .u64 prev, .int .u64 next, .slice iq im ic, .slice sq sn sc, .int .i64 nextTxn, .slice tq tn tc, .slice dq dn dc]) := by have h1 := (RowV.made (T := 30) w [.int .i64 3, .int .u64 lsn, .int .i64 txn, .int .u64 prev, .int .u64 next, .slice iq im ic, .slice sq sn sc, .int .i64 nextTxn, .slice tq tn tc, .slice dq dn dc]).below ((Below.refl _ _).alloc (Nat.le_refl _) (.cells #[.int .i64 0, .int .u64 0, .int .i64 0, .int .u64 0, .int .u64 0, .slice none 0 0, .slice none 0 0, .int .i64 0, .slice none 0 0, .slice none 0 0] 30)); show RowV _ _ _ _; rw [← hW]; exact h1
 have q0 : Hid (RowV 30 W (w.heap.size + 1) [.int .i64 0, .int .u64 0, .int .i64 0, .int .u64 0, .int .u64 0, .slice none 0 0, .slice none 0 0, .int .i64 0, .slice none 0 0, .slice none 0 0]) := by have h1 := RowV.made (T := 30) (w.alloc (.cells #[.int .i64 3, .int .u64 lsn, .int .i64 txn, .int .u64 prev, .int .u64 next, .slice iq im ic, .slice sq sn sc, .int .i64 nextTxn, .slice tq tn tc, .slice dq dn dc] 30)) [.int .i64 0, .int .u64 0, .int .i64 0, .int .u64 0, .int .u64 0, .slice none 0 0, .slice none 0 0, .int .i64 0, .slice none 0 0, .slice none 0 0]; show RowV _ _ _ _; rw [← hW]; simpa using h1
 have hr := lh h; have c0 := r0.out.cell 0; have g0 : Hid (W.grownBy W (some w.heap.size)) := Gr.refl _ _; clear h; have l0 : (0 : Nat) < 10 := by decide
 have l1 : (1 : Nat) < 10 := by decide
 have l2 : (2 : Nat) < 10 := by decide
 have l3 : (3 : Nat) < 10 := by decide
 have l4 : (4 : Nat) < 10 := by decide
 have l5 : (5 : Nat) < 10 := by decide
 have l6 : (6 : Nat) < 10 := by decide
 have l7 : (7 : Nat) < 10 := by decide
 have l8 : (8 : Nat) < 10 := by decide
 have l9 : (9 : Nat) < 10 := by decide
 show Calls _ _ #[.agg #[.int .i64 3, .int .u64 lsn, .int .i64 txn, .int .u64 prev, .int .u64 next, .slice iq im ic, .slice sq sn sc, .int .i64 nextTxn, .slice tq tn tc, .slice dq dn dc]] _ _
 go_enter Tryz.func60, Tryz.ntmps60
 go_wp2_with (first
  | ((with_reducible refine wpList_store_f rfl 24 (.tmp 10) (.const (.int .u64 0)) rfl (g := w.heap.size) (o := 4) (v := .int .u64 0) rfl rfl r0.out szU (lt10 l4) rfl ?_)
     intro w1 h9 hg9; have r1 : Hid (RowV 30 w1 w.heap.size [.int .i64 3, .int .u64 lsn, .int .i64 txn, .int .u64 prev, .int .u64 0, .slice iq im ic, .slice sq sn sc, .int .i64 nextTxn, .slice tq tn tc, .slice dq dn dc]) := h9; have g1 := lh (Gr.trans g0.out hg9)
     clear h9 hg9 c0)
  | ((with_reducible refine wpList_store_f rfl 3 (.tmp 24) (.const (.int .i64 0)) rfl (g := w.heap.size) (o := 0) (v := .int .i64 0) rfl rfl r1.out szI (lt10 l0) rfl ?_)
     intro w2 h9 hg9; have r2 : Hid (RowV 30 w2 w.heap.size [.int .i64 0, .int .u64 lsn, .int .i64 txn, .int .u64 prev, .int .u64 0, .slice iq im ic, .slice sq sn sc, .int .i64 nextTxn, .slice tq tn tc, .slice dq dn dc]) := h9; have g2 := lh (Gr.trans g1.out hg9)
     clear h9 hg9)
  | ((with_reducible refine wpList_store_f rfl 24 (.tmp 25) (.const (.int .u64 0)) rfl (g := w.heap.size) (o := 1) (v := .int .u64 0) rfl rfl r2.out szU (lt10 l1) rfl ?_)
     intro w3 h9 hg9; have r3 : Hid (RowV 30 w3 w.heap.size [.int .i64 0, .int .u64 0, .int .i64 txn, .int .u64 prev, .int .u64 0, .slice iq im ic, .slice sq sn sc, .int .i64 nextTxn, .slice tq tn tc, .slice dq dn dc]) := h9; have g3 := lh (Gr.trans g2.out hg9)
     clear h9 hg9)
  | ((with_reducible refine wpList_store_f rfl 3 (.tmp 26) (.const (.int .i64 0)) rfl (g := w.heap.size) (o := 2) (v := .int .i64 0) rfl rfl r3.out szI (lt10 l2) rfl ?_)
     intro w4 h9 hg9; have r4 : Hid (RowV 30 w4 w.heap.size [.int .i64 0, .int .u64 0, .int .i64 0, .int .u64 prev, .int .u64 0, .slice iq im ic, .slice sq sn sc, .int .i64 nextTxn, .slice tq tn tc, .slice dq dn dc]) := h9; have g4 := lh (Gr.trans g3.out hg9)
     clear h9 hg9)
  | ((with_reducible refine wpList_store_f rfl 24 (.tmp 27) (.const (.int .u64 0)) rfl (g := w.heap.size) (o := 3) (v := .int .u64 0) rfl rfl r4.out szU (lt10 l3) rfl ?_)
     intro w5 h9 hg9; have r5 : Hid (RowV 30 w5 w.heap.size [.int .i64 0, .int .u64 0, .int .i64 0, .int .u64 0, .int .u64 0, .slice iq im ic, .slice sq sn sc, .int .i64 nextTxn, .slice tq tn tc, .slice dq dn dc]) := h9; have g5 := lh (Gr.trans g4.out hg9)
     clear h9 hg9)
  | (with_reducible refine wpList_load_at rfl 30 (.tmp 1) rfl Tryz.underlying30 rfl (vs := [.int .i64 0, .int .u64 0, .int .i64 0, .int .u64 0, .int .u64 0, .slice iq im ic, .slice sq sn sc, .int .i64 nextTxn, .slice tq tn tc, .slice dq dn dc]) (sizeRec ⟨0, 0, 0, 0, 0, iq, im, ic, sq, sn, sc, nextTxn, tq, tn, tc, dq, dn, dc⟩) rfl r5.out.boxed.all ?_)
  | ((with_reducible refine wpList_store_at rfl 30 (.tmp 2) (.tmp 28) rfl (o := 0) (vs := [.int .i64 0, .int .u64 0, .int .i64 0, .int .u64 0, .int .u64 0, .slice iq im ic, .slice sq sn sc, .int .i64 nextTxn, .slice tq tn tc, .slice dq dn dc]) rfl rfl (q0.out.gr g5.out (by omega)) (sizeRec ⟨0, 0, 0, 0, 0, iq, im, ic, sq, sn, sc, nextTxn, tq, tn, tc, dq, dn, dc⟩) (Nat.le_refl _) (RecV.one ⟨0, 0, 0, 0, 0, iq, im, ic, sq, sn, sc, nextTxn, tq, tn, tc, dq, dn, dc⟩) ?_)
     intro wz h9 hg9; have rz : Hid (RowV 30 wz (w.heap.size + 1) [.int .i64 0, .int .u64 0, .int .i64 0, .int .u64 0, .int .u64 0, .slice iq im ic, .slice sq sn sc, .int .i64 nextTxn, .slice tq tn tc, .slice dq dn dc]) := h9; have gz := lh hg9
     clear h9 hg9))
 have m0 := rz.out.cell 0; have m1 := rz.out.cell 1; have m2 := rz.out.cell 2; have m3 := rz.out.cell 3; have m4 := rz.out.cell 4; have m5 := rz.out.cell 5; have m6 := rz.out.cell 6; have m7 := rz.out.cell 7; have m8 := rz.out.cell 8; have m9 := rz.out.cell 9; refine bodyPost_ret (v := .agg #[.int .i64 0, .int .u64 0, .int .i64 0, .int .u64 0, .int .u64 0, .slice iq im ic, .slice sq sn sc, .int .i64 nextTxn, .slice tq tn tc, .slice dq dn dc]) (by simp [results, Tryz.results60, go_sem, m0, m1, m2, m3, m4, m5, m6, m7, m8, m9]) rfl ?_; have hb := Gr.below gz.out (Gr.below g5.out hbx.out.1 (Nat.le_refl _)) (by omega); have ho := hr.out.below hb (Nat.le_refl _); have hoth : othersD r = ⟨0, 0, 0, 0, 0, r.images, r.steps, r.nextTxn, r.txns, r.dirty⟩ := show othersD r = _ from by unfold othersD; rw [← hr.out.kind]; rfl
 exact ⟨⟨0, 0, 0, 0, 0, iq, im, ic, sq, sn, sc, nextTxn, tq, tn, tc, dq, dn, dc⟩, V, rfl, by rw [hoth]; exact ⟨rfl, rfl, rfl, rfl, rfl, ho.nextTxn, ⟨i64_zero, u64_zero, i64_zero, u64_zero, u64_zero, ho.ints.2.2.2.2.2⟩, ho.images, ho.steps, ho.txns, ho.dirty, ho.sok, ho.tok, ho.dok⟩, hb⟩
set_option maxRecDepth 100000 in
set_option maxHeartbeats 4000000 in
theorem others4 (lsn txn prev next nextTxn : Int) (iq sq tq dq : Option Addr) (im ic sn sc tn tc dn dc : Nat) (V : List ImgV) (r : RecD) (w : World) (h : RecV.On ⟨4, lsn, txn, prev, next, iq, im, ic, sq, sn, sc, nextTxn, tq, tn, tc, dq, dn, dc⟩ w V r) :
 Calls Tryz.prog 60 #[.agg #[.int .i64 4, .int .u64 lsn, .int .i64 txn, .int .u64 prev, .int .u64 next, .slice iq im ic, .slice sq sn sc, .int .i64 nextTxn, .slice tq tn tc, .slice dq dn dc]] w (OthersPost r w) := by
 obtain ⟨W, hW⟩ : ∃ W, (w.alloc (.cells #[.int .i64 4, .int .u64 lsn, .int .i64 txn, .int .u64 prev, .int .u64 next, .slice iq im ic, .slice sq sn sc, .int .i64 nextTxn, .slice tq tn tc, .slice dq dn dc] 30)).alloc (.cells #[.int .i64 0, .int .u64 0, .int .i64 0, .int .u64 0, .int .u64 0, .slice none 0 0, .slice none 0 0, .int .i64 0, .slice none 0 0, .slice none 0 0] 30) = W := ⟨_, rfl⟩; have hbx := lh (two_boxes hW)
 have r0 : Hid (RowV 30 W w.heap.size [.int .i64 4, .int .u64 lsn, .int .i64 txn, .int .u64 prev, .int .u64 next, .slice iq im ic, .slice sq sn sc, .int .i64 nextTxn, .slice tq tn tc, .slice dq dn dc]) := by have h1 := (RowV.made (T := 30) w [.int .i64 4, .int .u64 lsn, .int .i64 txn, .int .u64 prev, .int .u64 next, .slice iq im ic, .slice sq sn sc, .int .i64 nextTxn, .slice tq tn tc, .slice dq dn dc]).below ((Below.refl _ _).alloc (Nat.le_refl _) (.cells #[.int .i64 0, .int .u64 0, .int .i64 0, .int .u64 0, .int .u64 0, .slice none 0 0, .slice none 0 0, .int .i64 0, .slice none 0 0, .slice none 0 0] 30)); show RowV _ _ _ _; rw [← hW]; exact h1
 have q0 : Hid (RowV 30 W (w.heap.size + 1) [.int .i64 0, .int .u64 0, .int .i64 0, .int .u64 0, .int .u64 0, .slice none 0 0, .slice none 0 0, .int .i64 0, .slice none 0 0, .slice none 0 0]) := by have h1 := RowV.made (T := 30) (w.alloc (.cells #[.int .i64 4, .int .u64 lsn, .int .i64 txn, .int .u64 prev, .int .u64 next, .slice iq im ic, .slice sq sn sc, .int .i64 nextTxn, .slice tq tn tc, .slice dq dn dc] 30)) [.int .i64 0, .int .u64 0, .int .i64 0, .int .u64 0, .int .u64 0, .slice none 0 0, .slice none 0 0, .int .i64 0, .slice none 0 0, .slice none 0 0]; show RowV _ _ _ _; rw [← hW]; simpa using h1
 have hr := lh h; have c0 := r0.out.cell 0; have g0 : Hid (W.grownBy W (some w.heap.size)) := Gr.refl _ _; clear h; have l0 : (0 : Nat) < 10 := by decide
 have l1 : (1 : Nat) < 10 := by decide
 have l2 : (2 : Nat) < 10 := by decide
 have l3 : (3 : Nat) < 10 := by decide
 have l4 : (4 : Nat) < 10 := by decide
 have l5 : (5 : Nat) < 10 := by decide
 have l6 : (6 : Nat) < 10 := by decide
 have l7 : (7 : Nat) < 10 := by decide
 have l8 : (8 : Nat) < 10 := by decide
 have l9 : (9 : Nat) < 10 := by decide
 show Calls _ _ #[.agg #[.int .i64 4, .int .u64 lsn, .int .i64 txn, .int .u64 prev, .int .u64 next, .slice iq im ic, .slice sq sn sc, .int .i64 nextTxn, .slice tq tn tc, .slice dq dn dc]] _ _
 go_enter Tryz.func60, Tryz.ntmps60
 go_wp2_with (first
  | ((with_reducible refine wpList_store_f rfl 24 (.tmp 13) (.const (.int .u64 0)) rfl (g := w.heap.size) (o := 4) (v := .int .u64 0) rfl rfl r0.out szU (lt10 l4) rfl ?_)
     intro w1 h9 hg9; have r1 : Hid (RowV 30 w1 w.heap.size [.int .i64 4, .int .u64 lsn, .int .i64 txn, .int .u64 prev, .int .u64 0, .slice iq im ic, .slice sq sn sc, .int .i64 nextTxn, .slice tq tn tc, .slice dq dn dc]) := h9; have g1 := lh (Gr.trans g0.out hg9)
     clear h9 hg9 c0)
  | ((with_reducible refine wpList_store_f rfl 26 (.tmp 14) (.const (.slice none 0 0)) rfl (g := w.heap.size) (o := 6) (v := .slice none 0 0) rfl rfl r1.out szSteps (lt10 l6) rfl ?_)
     intro w2 h9 hg9; have r2 : Hid (RowV 30 w2 w.heap.size [.int .i64 4, .int .u64 lsn, .int .i64 txn, .int .u64 prev, .int .u64 0, .slice iq im ic, .slice none 0 0, .int .i64 nextTxn, .slice tq tn tc, .slice dq dn dc]) := h9; have g2 := lh (Gr.trans g1.out hg9)
     clear h9 hg9)
  | ((with_reducible refine wpList_store_f rfl 3 (.tmp 24) (.const (.int .i64 0)) rfl (g := w.heap.size) (o := 0) (v := .int .i64 0) rfl rfl r2.out szI (lt10 l0) rfl ?_)
     intro w3 h9 hg9; have r3 : Hid (RowV 30 w3 w.heap.size [.int .i64 0, .int .u64 lsn, .int .i64 txn, .int .u64 prev, .int .u64 0, .slice iq im ic, .slice none 0 0, .int .i64 nextTxn, .slice tq tn tc, .slice dq dn dc]) := h9; have g3 := lh (Gr.trans g2.out hg9)
     clear h9 hg9)
  | ((with_reducible refine wpList_store_f rfl 24 (.tmp 25) (.const (.int .u64 0)) rfl (g := w.heap.size) (o := 1) (v := .int .u64 0) rfl rfl r3.out szU (lt10 l1) rfl ?_)
     intro w4 h9 hg9; have r4 : Hid (RowV 30 w4 w.heap.size [.int .i64 0, .int .u64 0, .int .i64 txn, .int .u64 prev, .int .u64 0, .slice iq im ic, .slice none 0 0, .int .i64 nextTxn, .slice tq tn tc, .slice dq dn dc]) := h9; have g4 := lh (Gr.trans g3.out hg9)
     clear h9 hg9)
  | ((with_reducible refine wpList_store_f rfl 3 (.tmp 26) (.const (.int .i64 0)) rfl (g := w.heap.size) (o := 2) (v := .int .i64 0) rfl rfl r4.out szI (lt10 l2) rfl ?_)
     intro w5 h9 hg9; have r5 : Hid (RowV 30 w5 w.heap.size [.int .i64 0, .int .u64 0, .int .i64 0, .int .u64 prev, .int .u64 0, .slice iq im ic, .slice none 0 0, .int .i64 nextTxn, .slice tq tn tc, .slice dq dn dc]) := h9; have g5 := lh (Gr.trans g4.out hg9)
     clear h9 hg9)
  | ((with_reducible refine wpList_store_f rfl 24 (.tmp 27) (.const (.int .u64 0)) rfl (g := w.heap.size) (o := 3) (v := .int .u64 0) rfl rfl r5.out szU (lt10 l3) rfl ?_)
     intro w6 h9 hg9; have r6 : Hid (RowV 30 w6 w.heap.size [.int .i64 0, .int .u64 0, .int .i64 0, .int .u64 0, .int .u64 0, .slice iq im ic, .slice none 0 0, .int .i64 nextTxn, .slice tq tn tc, .slice dq dn dc]) := h9; have g6 := lh (Gr.trans g5.out hg9)
     clear h9 hg9)
  | (with_reducible refine wpList_load_at rfl 30 (.tmp 1) rfl Tryz.underlying30 rfl (vs := [.int .i64 0, .int .u64 0, .int .i64 0, .int .u64 0, .int .u64 0, .slice iq im ic, .slice none 0 0, .int .i64 nextTxn, .slice tq tn tc, .slice dq dn dc]) (sizeRec ⟨0, 0, 0, 0, 0, iq, im, ic, none, 0, 0, nextTxn, tq, tn, tc, dq, dn, dc⟩) rfl r6.out.boxed.all ?_)
  | ((with_reducible refine wpList_store_at rfl 30 (.tmp 2) (.tmp 28) rfl (o := 0) (vs := [.int .i64 0, .int .u64 0, .int .i64 0, .int .u64 0, .int .u64 0, .slice iq im ic, .slice none 0 0, .int .i64 nextTxn, .slice tq tn tc, .slice dq dn dc]) rfl rfl (q0.out.gr g6.out (by omega)) (sizeRec ⟨0, 0, 0, 0, 0, iq, im, ic, none, 0, 0, nextTxn, tq, tn, tc, dq, dn, dc⟩) (Nat.le_refl _) (RecV.one ⟨0, 0, 0, 0, 0, iq, im, ic, none, 0, 0, nextTxn, tq, tn, tc, dq, dn, dc⟩) ?_)
     intro wz h9 hg9; have rz : Hid (RowV 30 wz (w.heap.size + 1) [.int .i64 0, .int .u64 0, .int .i64 0, .int .u64 0, .int .u64 0, .slice iq im ic, .slice none 0 0, .int .i64 nextTxn, .slice tq tn tc, .slice dq dn dc]) := h9; have gz := lh hg9
     clear h9 hg9))
 have m0 := rz.out.cell 0; have m1 := rz.out.cell 1; have m2 := rz.out.cell 2; have m3 := rz.out.cell 3; have m4 := rz.out.cell 4; have m5 := rz.out.cell 5; have m6 := rz.out.cell 6; have m7 := rz.out.cell 7; have m8 := rz.out.cell 8; have m9 := rz.out.cell 9; refine bodyPost_ret (v := .agg #[.int .i64 0, .int .u64 0, .int .i64 0, .int .u64 0, .int .u64 0, .slice iq im ic, .slice none 0 0, .int .i64 nextTxn, .slice tq tn tc, .slice dq dn dc]) (by simp [results, Tryz.results60, go_sem, m0, m1, m2, m3, m4, m5, m6, m7, m8, m9]) rfl ?_; have hb := Gr.below gz.out (Gr.below g6.out hbx.out.1 (Nat.le_refl _)) (by omega); have ho := hr.out.below hb (Nat.le_refl _); have hoth : othersD r = ⟨0, 0, 0, 0, 0, r.images, [], r.nextTxn, r.txns, r.dirty⟩ := show othersD r = _ from by unfold othersD; rw [← hr.out.kind]; rfl
 exact ⟨⟨0, 0, 0, 0, 0, iq, im, ic, none, 0, 0, nextTxn, tq, tn, tc, dq, dn, dc⟩, V, rfl, by rw [hoth]; exact ⟨rfl, rfl, rfl, rfl, rfl, ho.nextTxn, ⟨i64_zero, u64_zero, i64_zero, u64_zero, u64_zero, ho.ints.2.2.2.2.2⟩, ho.images, SlOn.none_ _, ho.txns, ho.dirty, (fun s h => by cases h), ho.tok, ho.dok⟩, hb⟩
set_option maxRecDepth 100000 in
set_option maxHeartbeats 4000000 in
theorem others5 (lsn txn prev next nextTxn : Int) (iq sq tq dq : Option Addr) (im ic sn sc tn tc dn dc : Nat) (V : List ImgV) (r : RecD) (w : World) (h : RecV.On ⟨5, lsn, txn, prev, next, iq, im, ic, sq, sn, sc, nextTxn, tq, tn, tc, dq, dn, dc⟩ w V r) :
 Calls Tryz.prog 60 #[.agg #[.int .i64 5, .int .u64 lsn, .int .i64 txn, .int .u64 prev, .int .u64 next, .slice iq im ic, .slice sq sn sc, .int .i64 nextTxn, .slice tq tn tc, .slice dq dn dc]] w (OthersPost r w) := by
 obtain ⟨W, hW⟩ : ∃ W, (w.alloc (.cells #[.int .i64 5, .int .u64 lsn, .int .i64 txn, .int .u64 prev, .int .u64 next, .slice iq im ic, .slice sq sn sc, .int .i64 nextTxn, .slice tq tn tc, .slice dq dn dc] 30)).alloc (.cells #[.int .i64 0, .int .u64 0, .int .i64 0, .int .u64 0, .int .u64 0, .slice none 0 0, .slice none 0 0, .int .i64 0, .slice none 0 0, .slice none 0 0] 30) = W := ⟨_, rfl⟩; have hbx := lh (two_boxes hW)
 have r0 : Hid (RowV 30 W w.heap.size [.int .i64 5, .int .u64 lsn, .int .i64 txn, .int .u64 prev, .int .u64 next, .slice iq im ic, .slice sq sn sc, .int .i64 nextTxn, .slice tq tn tc, .slice dq dn dc]) := by have h1 := (RowV.made (T := 30) w [.int .i64 5, .int .u64 lsn, .int .i64 txn, .int .u64 prev, .int .u64 next, .slice iq im ic, .slice sq sn sc, .int .i64 nextTxn, .slice tq tn tc, .slice dq dn dc]).below ((Below.refl _ _).alloc (Nat.le_refl _) (.cells #[.int .i64 0, .int .u64 0, .int .i64 0, .int .u64 0, .int .u64 0, .slice none 0 0, .slice none 0 0, .int .i64 0, .slice none 0 0, .slice none 0 0] 30)); show RowV _ _ _ _; rw [← hW]; exact h1
 have q0 : Hid (RowV 30 W (w.heap.size + 1) [.int .i64 0, .int .u64 0, .int .i64 0, .int .u64 0, .int .u64 0, .slice none 0 0, .slice none 0 0, .int .i64 0, .slice none 0 0, .slice none 0 0]) := by have h1 := RowV.made (T := 30) (w.alloc (.cells #[.int .i64 5, .int .u64 lsn, .int .i64 txn, .int .u64 prev, .int .u64 next, .slice iq im ic, .slice sq sn sc, .int .i64 nextTxn, .slice tq tn tc, .slice dq dn dc] 30)) [.int .i64 0, .int .u64 0, .int .i64 0, .int .u64 0, .int .u64 0, .slice none 0 0, .slice none 0 0, .int .i64 0, .slice none 0 0, .slice none 0 0]; show RowV _ _ _ _; rw [← hW]; simpa using h1
 have hr := lh h; have c0 := r0.out.cell 0; have g0 : Hid (W.grownBy W (some w.heap.size)) := Gr.refl _ _; clear h; have l0 : (0 : Nat) < 10 := by decide
 have l1 : (1 : Nat) < 10 := by decide
 have l2 : (2 : Nat) < 10 := by decide
 have l3 : (3 : Nat) < 10 := by decide
 have l4 : (4 : Nat) < 10 := by decide
 have l5 : (5 : Nat) < 10 := by decide
 have l6 : (6 : Nat) < 10 := by decide
 have l7 : (7 : Nat) < 10 := by decide
 have l8 : (8 : Nat) < 10 := by decide
 have l9 : (9 : Nat) < 10 := by decide
 show Calls _ _ #[.agg #[.int .i64 5, .int .u64 lsn, .int .i64 txn, .int .u64 prev, .int .u64 next, .slice iq im ic, .slice sq sn sc, .int .i64 nextTxn, .slice tq tn tc, .slice dq dn dc]] _ _
 go_enter Tryz.func60, Tryz.ntmps60
 go_wp2_with (first
  | ((with_reducible refine wpList_store_f rfl 24 (.tmp 17) (.const (.int .u64 0)) rfl (g := w.heap.size) (o := 4) (v := .int .u64 0) rfl rfl r0.out szU (lt10 l4) rfl ?_)
     intro w1 h9 hg9; have r1 : Hid (RowV 30 w1 w.heap.size [.int .i64 5, .int .u64 lsn, .int .i64 txn, .int .u64 prev, .int .u64 0, .slice iq im ic, .slice sq sn sc, .int .i64 nextTxn, .slice tq tn tc, .slice dq dn dc]) := h9; have g1 := lh (Gr.trans g0.out hg9)
     clear h9 hg9 c0)
  | ((with_reducible refine wpList_store_f rfl 25 (.tmp 18) (.const (.slice none 0 0)) rfl (g := w.heap.size) (o := 5) (v := .slice none 0 0) rfl rfl r1.out szImgs (lt10 l5) rfl ?_)
     intro w2 h9 hg9; have r2 : Hid (RowV 30 w2 w.heap.size [.int .i64 5, .int .u64 lsn, .int .i64 txn, .int .u64 prev, .int .u64 0, .slice none 0 0, .slice sq sn sc, .int .i64 nextTxn, .slice tq tn tc, .slice dq dn dc]) := h9; have g2 := lh (Gr.trans g1.out hg9)
     clear h9 hg9)
  | ((with_reducible refine wpList_store_f rfl 3 (.tmp 24) (.const (.int .i64 0)) rfl (g := w.heap.size) (o := 0) (v := .int .i64 0) rfl rfl r2.out szI (lt10 l0) rfl ?_)
     intro w3 h9 hg9; have r3 : Hid (RowV 30 w3 w.heap.size [.int .i64 0, .int .u64 lsn, .int .i64 txn, .int .u64 prev, .int .u64 0, .slice none 0 0, .slice sq sn sc, .int .i64 nextTxn, .slice tq tn tc, .slice dq dn dc]) := h9; have g3 := lh (Gr.trans g2.out hg9)
     clear h9 hg9)
  | ((with_reducible refine wpList_store_f rfl 24 (.tmp 25) (.const (.int .u64 0)) rfl (g := w.heap.size) (o := 1) (v := .int .u64 0) rfl rfl r3.out szU (lt10 l1) rfl ?_)
     intro w4 h9 hg9; have r4 : Hid (RowV 30 w4 w.heap.size [.int .i64 0, .int .u64 0, .int .i64 txn, .int .u64 prev, .int .u64 0, .slice none 0 0, .slice sq sn sc, .int .i64 nextTxn, .slice tq tn tc, .slice dq dn dc]) := h9; have g4 := lh (Gr.trans g3.out hg9)
     clear h9 hg9)
  | ((with_reducible refine wpList_store_f rfl 3 (.tmp 26) (.const (.int .i64 0)) rfl (g := w.heap.size) (o := 2) (v := .int .i64 0) rfl rfl r4.out szI (lt10 l2) rfl ?_)
     intro w5 h9 hg9; have r5 : Hid (RowV 30 w5 w.heap.size [.int .i64 0, .int .u64 0, .int .i64 0, .int .u64 prev, .int .u64 0, .slice none 0 0, .slice sq sn sc, .int .i64 nextTxn, .slice tq tn tc, .slice dq dn dc]) := h9; have g5 := lh (Gr.trans g4.out hg9)
     clear h9 hg9)
  | ((with_reducible refine wpList_store_f rfl 24 (.tmp 27) (.const (.int .u64 0)) rfl (g := w.heap.size) (o := 3) (v := .int .u64 0) rfl rfl r5.out szU (lt10 l3) rfl ?_)
     intro w6 h9 hg9; have r6 : Hid (RowV 30 w6 w.heap.size [.int .i64 0, .int .u64 0, .int .i64 0, .int .u64 0, .int .u64 0, .slice none 0 0, .slice sq sn sc, .int .i64 nextTxn, .slice tq tn tc, .slice dq dn dc]) := h9; have g6 := lh (Gr.trans g5.out hg9)
     clear h9 hg9)
  | (with_reducible refine wpList_load_at rfl 30 (.tmp 1) rfl Tryz.underlying30 rfl (vs := [.int .i64 0, .int .u64 0, .int .i64 0, .int .u64 0, .int .u64 0, .slice none 0 0, .slice sq sn sc, .int .i64 nextTxn, .slice tq tn tc, .slice dq dn dc]) (sizeRec ⟨0, 0, 0, 0, 0, none, 0, 0, sq, sn, sc, nextTxn, tq, tn, tc, dq, dn, dc⟩) rfl r6.out.boxed.all ?_)
  | ((with_reducible refine wpList_store_at rfl 30 (.tmp 2) (.tmp 28) rfl (o := 0) (vs := [.int .i64 0, .int .u64 0, .int .i64 0, .int .u64 0, .int .u64 0, .slice none 0 0, .slice sq sn sc, .int .i64 nextTxn, .slice tq tn tc, .slice dq dn dc]) rfl rfl (q0.out.gr g6.out (by omega)) (sizeRec ⟨0, 0, 0, 0, 0, none, 0, 0, sq, sn, sc, nextTxn, tq, tn, tc, dq, dn, dc⟩) (Nat.le_refl _) (RecV.one ⟨0, 0, 0, 0, 0, none, 0, 0, sq, sn, sc, nextTxn, tq, tn, tc, dq, dn, dc⟩) ?_)
     intro wz h9 hg9; have rz : Hid (RowV 30 wz (w.heap.size + 1) [.int .i64 0, .int .u64 0, .int .i64 0, .int .u64 0, .int .u64 0, .slice none 0 0, .slice sq sn sc, .int .i64 nextTxn, .slice tq tn tc, .slice dq dn dc]) := h9; have gz := lh hg9
     clear h9 hg9))
 have m0 := rz.out.cell 0; have m1 := rz.out.cell 1; have m2 := rz.out.cell 2; have m3 := rz.out.cell 3; have m4 := rz.out.cell 4; have m5 := rz.out.cell 5; have m6 := rz.out.cell 6; have m7 := rz.out.cell 7; have m8 := rz.out.cell 8; have m9 := rz.out.cell 9; refine bodyPost_ret (v := .agg #[.int .i64 0, .int .u64 0, .int .i64 0, .int .u64 0, .int .u64 0, .slice none 0 0, .slice sq sn sc, .int .i64 nextTxn, .slice tq tn tc, .slice dq dn dc]) (by simp [results, Tryz.results60, go_sem, m0, m1, m2, m3, m4, m5, m6, m7, m8, m9]) rfl ?_; have hb := Gr.below gz.out (Gr.below g6.out hbx.out.1 (Nat.le_refl _)) (by omega); have ho := hr.out.below hb (Nat.le_refl _); have hoth : othersD r = ⟨0, 0, 0, 0, 0, [], r.steps, r.nextTxn, r.txns, r.dirty⟩ := show othersD r = _ from by unfold othersD; rw [← hr.out.kind]; rfl
 exact ⟨⟨0, 0, 0, 0, 0, none, 0, 0, sq, sn, sc, nextTxn, tq, tn, tc, dq, dn, dc⟩, [], rfl, by rw [hoth]; exact ⟨rfl, rfl, rfl, rfl, rfl, ho.nextTxn, ⟨i64_zero, u64_zero, i64_zero, u64_zero, u64_zero, ho.ints.2.2.2.2.2⟩, ImgsOn.none_ _, ho.steps, ho.txns, ho.dirty, ho.sok, ho.tok, ho.dok⟩, hb⟩
set_option maxRecDepth 100000 in
set_option maxHeartbeats 4000000 in
theorem others9 (lsn txn prev next nextTxn : Int) (iq sq tq dq : Option Addr) (im ic sn sc tn tc dn dc : Nat) (V : List ImgV) (r : RecD) (w : World) (h : RecV.On ⟨9, lsn, txn, prev, next, iq, im, ic, sq, sn, sc, nextTxn, tq, tn, tc, dq, dn, dc⟩ w V r) :
 Calls Tryz.prog 60 #[.agg #[.int .i64 9, .int .u64 lsn, .int .i64 txn, .int .u64 prev, .int .u64 next, .slice iq im ic, .slice sq sn sc, .int .i64 nextTxn, .slice tq tn tc, .slice dq dn dc]] w (OthersPost r w) := by
 obtain ⟨W, hW⟩ : ∃ W, (w.alloc (.cells #[.int .i64 9, .int .u64 lsn, .int .i64 txn, .int .u64 prev, .int .u64 next, .slice iq im ic, .slice sq sn sc, .int .i64 nextTxn, .slice tq tn tc, .slice dq dn dc] 30)).alloc (.cells #[.int .i64 0, .int .u64 0, .int .i64 0, .int .u64 0, .int .u64 0, .slice none 0 0, .slice none 0 0, .int .i64 0, .slice none 0 0, .slice none 0 0] 30) = W := ⟨_, rfl⟩; have hbx := lh (two_boxes hW)
 have r0 : Hid (RowV 30 W w.heap.size [.int .i64 9, .int .u64 lsn, .int .i64 txn, .int .u64 prev, .int .u64 next, .slice iq im ic, .slice sq sn sc, .int .i64 nextTxn, .slice tq tn tc, .slice dq dn dc]) := by have h1 := (RowV.made (T := 30) w [.int .i64 9, .int .u64 lsn, .int .i64 txn, .int .u64 prev, .int .u64 next, .slice iq im ic, .slice sq sn sc, .int .i64 nextTxn, .slice tq tn tc, .slice dq dn dc]).below ((Below.refl _ _).alloc (Nat.le_refl _) (.cells #[.int .i64 0, .int .u64 0, .int .i64 0, .int .u64 0, .int .u64 0, .slice none 0 0, .slice none 0 0, .int .i64 0, .slice none 0 0, .slice none 0 0] 30)); show RowV _ _ _ _; rw [← hW]; exact h1
 have q0 : Hid (RowV 30 W (w.heap.size + 1) [.int .i64 0, .int .u64 0, .int .i64 0, .int .u64 0, .int .u64 0, .slice none 0 0, .slice none 0 0, .int .i64 0, .slice none 0 0, .slice none 0 0]) := by have h1 := RowV.made (T := 30) (w.alloc (.cells #[.int .i64 9, .int .u64 lsn, .int .i64 txn, .int .u64 prev, .int .u64 next, .slice iq im ic, .slice sq sn sc, .int .i64 nextTxn, .slice tq tn tc, .slice dq dn dc] 30)) [.int .i64 0, .int .u64 0, .int .i64 0, .int .u64 0, .int .u64 0, .slice none 0 0, .slice none 0 0, .int .i64 0, .slice none 0 0, .slice none 0 0]; show RowV _ _ _ _; rw [← hW]; simpa using h1
 have hr := lh h; have c0 := r0.out.cell 0; have g0 : Hid (W.grownBy W (some w.heap.size)) := Gr.refl _ _; clear h; have l0 : (0 : Nat) < 10 := by decide
 have l1 : (1 : Nat) < 10 := by decide
 have l2 : (2 : Nat) < 10 := by decide
 have l3 : (3 : Nat) < 10 := by decide
 have l4 : (4 : Nat) < 10 := by decide
 have l5 : (5 : Nat) < 10 := by decide
 have l6 : (6 : Nat) < 10 := by decide
 have l7 : (7 : Nat) < 10 := by decide
 have l8 : (8 : Nat) < 10 := by decide
 have l9 : (9 : Nat) < 10 := by decide
 show Calls _ _ #[.agg #[.int .i64 9, .int .u64 lsn, .int .i64 txn, .int .u64 prev, .int .u64 next, .slice iq im ic, .slice sq sn sc, .int .i64 nextTxn, .slice tq tn tc, .slice dq dn dc]] _ _
 go_enter Tryz.func60, Tryz.ntmps60
 go_wp2_with (first
  | ((with_reducible refine wpList_store_f rfl 3 (.tmp 21) (.const (.int .i64 0)) rfl (g := w.heap.size) (o := 7) (v := .int .i64 0) rfl rfl r0.out szI (lt10 l7) rfl ?_)
     intro w1 h9 hg9; have r1 : Hid (RowV 30 w1 w.heap.size [.int .i64 9, .int .u64 lsn, .int .i64 txn, .int .u64 prev, .int .u64 next, .slice iq im ic, .slice sq sn sc, .int .i64 0, .slice tq tn tc, .slice dq dn dc]) := h9; have g1 := lh (Gr.trans g0.out hg9)
     clear h9 hg9 c0)
  | ((with_reducible refine wpList_store_f rfl 27 (.tmp 22) (.const (.slice none 0 0)) rfl (g := w.heap.size) (o := 8) (v := .slice none 0 0) rfl rfl r1.out szTxns (lt10 l8) rfl ?_)
     intro w2 h9 hg9; have r2 : Hid (RowV 30 w2 w.heap.size [.int .i64 9, .int .u64 lsn, .int .i64 txn, .int .u64 prev, .int .u64 next, .slice iq im ic, .slice sq sn sc, .int .i64 0, .slice none 0 0, .slice dq dn dc]) := h9; have g2 := lh (Gr.trans g1.out hg9)
     clear h9 hg9)
  | ((with_reducible refine wpList_store_f rfl 28 (.tmp 23) (.const (.slice none 0 0)) rfl (g := w.heap.size) (o := 9) (v := .slice none 0 0) rfl rfl r2.out szPgs (lt10 l9) rfl ?_)
     intro w3 h9 hg9; have r3 : Hid (RowV 30 w3 w.heap.size [.int .i64 9, .int .u64 lsn, .int .i64 txn, .int .u64 prev, .int .u64 next, .slice iq im ic, .slice sq sn sc, .int .i64 0, .slice none 0 0, .slice none 0 0]) := h9; have g3 := lh (Gr.trans g2.out hg9)
     clear h9 hg9)
  | ((with_reducible refine wpList_store_f rfl 3 (.tmp 24) (.const (.int .i64 0)) rfl (g := w.heap.size) (o := 0) (v := .int .i64 0) rfl rfl r3.out szI (lt10 l0) rfl ?_)
     intro w4 h9 hg9; have r4 : Hid (RowV 30 w4 w.heap.size [.int .i64 0, .int .u64 lsn, .int .i64 txn, .int .u64 prev, .int .u64 next, .slice iq im ic, .slice sq sn sc, .int .i64 0, .slice none 0 0, .slice none 0 0]) := h9; have g4 := lh (Gr.trans g3.out hg9)
     clear h9 hg9)
  | ((with_reducible refine wpList_store_f rfl 24 (.tmp 25) (.const (.int .u64 0)) rfl (g := w.heap.size) (o := 1) (v := .int .u64 0) rfl rfl r4.out szU (lt10 l1) rfl ?_)
     intro w5 h9 hg9; have r5 : Hid (RowV 30 w5 w.heap.size [.int .i64 0, .int .u64 0, .int .i64 txn, .int .u64 prev, .int .u64 next, .slice iq im ic, .slice sq sn sc, .int .i64 0, .slice none 0 0, .slice none 0 0]) := h9; have g5 := lh (Gr.trans g4.out hg9)
     clear h9 hg9)
  | ((with_reducible refine wpList_store_f rfl 3 (.tmp 26) (.const (.int .i64 0)) rfl (g := w.heap.size) (o := 2) (v := .int .i64 0) rfl rfl r5.out szI (lt10 l2) rfl ?_)
     intro w6 h9 hg9; have r6 : Hid (RowV 30 w6 w.heap.size [.int .i64 0, .int .u64 0, .int .i64 0, .int .u64 prev, .int .u64 next, .slice iq im ic, .slice sq sn sc, .int .i64 0, .slice none 0 0, .slice none 0 0]) := h9; have g6 := lh (Gr.trans g5.out hg9)
     clear h9 hg9)
  | ((with_reducible refine wpList_store_f rfl 24 (.tmp 27) (.const (.int .u64 0)) rfl (g := w.heap.size) (o := 3) (v := .int .u64 0) rfl rfl r6.out szU (lt10 l3) rfl ?_)
     intro w7 h9 hg9; have r7 : Hid (RowV 30 w7 w.heap.size [.int .i64 0, .int .u64 0, .int .i64 0, .int .u64 0, .int .u64 next, .slice iq im ic, .slice sq sn sc, .int .i64 0, .slice none 0 0, .slice none 0 0]) := h9; have g7 := lh (Gr.trans g6.out hg9)
     clear h9 hg9)
  | (with_reducible refine wpList_load_at rfl 30 (.tmp 1) rfl Tryz.underlying30 rfl (vs := [.int .i64 0, .int .u64 0, .int .i64 0, .int .u64 0, .int .u64 next, .slice iq im ic, .slice sq sn sc, .int .i64 0, .slice none 0 0, .slice none 0 0]) (sizeRec ⟨0, 0, 0, 0, next, iq, im, ic, sq, sn, sc, 0, none, 0, 0, none, 0, 0⟩) rfl r7.out.boxed.all ?_)
  | ((with_reducible refine wpList_store_at rfl 30 (.tmp 2) (.tmp 28) rfl (o := 0) (vs := [.int .i64 0, .int .u64 0, .int .i64 0, .int .u64 0, .int .u64 next, .slice iq im ic, .slice sq sn sc, .int .i64 0, .slice none 0 0, .slice none 0 0]) rfl rfl (q0.out.gr g7.out (by omega)) (sizeRec ⟨0, 0, 0, 0, next, iq, im, ic, sq, sn, sc, 0, none, 0, 0, none, 0, 0⟩) (Nat.le_refl _) (RecV.one ⟨0, 0, 0, 0, next, iq, im, ic, sq, sn, sc, 0, none, 0, 0, none, 0, 0⟩) ?_)
     intro wz h9 hg9; have rz : Hid (RowV 30 wz (w.heap.size + 1) [.int .i64 0, .int .u64 0, .int .i64 0, .int .u64 0, .int .u64 next, .slice iq im ic, .slice sq sn sc, .int .i64 0, .slice none 0 0, .slice none 0 0]) := h9; have gz := lh hg9
     clear h9 hg9))
 have m0 := rz.out.cell 0; have m1 := rz.out.cell 1; have m2 := rz.out.cell 2; have m3 := rz.out.cell 3; have m4 := rz.out.cell 4; have m5 := rz.out.cell 5; have m6 := rz.out.cell 6; have m7 := rz.out.cell 7; have m8 := rz.out.cell 8; have m9 := rz.out.cell 9; refine bodyPost_ret (v := .agg #[.int .i64 0, .int .u64 0, .int .i64 0, .int .u64 0, .int .u64 next, .slice iq im ic, .slice sq sn sc, .int .i64 0, .slice none 0 0, .slice none 0 0]) (by simp [results, Tryz.results60, go_sem, m0, m1, m2, m3, m4, m5, m6, m7, m8, m9]) rfl ?_; have hb := Gr.below gz.out (Gr.below g7.out hbx.out.1 (Nat.le_refl _)) (by omega); have ho := hr.out.below hb (Nat.le_refl _); have hoth : othersD r = ⟨0, 0, 0, 0, r.next, r.images, r.steps, 0, [], []⟩ := show othersD r = _ from by unfold othersD; rw [← hr.out.kind]; rfl
 exact ⟨⟨0, 0, 0, 0, next, iq, im, ic, sq, sn, sc, 0, none, 0, 0, none, 0, 0⟩, V, rfl, by rw [hoth]; exact ⟨rfl, rfl, rfl, rfl, ho.next, rfl, ⟨i64_zero, u64_zero, i64_zero, u64_zero, ho.ints.2.2.2.2.1, i64_zero⟩, ho.images, ho.steps, SlOn.none_ _, SlOn.none_ _, ho.sok, (fun s h => by cases h), (fun s h => by cases h)⟩, hb⟩
set_option maxRecDepth 100000 in
set_option maxHeartbeats 4000000 in
theorem othersN (kind lsn txn prev next nextTxn : Int) (iq sq tq dq : Option Addr) (im ic sn sc tn tc dn dc : Nat) (V : List ImgV) (r : RecD) (w : World) (h : RecV.On ⟨kind, lsn, txn, prev, next, iq, im, ic, sq, sn, sc, nextTxn, tq, tn, tc, dq, dn, dc⟩ w V r) (n2 : kind ≠ 2) (n3 : kind ≠ 3) (n4 : kind ≠ 4) (n5 : kind ≠ 5) (n9 : kind ≠ 9) :
 Calls Tryz.prog 60 #[.agg #[.int .i64 kind, .int .u64 lsn, .int .i64 txn, .int .u64 prev, .int .u64 next, .slice iq im ic, .slice sq sn sc, .int .i64 nextTxn, .slice tq tn tc, .slice dq dn dc]] w (OthersPost r w) := by
 obtain ⟨W, hW⟩ : ∃ W, (w.alloc (.cells #[.int .i64 kind, .int .u64 lsn, .int .i64 txn, .int .u64 prev, .int .u64 next, .slice iq im ic, .slice sq sn sc, .int .i64 nextTxn, .slice tq tn tc, .slice dq dn dc] 30)).alloc (.cells #[.int .i64 0, .int .u64 0, .int .i64 0, .int .u64 0, .int .u64 0, .slice none 0 0, .slice none 0 0, .int .i64 0, .slice none 0 0, .slice none 0 0] 30) = W := ⟨_, rfl⟩; have hbx := lh (two_boxes hW)
 have r0 : Hid (RowV 30 W w.heap.size [.int .i64 kind, .int .u64 lsn, .int .i64 txn, .int .u64 prev, .int .u64 next, .slice iq im ic, .slice sq sn sc, .int .i64 nextTxn, .slice tq tn tc, .slice dq dn dc]) := by have h1 := (RowV.made (T := 30) w [.int .i64 kind, .int .u64 lsn, .int .i64 txn, .int .u64 prev, .int .u64 next, .slice iq im ic, .slice sq sn sc, .int .i64 nextTxn, .slice tq tn tc, .slice dq dn dc]).below ((Below.refl _ _).alloc (Nat.le_refl _) (.cells #[.int .i64 0, .int .u64 0, .int .i64 0, .int .u64 0, .int .u64 0, .slice none 0 0, .slice none 0 0, .int .i64 0, .slice none 0 0, .slice none 0 0] 30)); show RowV _ _ _ _; rw [← hW]; exact h1
 have q0 : Hid (RowV 30 W (w.heap.size + 1) [.int .i64 0, .int .u64 0, .int .i64 0, .int .u64 0, .int .u64 0, .slice none 0 0, .slice none 0 0, .int .i64 0, .slice none 0 0, .slice none 0 0]) := by have h1 := RowV.made (T := 30) (w.alloc (.cells #[.int .i64 kind, .int .u64 lsn, .int .i64 txn, .int .u64 prev, .int .u64 next, .slice iq im ic, .slice sq sn sc, .int .i64 nextTxn, .slice tq tn tc, .slice dq dn dc] 30)) [.int .i64 0, .int .u64 0, .int .i64 0, .int .u64 0, .int .u64 0, .slice none 0 0, .slice none 0 0, .int .i64 0, .slice none 0 0, .slice none 0 0]; show RowV _ _ _ _; rw [← hW]; simpa using h1
 have hr := lh h; have c0 := r0.out.cell 0; have g0 : Hid (W.grownBy W (some w.heap.size)) := Gr.refl _ _; have m2 : (kind == 2) = false := by simpa using n2
 have m3 : (kind == 3) = false := by simpa using n3
 have m4 : (kind == 4) = false := by simpa using n4
 have m5 : (kind == 5) = false := by simpa using n5
 have m9 : (kind == 9) = false := by simpa using n9
 have hr2 := lh (show othersD r = ⟨0, 0, 0, 0, r.next, r.images, r.steps, r.nextTxn, r.txns, r.dirty⟩ from by unfold othersD; rw [← h.kind, if_neg n2, if_neg n3, if_neg n4, if_neg n5, if_neg n9]); clear n2 n3 n4 n5 n9; clear h; have l0 : (0 : Nat) < 10 := by decide
 have l1 : (1 : Nat) < 10 := by decide
 have l2 : (2 : Nat) < 10 := by decide
 have l3 : (3 : Nat) < 10 := by decide
 have l4 : (4 : Nat) < 10 := by decide
 have l5 : (5 : Nat) < 10 := by decide
 have l6 : (6 : Nat) < 10 := by decide
 have l7 : (7 : Nat) < 10 := by decide
 have l8 : (8 : Nat) < 10 := by decide
 have l9 : (9 : Nat) < 10 := by decide
 show Calls _ _ #[.agg #[.int .i64 kind, .int .u64 lsn, .int .i64 txn, .int .u64 prev, .int .u64 next, .slice iq im ic, .slice sq sn sc, .int .i64 nextTxn, .slice tq tn tc, .slice dq dn dc]] _ _
 go_enter Tryz.func60, Tryz.ntmps60
 go_wp2_with (first
  | ((with_reducible refine wpList_store_f rfl 3 (.tmp 24) (.const (.int .i64 0)) rfl (g := w.heap.size) (o := 0) (v := .int .i64 0) rfl rfl r0.out szI (lt10 l0) rfl ?_)
     intro w1 h9 hg9; have r1 : Hid (RowV 30 w1 w.heap.size [.int .i64 0, .int .u64 lsn, .int .i64 txn, .int .u64 prev, .int .u64 next, .slice iq im ic, .slice sq sn sc, .int .i64 nextTxn, .slice tq tn tc, .slice dq dn dc]) := h9; have g1 := lh (Gr.trans g0.out hg9)
     clear h9 hg9 c0)
  | ((with_reducible refine wpList_store_f rfl 24 (.tmp 25) (.const (.int .u64 0)) rfl (g := w.heap.size) (o := 1) (v := .int .u64 0) rfl rfl r1.out szU (lt10 l1) rfl ?_)
     intro w2 h9 hg9; have r2 : Hid (RowV 30 w2 w.heap.size [.int .i64 0, .int .u64 0, .int .i64 txn, .int .u64 prev, .int .u64 next, .slice iq im ic, .slice sq sn sc, .int .i64 nextTxn, .slice tq tn tc, .slice dq dn dc]) := h9; have g2 := lh (Gr.trans g1.out hg9)
     clear h9 hg9)
  | ((with_reducible refine wpList_store_f rfl 3 (.tmp 26) (.const (.int .i64 0)) rfl (g := w.heap.size) (o := 2) (v := .int .i64 0) rfl rfl r2.out szI (lt10 l2) rfl ?_)
     intro w3 h9 hg9; have r3 : Hid (RowV 30 w3 w.heap.size [.int .i64 0, .int .u64 0, .int .i64 0, .int .u64 prev, .int .u64 next, .slice iq im ic, .slice sq sn sc, .int .i64 nextTxn, .slice tq tn tc, .slice dq dn dc]) := h9; have g3 := lh (Gr.trans g2.out hg9)
     clear h9 hg9)
  | ((with_reducible refine wpList_store_f rfl 24 (.tmp 27) (.const (.int .u64 0)) rfl (g := w.heap.size) (o := 3) (v := .int .u64 0) rfl rfl r3.out szU (lt10 l3) rfl ?_)
     intro w4 h9 hg9; have r4 : Hid (RowV 30 w4 w.heap.size [.int .i64 0, .int .u64 0, .int .i64 0, .int .u64 0, .int .u64 next, .slice iq im ic, .slice sq sn sc, .int .i64 nextTxn, .slice tq tn tc, .slice dq dn dc]) := h9; have g4 := lh (Gr.trans g3.out hg9)
     clear h9 hg9)
  | (with_reducible refine wpList_load_at rfl 30 (.tmp 1) rfl Tryz.underlying30 rfl (vs := [.int .i64 0, .int .u64 0, .int .i64 0, .int .u64 0, .int .u64 next, .slice iq im ic, .slice sq sn sc, .int .i64 nextTxn, .slice tq tn tc, .slice dq dn dc]) (sizeRec ⟨0, 0, 0, 0, next, iq, im, ic, sq, sn, sc, nextTxn, tq, tn, tc, dq, dn, dc⟩) rfl r4.out.boxed.all ?_)
  | ((with_reducible refine wpList_store_at rfl 30 (.tmp 2) (.tmp 28) rfl (o := 0) (vs := [.int .i64 0, .int .u64 0, .int .i64 0, .int .u64 0, .int .u64 next, .slice iq im ic, .slice sq sn sc, .int .i64 nextTxn, .slice tq tn tc, .slice dq dn dc]) rfl rfl (q0.out.gr g4.out (by omega)) (sizeRec ⟨0, 0, 0, 0, next, iq, im, ic, sq, sn, sc, nextTxn, tq, tn, tc, dq, dn, dc⟩) (Nat.le_refl _) (RecV.one ⟨0, 0, 0, 0, next, iq, im, ic, sq, sn, sc, nextTxn, tq, tn, tc, dq, dn, dc⟩) ?_)
     intro wz h9 hg9; have rz : Hid (RowV 30 wz (w.heap.size + 1) [.int .i64 0, .int .u64 0, .int .i64 0, .int .u64 0, .int .u64 next, .slice iq im ic, .slice sq sn sc, .int .i64 nextTxn, .slice tq tn tc, .slice dq dn dc]) := h9; have gz := lh hg9
     clear h9 hg9))
 have m0 := rz.out.cell 0; have m1 := rz.out.cell 1; have m2 := rz.out.cell 2; have m3 := rz.out.cell 3; have m4 := rz.out.cell 4; have m5 := rz.out.cell 5; have m6 := rz.out.cell 6; have m7 := rz.out.cell 7; have m8 := rz.out.cell 8; have m9 := rz.out.cell 9; refine bodyPost_ret (v := .agg #[.int .i64 0, .int .u64 0, .int .i64 0, .int .u64 0, .int .u64 next, .slice iq im ic, .slice sq sn sc, .int .i64 nextTxn, .slice tq tn tc, .slice dq dn dc]) (by simp [results, Tryz.results60, go_sem, m0, m1, m2, m3, m4, m5, m6, m7, m8, m9]) rfl ?_; have hb := Gr.below gz.out (Gr.below g4.out hbx.out.1 (Nat.le_refl _)) (by omega); have ho := hr.out.below hb (Nat.le_refl _); have hoth : othersD r = ⟨0, 0, 0, 0, r.next, r.images, r.steps, r.nextTxn, r.txns, r.dirty⟩ := hr2.out; exact ⟨⟨0, 0, 0, 0, next, iq, im, ic, sq, sn, sc, nextTxn, tq, tn, tc, dq, dn, dc⟩, V, rfl, by rw [hoth]; exact ⟨rfl, rfl, rfl, rfl, ho.next, ho.nextTxn, ⟨i64_zero, u64_zero, i64_zero, u64_zero, ho.ints.2.2.2.2.1, ho.ints.2.2.2.2.2⟩, ho.images, ho.steps, ho.txns, ho.dirty, ho.sok, ho.tok, ho.dok⟩, hb⟩
theorem others_any (v : RecV) (V : List ImgV) (r : RecD) (w : World) (h : v.On w V r) :
 Calls Tryz.prog 60 #[v.val] w (OthersPost r w) := by
 obtain ⟨kind, lsn, txn, prev, next, iq, im, ic, sq, sn, sc, nextTxn, tq, tn, tc, dq, dn, dc⟩ := v
 by_cases h2 : kind = 2
 · subst h2; exact others2 _ _ _ _ _ _ _ _ _ _ _ _ _ _ _ _ _ V r w h
 by_cases h3 : kind = 3
 · subst h3; exact others3 _ _ _ _ _ _ _ _ _ _ _ _ _ _ _ _ _ V r w h
 by_cases h4 : kind = 4
 · subst h4; exact others4 _ _ _ _ _ _ _ _ _ _ _ _ _ _ _ _ _ V r w h
 by_cases h5 : kind = 5
 · subst h5; exact others5 _ _ _ _ _ _ _ _ _ _ _ _ _ _ _ _ _ V r w h
 by_cases h9 : kind = 9
 · subst h9; exact others9 _ _ _ _ _ _ _ _ _ _ _ _ _ _ _ _ _ V r w h
 exact othersN _ _ _ _ _ _ _ _ _ _ _ _ _ _ _ _ _ _ V r w h h2 h3 h4 h5 h9
end Go.Proofs.YtocekhckmpkbmaaGreat
