/- Parts of the proof: The writer of record: kinds, laid; The reader of record: its state; single numbers; The reader of record: rows of which just the key stands, a checkpoint's pages and transactions; A region that draws its order, gone through by its branches: which operation comes next. Nothing of a program is claimed here -/
import Derived.Test.YtocekhckmpkbmaaGreatQ16
import Derived.Test.YtocekhckmpkbmaaGreatQ05
import Derived.Test.YtocekhckmpkbmaaGreatQ04
import Derived.Test.YtocekhckmpkbmaaGreatQ13
namespace Go.Proofs.YtocekhckmpkbmaaGreat
open Go.RowKit Go.ChangeMaps
def kindsW (g : Nat) (j : Int) : Option Value := if j = 9 then some (.func (.func 99) #[.pointer (some ⟨g, 0, none⟩)] #[]) else if j = 8 then some (.func (.func 94) #[.pointer (some ⟨g, 0, none⟩)] #[]) else if j = 7 then some (.func (.func 94) #[.pointer (some ⟨g, 0, none⟩)] #[]) else if j = 6 then some (.func (.func 94) #[.pointer (some ⟨g, 0, none⟩)] #[]) else if j = 5 then some (.func (.func 98) #[.pointer (some ⟨g, 0, none⟩)] #[]) else if j = 4 then some (.func (.func 97) #[.pointer (some ⟨g, 0, none⟩)] #[]) else if j = 3 then some (.func (.func 96) #[.pointer (some ⟨g, 0, none⟩)] #[]) else if j = 2 then some (.func (.func 95) #[.pointer (some ⟨g, 0, none⟩)] #[]) else if j = 1 then some (.func (.func 94) #[.pointer (some ⟨g, 0, none⟩)] #[]) else none
def encRest (r : RecD) : List UInt8 :=
 if r.kind = 2 then be 1 (u64 (r.images.length : Int)) ++ encL encImg r.images
 else if r.kind = 3 then be 8 r.next.toNat
 else if r.kind = 4 then be 8 r.next.toNat ++ (be 1 (u64 (r.steps.length : Int)) ++ encL encStep r.steps)
 else if r.kind = 5 then be 8 r.next.toNat ++ (be 1 (u64 (r.images.length : Int)) ++ encL encAft r.images)
 else if r.kind = 9 then be 4 (u64 r.nextTxn) ++ (be 1 (u64 (r.txns.length : Int)) ++ (encL encTxn r.txns ++ (be 1 (u64 (r.dirty.length : Int)) ++ encL encPg r.dirty)))
 else []
def encRec (r : RecD) : List UInt8 := (((be 1 (u64 r.kind) ++ be 8 r.lsn.toNat) ++ be 4 (u64 r.txn)) ++ be 8 r.prev.toNat) ++ encRest r
/-- what can be laid -/
def LayOk (r : RecD) : Prop :=
 if r.kind = 2 then (∀ d ∈ r.images, GoodC d.bef ∧ GoodC d.aft) ∧ r.images.length ≤ 16
 else if r.kind = 4 then (∀ s ∈ r.steps, stpB s = true) ∧ r.steps.length ≤ 2
 else if r.kind = 5 then (∀ d ∈ r.images, GoodC d.aft) ∧ r.images.length ≤ 16
 else if r.kind = 9 then r.txns.length ≤ 8 ∧ r.dirty.length ≤ 64
 else r.kind = 1 ∨ r.kind = 3 ∨ r.kind = 6 ∨ r.kind = 7 ∨ r.kind = 8
def LaidPost (r : RecD) (w : World) (e : Ending) (w' : World) : Prop := ∃ q n c, e = .returned (.slice q n c) ∧ Own w' w.heap.size (.slice q n c) (encRec r) ∧ Below w.heap.size w w' 
set_option maxRecDepth 100000 in
set_option maxHeartbeats 4000000 in
theorem kindsW_any (g : Nat) (w : World) :
 Calls Tryz.prog 69 #[.pointer (some ⟨g, 0, none⟩)] w (fun e w' => ∃ b, e = .returned (.map (some b)) ∧ IMap .i64 w' b 9 (kindsW g) ∧ Below w.heap.size w w') := by
 have hmm := @run_makeMap Tryz.prog
 obtain ⟨W2, hW2⟩ : ∃ W2, w.alloc (.map #[] 0) = W2 := ⟨_, rfl⟩
 have hm0 : Hid (IMap .i64 W2 w.heap.size 0 (fun _ => none)) := by rw [← hW2]; exact IMap.made _ _
 have hb2 : Hid (Below w.heap.size w W2) := by rw [← hW2]; exact (Below.refl _ _).alloc (Nat.le_refl _) _
 have hg0 : Hid (W2.grownBy W2 (some w.heap.size)) := Gr.refl _ _
 go_enter Tryz.func69, Tryz.ntmps69
 go_wp2_with (first
  | ((with_reducible refine wpList_insert_i rfl (.tmp 3) (.const (.int .i64 1)) (.tmp 5) 112 rfl Tryz.underlying112 Tryz.underlying3 rfl rfl rfl hm0.out ?_)
     intro w1 h1 g1
     have hm1 := Lib.hid h1
     have hg1 := Lib.hid (hg0.out.trans g1)
     clear h1 g1)
  | ((with_reducible refine wpList_insert_i rfl (.tmp 3) (.const (.int .i64 2)) (.tmp 7) 112 rfl Tryz.underlying112 Tryz.underlying3 rfl rfl rfl hm1.out ?_)
     intro w2 h2 g2
     have hm2 := Lib.hid h2
     have hg2 := Lib.hid (hg1.out.trans g2)
     clear h2 g2)
  | ((with_reducible refine wpList_insert_i rfl (.tmp 3) (.const (.int .i64 3)) (.tmp 9) 112 rfl Tryz.underlying112 Tryz.underlying3 rfl rfl rfl hm2.out ?_)
     intro w3 h3 g3
     have hm3 := Lib.hid h3
     have hg3 := Lib.hid (hg2.out.trans g3)
     clear h3 g3)
  | ((with_reducible refine wpList_insert_i rfl (.tmp 3) (.const (.int .i64 4)) (.tmp 11) 112 rfl Tryz.underlying112 Tryz.underlying3 rfl rfl rfl hm3.out ?_)
     intro w4 h4 g4
     have hm4 := Lib.hid h4
     have hg4 := Lib.hid (hg3.out.trans g4)
     clear h4 g4)
  | ((with_reducible refine wpList_insert_i rfl (.tmp 3) (.const (.int .i64 5)) (.tmp 13) 112 rfl Tryz.underlying112 Tryz.underlying3 rfl rfl rfl hm4.out ?_)
     intro w5 h5 g5
     have hm5 := Lib.hid h5
     have hg5 := Lib.hid (hg4.out.trans g5)
     clear h5 g5)
  | ((with_reducible refine wpList_insert_i rfl (.tmp 3) (.const (.int .i64 6)) (.tmp 15) 112 rfl Tryz.underlying112 Tryz.underlying3 rfl rfl rfl hm5.out ?_)
     intro w6 h6 g6
     have hm6 := Lib.hid h6
     have hg6 := Lib.hid (hg5.out.trans g6)
     clear h6 g6)
  | ((with_reducible refine wpList_insert_i rfl (.tmp 3) (.const (.int .i64 7)) (.tmp 17) 112 rfl Tryz.underlying112 Tryz.underlying3 rfl rfl rfl hm6.out ?_)
     intro w7 h7 g7
     have hm7 := Lib.hid h7
     have hg7 := Lib.hid (hg6.out.trans g7)
     clear h7 g7)
  | ((with_reducible refine wpList_insert_i rfl (.tmp 3) (.const (.int .i64 8)) (.tmp 19) 112 rfl Tryz.underlying112 Tryz.underlying3 rfl rfl rfl hm7.out ?_)
     intro w8 h8 g8
     have hm8 := Lib.hid h8
     have hg8 := Lib.hid (hg7.out.trans g8)
     clear h8 g8)
  | ((with_reducible refine wpList_insert_i rfl (.tmp 3) (.const (.int .i64 9)) (.tmp 21) 112 rfl Tryz.underlying112 Tryz.underlying3 rfl rfl rfl hm8.out ?_)
     intro w9 h9 g9
     have hm9 := Lib.hid h9
     have hg9 := Lib.hid (hg8.out.trans g9)
     clear h9 g9))
 go_ret
 exact ⟨_, rfl, hm9.out, Gr.below hg9.out hb2.out (Nat.le_refl _)⟩
set_option maxRecDepth 100000 in
set_option maxHeartbeats 8000000 in
theorem laidK (F : Nat) (kind : Int) (lsn txn prev next nextTxn : Int) (iq sq tq dq : Option Addr) (im ic sn sc tn tc dn dc : Nat) (V : List ImgV) (r : RecD) (w : World) (h : RecV.On ⟨kind, lsn, txn, prev, next, iq, im, ic, sq, sn, sc, nextTxn, tq, tn, tc, dq, dn, dc⟩ w V r) (hkF : ∀ g, kindsW g kind = some (.func (.func F) #[.pointer (some ⟨g, 0, none⟩)] #[])) (hcf : ∀ (args : Array Value) (u : World), (callFunc F args).run Tryz.prog u = .ok (.enter F args) u)
 (hF : ∀ (g : Nat) (o : Option Nat) (L : List UInt8) (u : World), w.heap.size + 1 = g → Below w.heap.size w u → Wr u g o L → L.length ≤ 21 → Calls Tryz.prog F #[.pointer (some ⟨g, 0, none⟩), .agg #[.int .i64 kind, .int .u64 lsn, .int .i64 txn, .int .u64 prev, .int .u64 next, .slice iq im ic, .slice sq sn sc, .int .i64 nextTxn, .slice tq tn tc, .slice dq dn dc]] u (fun e u2 => ∃ o9, e = .returned (.tuple #[]) ∧ Wr u2 g o9 (L ++ encRest r) ∧ WStep u u2 g o o9)) :
 Calls Tryz.prog 41 #[.agg #[.int .i64 kind, .int .u64 lsn, .int .i64 txn, .int .u64 prev, .int .u64 next, .slice iq im ic, .slice sq sn sc, .int .i64 nextTxn, .slice tq tn tc, .slice dq dn dc]] w (LaidPost r w) := by
 obtain ⟨W0, hW0⟩ : ∃ W0, w.alloc (.cells #[.int .i64 kind, .int .u64 lsn, .int .i64 txn, .int .u64 prev, .int .u64 next, .slice iq im ic, .slice sq sn sc, .int .i64 nextTxn, .slice tq tn tc, .slice dq dn dc] 30) = W0 := ⟨_, rfl⟩
 have hb0 := Lib.hid (one_box (xs := [.int .i64 kind, .int .u64 lsn, .int .i64 txn, .int .u64 prev, .int .u64 next, .slice iq im ic, .slice sq sn sc, .int .i64 nextTxn, .slice tq tn tc, .slice dq dn dc]) hW0)
 obtain ⟨W, hW⟩ : ∃ W, W0.alloc (.cells #[.slice none 0 0] 109) = W := ⟨_, rfl⟩
 have hb1 := Lib.hid (one_box (xs := [.slice none 0 0]) hW)
 have hg : Hid (W0.heap.size = w.heap.size + 1) := hb0.out.2.2
 obtain ⟨g, hgg⟩ : ∃ g, w.heap.size + 1 = g := ⟨_, rfl⟩
 have hg : Hid (W0.heap.size = g) := by show _ = _; rw [← hgg]; exact hg.out
 have wr0 : Hid (Wr W g none []) := by have h1 := Wr.made hW; rw [hg.out] at h1; exact h1
 have st0 := Lib.hid (WStep.refl W g none)
 have ne := Lib.hid (show w.heap.size ≠ g from by omega)
 have no : Hid ((none : Option Nat) ≠ some w.heap.size) := fun e => by cases e
 have hbb := Lib.hid (hb0.out.1.trans (hb1.out.1.mono hb0.out.1.size))
 have lt := Lib.hid (show w.heap.size < W.heap.size from by have h1 := hb1.out.1.size; have h2 := hg.out; omega)
 have hbx := Lib.hid (hb0.out.2.1.below hb1.out.1 (Nat.le_refl _))
 have ln0 : Hid (([] : List UInt8).length ≤ 0) := Nat.le_refl _
 have v0 := u64_wrap kind
 have v1 := u64_wrap txn
 have hu1 : Hid (U64 lsn) := by have h1 := h.ints.2.1; rw [← h.lsn] at h1; exact h1
 have hu3 : Hid (U64 prev) := by have h1 := h.ints.2.2.2.1; rw [← h.prev] at h1; exact h1
 have hk : Hid (r.kind = kind) := h.kind.symm
 have hsz : Hid (w.heap.size + 1 = g) := hgg
 have hW0s := hg.out
 have z0 : W.cell? ⟨w.heap.size, 0, none⟩ = some (.int .i64 kind) := hbx.out.cell 0 rfl
 have hnb := Lib.hid hb1
 have hon := Lib.hid h
 have hF := Lib.hid hF
 have hd := Lib.hid (fun x o1 (hs : WStep W x g none o1) => hbb.out.trans (hs.below (B := w.heap.size) (by have := lt.out; omega) (by have := hsz.out; omega) (fun k e => by cases e)))
 have hzr : (Tryz.prog.info? 30).map (·.size) = some ([.int .i64 kind, .int .u64 lsn, .int .i64 txn, .int .u64 prev, .int .u64 next, .slice iq im ic, .slice sq sn sc, .int .i64 nextTxn, .slice tq tn tc, .slice dq dn dc] : List Value).length := sizeRec ⟨kind, lsn, txn, prev, next, iq, im, ic, sq, sn, sc, nextTxn, tq, tn, tc, dq, dn, dc⟩
 clear h hgg hb1
 show Calls _ _ #[.agg #[.int .i64 kind, .int .u64 lsn, .int .i64 txn, .int .u64 prev, .int .u64 next, .slice iq im ic, .slice sq sn sc, .int .i64 nextTxn, .slice tq tn tc, .slice dq dn dc]] _ _
 go_enter Tryz.func41, Tryz.ntmps41
 obtain ⟨ub1, hub1⟩ : ∃ y, W.alloc (.cells #[.int .u64 (u64 kind : Int)] 24) = y := ⟨_, rfl⟩
 go_wp2_with fail
 refine (num1 g none ([] : List UInt8) 1 7 rfl (by decide) (u64 kind : Int) (u64_ok kind) W ub1 wr0.out hub1 (by have h1 := ln0.out; omega)).mono ?_
 clear hub1 hW hW0 hW0s z0 v0
 rintro e w1 ⟨o1, rfl, hw, hs⟩
 have wr1 := Lib.hid hw
 have st1 := Lib.hid (st0.out.trans hs)
 have ln1 := Lib.hid (len_app ln0.out (show (be 1 ((u64 kind : Int)).toNat).length ≤ 1 from Nat.le_of_eq (length_be _ _)))
 clear hw hs
 have bx1 := Lib.hid (hbx.out.wstep st1.out lt.out ne.out no.out)
 have z1 : w1.cell? ⟨w.heap.size, 1, none⟩ = some (.int .u64 lsn) := bx1.out.cell 1 rfl
 obtain ⟨ub2, hub2⟩ : ∃ y, w1.alloc (.cells #[.int .u64 lsn] 24) = y := ⟨_, rfl⟩
 go_wp2_with fail
 refine (num1 g o1 (([] : List UInt8) ++ be 1 ((u64 kind : Int)).toNat) 8 0 rfl (by decide) lsn hu1.out w1 ub2 wr1.out hub2 (by have h1 := ln1.out; omega)).mono ?_
 clear hub2 z1
 rintro e w2 ⟨o2, rfl, hw, hs⟩
 have wr2 := Lib.hid hw
 have st2 := Lib.hid (st1.out.trans hs)
 have ln2 := Lib.hid (len_app ln1.out (show (be 8 (lsn).toNat).length ≤ 8 from Nat.le_of_eq (length_be _ _)))
 clear hw hs
 have bx2 := Lib.hid (hbx.out.wstep st2.out lt.out ne.out no.out)
 have z2 : w2.cell? ⟨w.heap.size, 2, none⟩ = some (.int .i64 txn) := bx2.out.cell 2 rfl
 obtain ⟨ub3, hub3⟩ : ∃ y, w2.alloc (.cells #[.int .u64 (u64 txn : Int)] 24) = y := ⟨_, rfl⟩
 go_wp2_with fail
 refine (num1 g o2 ((([] : List UInt8) ++ be 1 ((u64 kind : Int)).toNat) ++ be 8 (lsn).toNat) 4 4 rfl (by decide) (u64 txn : Int) (u64_ok txn) w2 ub3 wr2.out hub3 (by have h1 := ln2.out; omega)).mono ?_
 clear hub3 z2 v1
 rintro e w3 ⟨o3, rfl, hw, hs⟩
 have wr3 := Lib.hid hw
 have st3 := Lib.hid (st2.out.trans hs)
 have ln3 := Lib.hid (len_app ln2.out (show (be 4 ((u64 txn : Int)).toNat).length ≤ 4 from Nat.le_of_eq (length_be _ _)))
 clear hw hs
 have bx3 := Lib.hid (hbx.out.wstep st3.out lt.out ne.out no.out)
 have z3 : w3.cell? ⟨w.heap.size, 3, none⟩ = some (.int .u64 prev) := bx3.out.cell 3 rfl
 obtain ⟨ub4, hub4⟩ : ∃ y, w3.alloc (.cells #[.int .u64 prev] 24) = y := ⟨_, rfl⟩
 go_wp2_with fail
 refine (num1 g o3 (((([] : List UInt8) ++ be 1 ((u64 kind : Int)).toNat) ++ be 8 (lsn).toNat) ++ be 4 ((u64 txn : Int)).toNat) 8 0 rfl (by decide) prev hu3.out w3 ub4 wr3.out hub4 (by have h1 := ln3.out; omega)).mono ?_
 clear hub4 z3
 rintro e w4 ⟨o4, rfl, hw, hs⟩
 have wr4 := Lib.hid hw
 have st4 := Lib.hid (st3.out.trans hs)
 have ln4 := Lib.hid (len_app ln3.out (show (be 8 (prev).toNat).length ≤ 8 from Nat.le_of_eq (length_be _ _)))
 clear hw hs
 have bx4 := Lib.hid (hbx.out.wstep st4.out lt.out ne.out no.out)
 go_wp2_with fail
 have hsub : ∀ {u : World}, Boxed u w.heap.size [.int .i64 kind, .int .u64 lsn, .int .i64 txn, .int .u64 prev, .int .u64 next, .slice iq im ic, .slice sq sn sc, .int .i64 nextTxn, .slice tq tn tc, .slice dq dn dc] → u.cell? ⟨w.heap.size, 0, none⟩ = some (.int .i64 kind) := fun hu => hu.cell 0 rfl
 refine wp_region_held (S := fun u => Boxed u w.heap.size [.int .i64 kind, .int .u64 lsn, .int .i64 txn, .int .u64 prev, .int .u64 next, .slice iq im ic, .slice sq sn sc, .int .i64 nextTxn, .slice tq tn tc, .slice dq dn dc]) (by kernel_rfl) ?_
 have hdr : Below w4.heap.size w4 (World.drew w4) := below_drew w4
 have hX : Boxed (World.drew w4) w.heap.size [.int .i64 kind, .int .u64 lsn, .int .i64 txn, .int .u64 prev, .int .u64 next, .slice iq im ic, .slice sq sn sc, .int .i64 nextTxn, .slice tq tn tc, .slice dq dn dc] := bx4.out.below hdr (Nat.le_refl _)
 have wrd := wr4.out.below hdr
 have std := st4.out.trans (WStep.of_below hdr)
 change wpAnyH _ _ _ _ _ _ _ _ (World.drew w4)
 generalize World.drew w4 = u0 at hX wrd std ⊢
 refine tg 0 28 (.pointer (some ⟨g, 0, none⟩)) hX ?_; go_frame
 refine tg 2 30 (.pointer (some ⟨w.heap.size, 0, none⟩)) hX ?_; go_frame
 refine held_tk (i := 3) (dst := some 31) rfl (v := .int .i64 kind) rfl (.inl ⟨rfl, fun u hu => by have c1 := hsub hu; go_simp⟩) hX ?_; go_frame
 refine held_tk (i := 5) (dst := some 33) rfl (v := .agg #[.int .i64 kind, .int .u64 lsn, .int .i64 txn, .int .u64 prev, .int .u64 next, .slice iq im ic, .slice sq sn sc, .int .i64 nextTxn, .slice tq tn tc, .slice dq dn dc]) rfl (y_load_agg 30 (.tmp 1) rfl rfl rfl (fun u hu => run_loadVar_at Tryz.underlying30 rfl hzr _ hu.all)) hX ?_; go_frame
 refine held_call (i := 1) (dst := some 29) rfl rfl (by kernel_rfl) rfl (by go_simp) (kindsW_any g u0) ?_
 rintro e u1 ⟨mb, rfl, hmap, hbk⟩
 have hX1 : Boxed u1 w.heap.size [.int .i64 kind, .int .u64 lsn, .int .i64 txn, .int .u64 prev, .int .u64 next, .slice iq im ic, .slice sq sn sc, .int .i64 nextTxn, .slice tq tn tc, .slice dq dn dc] := hX.below hbk (Nat.le_refl _)
 refine ⟨_, rfl, hX1, ?_⟩
 go_frame
 have wrk := wrd.below hbk
 have stk := std.trans (WStep.of_below hbk)
 have hzf : (zeroValue 111).run Tryz.prog u1 = .ok (.nilFunc) u1 := by kernel_rfl
 have hlook := run_lookup_i hmap Tryz.underlying112 Tryz.underlying3 kind hzf
 have hlk := hlook.2
 have hkf : (kindsW g kind).getD .nilFunc = (.func (.func F) #[.pointer (some ⟨g, 0, none⟩)] #[]) := by rw [hkF g]; rfl
 rw [hkf] at hlk
 refine held_value (i := 4) (dst := some 32) rfl (v := .func (.func F) #[.pointer (some ⟨g, 0, none⟩)] #[]) (w' := u1) rfl (by kernel_rfl) rfl (by go_simp) hX1 ?_
 go_frame
 have lt1 : w.heap.size < u1.heap.size := by have h1 := hX1.cell 0 rfl; have h2 := cell_in h1; exact h2
 have no4 : o4 ≠ some w.heap.size := fun e => by have h1 := wrk.far _ e; have h2 := hsz.out; omega
 have hub := hd.out u1 _ stk
 refine held_call (i := 6) (dst := some 34) rfl rfl (by kernel_rfl) rfl (by go_simp) (hF.out g o4 ((((([] : List UInt8) ++ be 1 ((u64 kind : Int)).toNat) ++ be 8 (lsn).toNat) ++ be 4 ((u64 txn : Int)).toNat) ++ be 8 (prev).toNat) u1 hsz.out hub wrk (by have h1 := ln4.out; omega)) ?_
 rintro e u2 ⟨o9, rfl, hw9, hs9⟩
 refine ⟨_, rfl, hX1.wstep hs9 lt1 ne.out no4, ?_⟩
 go_frame
 refine wpAnyH_done (by kernel_rfl) ?_ _
 obtain ⟨q, cp, hr9, ho9, _⟩ := hw9
 have hst9 := Lib.hid (stk.trans hs9)
 have e0 := hk.out
 have e1 : r.lsn = lsn := hon.out.lsn.symm
 have e2 : r.txn = txn := hon.out.txn.symm
 have e3 : r.prev = prev := hon.out.prev.symm
 have hen : Hid ((((((([] : List UInt8) ++ be 1 ((u64 kind : Int)).toNat) ++ be 8 (lsn).toNat) ++ be 4 ((u64 txn : Int)).toNat) ++ be 8 (prev).toNat) ++ encRest r) = encRec r) := by
  show _ = _
  unfold encRec
  simp only [e0, e1, e2, e3]
  simp
 clear e0 e1 e2 e3
 obtain ⟨LL, hLL⟩ : ∃ LL, (((((([] : List UInt8) ++ be 1 ((u64 kind : Int)).toNat) ++ be 8 (lsn).toNat) ++ be 4 ((u64 txn : Int)).toNat) ++ be 8 (prev).toNat) ++ encRest r) = LL := ⟨_, rfl⟩
 rw [hLL] at hen
 rw [hLL] at hr9 ho9
 obtain ⟨n9, hn9⟩ : ∃ n9, LL.length = n9 := ⟨_, rfl⟩
 rw [hn9] at hr9 ho9
 have c9 : u2.cell? ⟨g, 0, none⟩ = some (.slice q n9 cp) := hr9.cell 0
 have ho9 := Lib.hid ho9
 clear hkf hr9 hs9 hX hX1 wrd std wrk stk hmap hlook hlk hub hsub hzf hLL hn9 hdr hbk
 go_wp2
 go_ret
 have hfin := hen.out
 subst hfin
 exact ⟨q, _, cp, rfl, ho9.out.mono (by have h2 := hsz.out; omega), hd.out u2 _ hst9.out⟩
set_option maxRecDepth 100000 in
theorem laid_any (v : RecV) (V : List ImgV) (r : RecD) (w : World) (h : v.On w V r) (hlay : LayOk r) (h45 : r.kind = 4 ∨ r.kind = 5) :
 Calls Tryz.prog 41 #[v.val] w (LaidPost r w) := by
 obtain ⟨kind, lsn, txn, prev, next, iq, im, ic, sq, sn, sc, nextTxn, tq, tn, tc, dq, dn, dc⟩ := v
 have hk : r.kind = kind := h.kind.symm
 have hi : r.images.length = im := by have h1 := h.images.on.len; have h2 := h.images.len; simp only at h1; omega
 have hs : r.steps.length = sn := h.steps.len
 have ht : r.txns.length = tn := h.txns.len
 have hd : r.dirty.length = dn := h.dirty.len
 have e4 : r.next = next := h.next.symm
 have e7 : r.nextTxn = nextTxn := h.nextTxn.symm
 have hly := hlay
 unfold LayOk at hly
 by_cases n4 : kind = 4
 · subst n4
   rw [hk] at hly
   simp only [Int.reduceEq, if_true, if_false] at hly
   refine laidK 97 4 lsn txn prev next nextTxn iq sq tq dq im ic sn sc tn tc dn dc V r w h (fun _ => rfl) (fun _ _ => rfl) (fun g o L u hg hub wr hl => ?_)
   have hE : encRest r = (be 8 next.toNat ++ (be 1 (u64 (sn : Int)) ++ encL encStep r.steps)) := by unfold encRest; simp only [hk, hi, hs, ht, hd, e4, e7, Int.reduceEq, if_true, if_false]
   refine (done_wr g o L 4 lsn txn prev next nextTxn iq sq tq dq im ic sn sc tn tc dn dc V r w u h hub (by omega) wr hly.1 (by have h1 := hly.2; omega) (by omega)).mono ?_
   rintro e u2 ⟨o9, rfl, hw9, hs9⟩
   rw [hE]
   exact ⟨o9, rfl, hw9, hs9⟩
 by_cases n5 : kind = 5
 · subst n5
   rw [hk] at hly
   simp only [Int.reduceEq, if_true, if_false] at hly
   refine laidK 98 5 lsn txn prev next nextTxn iq sq tq dq im ic sn sc tn tc dn dc V r w h (fun _ => rfl) (fun _ _ => rfl) (fun g o L u hg hub wr hl => ?_)
   have hE : encRest r = (be 8 next.toNat ++ (be 1 (u64 (im : Int)) ++ encL encAft r.images)) := by unfold encRest; simp only [hk, hi, hs, ht, hd, e4, e7, Int.reduceEq, if_true, if_false]
   refine (undone_wr g o L 5 lsn txn prev next nextTxn iq sq tq dq im ic sn sc tn tc dn dc V r w u h hub (by omega) wr hly.1 (by have h1 := hly.2; omega) (by omega)).mono ?_
   rintro e u2 ⟨o9, rfl, hw9, hs9⟩
   rw [hE]
   exact ⟨o9, rfl, hw9, hs9⟩
 exfalso
 omega
end Go.Proofs.YtocekhckmpkbmaaGreat
namespace Go.Proofs.YtocekhckmpkbmaaGreat
open Go.RowKit
/-- what a reader of records has ahead, what it is stuck with, and whether something was wrong -/
structure RSt where
 s : St
 b : Bool
def RSt.nx (t : RSt) (k : Int) : RSt := ⟨t.s.next k, t.b⟩
def RSt.nm (t : RSt) (k : Int) : Int := t.s.num k
/-- worlds between which just the blocks g, gr and new ones changed -/
structure RStep (w w' : World) (g gr : Nat) : Prop where
 os : w'.os = w.os
 tape : w'.tape = w.tape
 output : w'.output = w.output
 size : w.heap.size ≤ w'.heap.size
 block : ∀ k, k < w.heap.size → k ≠ g → k ≠ gr → w'.heap[k]? = w.heap[k]?
theorem RStep.refl (w : World) (g gr : Nat) : RStep w w g gr := ⟨rfl, rfl, rfl, Nat.le_refl _, fun _ _ _ _ => rfl⟩
theorem RStep.trans {a b c : World} {g gr : Nat} (h : RStep a b g gr) (k : RStep b c g gr) : RStep a c g gr :=
 ⟨k.os.trans h.os, k.tape.trans h.tape, k.output.trans h.output, Nat.le_trans h.size k.size, fun j hj h1 h2 => (k.block j (Nat.lt_of_lt_of_le hj h.size) h1 h2).trans (h.block j hj h1 h2)⟩
theorem RStep.of_below {w w' : World} {g gr : Nat} (h : Below w.heap.size w w') : RStep w w' g gr := ⟨h.os, h.tape, h.output, h.size, fun k hk _ _ => h.block k hk⟩
theorem RStep.of_gr {w w' : World} {g gr : Nat} (h : w.grownBy w' (some gr)) : RStep w w' g gr := ⟨h.os, h.tape, h.output, h.size, fun k hk _ h2 => h.block k hk (by simpa using h2)⟩
theorem RStep.of_g {w w' : World} {g gr : Nat} (h : w.grownBy w' (some g)) : RStep w w' g gr := ⟨h.os, h.tape, h.output, h.size, fun k hk h1 _ => h.block k hk (by simpa using h1)⟩
/-- a block of the call's own changes -/
theorem RStep.own {a b c : World} {g gr h : Nat} (k : RStep a b g gr) (m : b.grownBy c (some h)) (hh : a.heap.size ≤ h) : RStep a c g gr :=
 ⟨m.os.trans k.os, m.tape.trans k.tape, m.output.trans k.output, Nat.le_trans k.size m.size, fun j hj h1 h2 => (m.block j (Nat.lt_of_lt_of_le hj k.size) (fun e => by cases e; omega)).trans (k.block j hj h1 h2)⟩
theorem RStep.below {B : Nat} {w w' : World} {g gr : Nat} (h : RStep w w' g gr) (hB : B ≤ w.heap.size) (hg : B ≤ g) (hr : B ≤ gr) : Below B w w' :=
 ⟨h.os, h.tape, h.output, h.size, fun k hk => h.block k (by omega) (by omega) (by omega)⟩
theorem RStep.row {T : TypeId} {w w' : World} {g gr b : Nat} {cs : List Value} (h : RStep w w' g gr) (hr : RowV T w b cs) (h1 : b ≠ g) (h2 : b ≠ gr) : RowV T w' b cs := hr.block (h.block b hr.lt h1 h2)
/-- The reader at block g reads what the octet's reader at block gr has ahead, of all these bytes, which stand in a slice. -/
structure RRq (w : World) (g gr : Nat) (d : Option Nat) (q : Option Addr) (n c : Nat) (all : List UInt8) (t : RSt) : Prop where
 row : RowV 120 w g [.pointer (some ⟨gr, 0, none⟩), .slice q n c, .bool t.b]
 rd : RdrS w gr d t.s
 held : Lib.HoldsBytes w (.slice q n c) all
 le : n ≤ c
 big : n ≤ 140737488355328
 suf : t.s.l <:+ all
 lt : gr < g
 dg : d ≠ some g
 far : ∀ a, q = some a → all ≠ [] → a.block < gr
def RR (w : World) (g gr : Nat) (d : Option Nat) (all : List UInt8) (t : RSt) : Prop := ∃ q n c, RRq w g gr d q n c all t
theorem holds_kept {w w' : World} {q : Option Addr} {n c g gr : Nat} {all : List UInt8} (h : Lib.HoldsBytes w (.slice q n c) all) (hs : RStep w w' g gr) (hgr : gr < g) (hne : ∀ a, q = some a → all ≠ [] → a.block < gr) : Lib.HoldsBytes w' (.slice q n c) all := by
 obtain ⟨p, cap, he, h1, h2⟩ := h
 refine ⟨p, cap, he, h1, fun a ha i x hx => ?_⟩
 have hc := h2 a ha i x hx
 have hall : all ≠ [] := fun e => by rw [e] at hx; simp at hx
 cases he
 have hb := hne a ha hall
 have hlt := cell_in hc
 have e : (a.add i).block = a.block := by unfold Addr.add; split <;> rfl
 rw [e] at hlt
 rw [World.cell?_of_block (w := w) (by rw [e]; exact hs.block _ hlt (by omega) (by omega))]
 exact hc
theorem RRq.below {w w' : World} {g gr : Nat} {d : Option Nat} {q : Option Addr} {n c : Nat} {all : List UInt8} {t : RSt} (h : RRq w g gr d q n c all t) (hb : Below w.heap.size w w') : RRq w' g gr d q n c all t :=
 ⟨h.row.below hb, h.rd.below hb, holds_kept h.held (RStep.of_below hb) h.lt h.far, h.le, h.big, h.suf, h.lt, h.dg, h.far⟩
theorem RR.below {w w' : World} {g gr : Nat} {d : Option Nat} {all : List UInt8} {t : RSt} (h : RR w g gr d all t) (hb : Below w.heap.size w w') : RR w' g gr d all t := by
 obtain ⟨q, n, c, h⟩ := h; exact ⟨q, n, c, h.below hb⟩
theorem RR.lt {w : World} {g gr : Nat} {d : Option Nat} {all : List UInt8} {t : RSt} (h : RR w g gr d all t) : g < w.heap.size := by obtain ⟨q, n, c, h⟩ := h; exact h.row.lt
theorem RR.ltr {w : World} {g gr : Nat} {d : Option Nat} {all : List UInt8} {t : RSt} (h : RR w g gr d all t) : gr < w.heap.size := by obtain ⟨q, n, c, h⟩ := h; exact h.rd.lt
theorem RR.c0 {w : World} {g gr : Nat} {d : Option Nat} {all : List UInt8} {t : RSt} (h : RR w g gr d all t) : w.cell? ⟨g, 0, none⟩ = some (.pointer (some ⟨gr, 0, none⟩)) := by obtain ⟨q, n, c, h⟩ := h; exact h.row.cell 0
theorem RR.src {w : World} {g gr : Nat} {d : Option Nat} {all : List UInt8} {t : RSt} (h : RR w g gr d all t) : ∀ x, d = some x → x < w.heap.size := by obtain ⟨q, n, c, h⟩ := h; exact h.rd.src
/-- a block that came up later than the reader changes -/
theorem RRq.new {w w' : World} {g gr k : Nat} {d : Option Nat} {q : Option Addr} {n c : Nat} {all : List UInt8} {t : RSt} (h : RRq w g gr d q n c all t) (hg : w.grownBy w' (some k)) (h1k : gr < k) (h2k : k ≠ g) (h3k : d ≠ some k) : RRq w' g gr d q n c all t := by
 refine ⟨h.row.kept hg (Ne.symm h2k), h.rd.keep hg (by omega) h3k, ?_, h.le, h.big, h.suf, h.lt, h.dg, h.far⟩
 obtain ⟨p, cap, he, e1, e2⟩ := h.held
 refine ⟨p, cap, he, e1, fun a ha i x hx => ?_⟩
 have hc := e2 a ha i x hx
 have hall : all ≠ [] := fun e => by rw [e] at hx; simp at hx
 cases he
 have hb := h.far a ha hall
 exact Gr.cell hg (by
  have e : (a.add i).block = a.block := by unfold Addr.add; split <;> rfl
  rw [e]; omega) hc
theorem RR.new {w w' : World} {g gr k : Nat} {d : Option Nat} {all : List UInt8} {t : RSt} (h : RR w g gr d all t) (hg : w.grownBy w' (some k)) (h1k : gr < k) (h2k : k ≠ g) (h3k : d ≠ some k) : RR w' g gr d all t := by
 obtain ⟨q, n, c, h⟩ := h; exact ⟨q, n, c, h.new hg h1k h2k h3k⟩
/-- something is wrong from now on -/
theorem RRq.wrong {w : World} {g gr : Nat} {d : Option Nat} {q : Option Addr} {n c : Nat} {all : List UInt8} {t : RSt} (h : RRq w g gr d q n c all t) : RRq (w.setCell ⟨g, 2, none⟩ (.bool true)) g gr d q n c all ⟨t.s, true⟩ := by
 have hg := setCell_grown w g 2 (.bool true)
 exact ⟨h.row.set 2 (.bool true), h.rd.keep hg (by have := h.lt; omega) h.dg, holds_kept h.held (RStep.of_g hg) h.lt h.far, h.le, h.big, h.suf, h.lt, h.dg, h.far⟩
def RRP (v : Value) (w : World) (g gr : Nat) (d : Option Nat) (all : List UInt8) (t : RSt) (e : Ending) (w' : World) : Prop := e = .returned v ∧ RStep w w' g gr ∧ RR w' g gr d all t
theorem next_suffix (k : Int) (s : St) : (s.next k).l <:+ s.l := by
 show nextL k s.l s.e <:+ s.l
 unfold nextL
 split
 · exact List.drop_suffix _ _
 · exact List.suffix_refl _
/-- the octet's reader has read -/
theorem RR.read {w w' : World} {g gr : Nat} {d : Option Nat} {all : List UInt8} {t : RSt} {k : Int} (h : RR w g gr d all t) (hg : w.grownBy w' (some gr)) (hr : RdrS w' gr d (t.s.next k)) : RR w' g gr d all (t.nx k) := by
 obtain ⟨q, n, c, h⟩ := h
 exact ⟨q, n, c, h.row.kept hg (by have := h.lt; omega), hr, holds_kept h.held (RStep.of_gr hg) h.lt h.far, h.le, h.big, (next_suffix k t.s).trans h.suf, h.lt, h.dg, h.far⟩
theorem rd32 (g : Nat) (d : Option Nat) (s : St) (w : World) (h : RdrS w g d s) : Calls Tryz.prog 75 #[.pointer (some ⟨g, 0, none⟩)] w (RP (.int .u32 (s.num 4)) w g d (s.next 4)) := u32_any g d s.e s.l w h
theorem RR.calls {f : FuncId} {w : World} {g gr : Nat} {d : Option Nat} {all : List UInt8} {t : RSt} {k : Int} {v : Value} {args : Array Value} (h : RR w g gr d all t) (hc : RdrS w gr d t.s → Calls Tryz.prog f args w (RP v w gr d (t.s.next k))) : Calls Tryz.prog f args w (RRP v w g gr d all (t.nx k)) := by
 have h2 := h
 obtain ⟨q, n, c, hq⟩ := h2
 have hr := hq.rd
 refine (hc hr).mono ?_
 rintro e w' ⟨rfl, hg, hr'⟩
 exact ⟨rfl, RStep.of_gr hg, h.read hg hr'⟩
theorem rr8 {w : World} {g gr : Nat} {d : Option Nat} {all : List UInt8} {t : RSt} (h : RR w g gr d all t) : Calls Tryz.prog 73 #[.pointer (some ⟨gr, 0, none⟩)] w (RRP (.int .u8 (t.nm 1)) w g gr d all (t.nx 1)) := h.calls (rd8 gr d t.s w)
theorem rr16 {w : World} {g gr : Nat} {d : Option Nat} {all : List UInt8} {t : RSt} (h : RR w g gr d all t) : Calls Tryz.prog 152 #[.pointer (some ⟨gr, 0, none⟩)] w (RRP (.int .u16 (t.nm 2)) w g gr d all (t.nx 2)) := h.calls (rd16 gr d t.s w)
theorem rr32 {w : World} {g gr : Nat} {d : Option Nat} {all : List UInt8} {t : RSt} (h : RR w g gr d all t) : Calls Tryz.prog 75 #[.pointer (some ⟨gr, 0, none⟩)] w (RRP (.int .u32 (t.nm 4)) w g gr d all (t.nx 4)) := h.calls (rd32 gr d t.s w)
theorem rr64 {w : World} {g gr : Nat} {d : Option Nat} {all : List UInt8} {t : RSt} (h : RR w g gr d all t) : Calls Tryz.prog 74 #[.pointer (some ⟨gr, 0, none⟩)] w (RRP (.int .u64 (t.nm 8)) w g gr d all (t.nx 8)) := h.calls (rd64 gr d t.s w)
theorem nm1 (t : RSt) : 0 ≤ t.nm 1 ∧ t.nm 1 < 256 := numV1 t.s.l t.s.e
theorem nm2 (t : RSt) : 0 ≤ t.nm 2 ∧ t.nm 2 < 65536 := numV2 t.s.l t.s.e
theorem nm4 (t : RSt) : 0 ≤ t.nm 4 ∧ t.nm 4 < 4294967296 := numV4 t.s.l t.s.e
theorem nm8 (t : RSt) : 0 ≤ t.nm 8 ∧ t.nm 8 < 18446744073709551616 := numV_lt 8 t.s.l t.s.e
theorem rrErr {w : World} {g gr : Nat} {d : Option Nat} {all : List UInt8} {t : RSt} (h : RR w g gr d all t) : Calls Tryz.prog 77 #[.pointer (some ⟨gr, 0, none⟩)] w (fun e w' => e = .returned (.int .i64 t.s.e) ∧ w = w') := by
 obtain ⟨q, n, c, hq⟩ := h; have hr := hq.rd; exact rdErr gr d t.s w hr
theorem rrLeft {w : World} {g gr : Nat} {d : Option Nat} {all : List UInt8} {t : RSt} (h : RR w g gr d all t) : Calls Tryz.prog 78 #[.pointer (some ⟨gr, 0, none⟩)] w (fun e w' => e = .returned (.int .i64 (t.s.l.length : Int)) ∧ w = w') := by
 obtain ⟨q, n, c, hq⟩ := h; have hr := hq.rd; exact rdLeft gr d t.s w hr
theorem rrRaw {w : World} {g gr : Nat} {d : Option Nat} {all : List UInt8} {t : RSt} (k : Int) (h : RR w g gr d all t) : Calls Tryz.prog 147 #[.pointer (some ⟨gr, 0, none⟩), .int .i64 k] w (fun e w' => ∃ q n c, e = .returned (.slice q n c) ∧ RStep w w' g gr ∧ RR w' g gr d all (t.nx k)) := by
 have h2 := h
 obtain ⟨q, n, c, hq⟩ := h2
 have hr := hq.rd
 refine (raw_any gr d k t.s.e t.s.l w hr).mono ?_
 rintro e w' ⟨q, c, rfl, _, hg, hr'⟩
 exact ⟨q, _, c, rfl, RStep.of_gr hg, h.read hg hr'⟩
end Go.Proofs.YtocekhckmpkbmaaGreat
namespace Go.Proofs.YtocekhckmpkbmaaGreat
open Go.RowKit
/-- the reader's first cell, and the result's cells at the block that was new -/
structure RdB (w : World) (g gr : Nat) (T : TypeId) (m : Nat) (u : World) : Prop where
 c0 : u.cell? ⟨g, 0, none⟩ = some (.pointer (some ⟨gr, 0, none⟩))
 res : ∃ vs, vs.length = m ∧ RowV T u w.heap.size vs
theorem RdB.below {w u u' : World} {g gr : Nat} {T : TypeId} {m : Nat} (h : RdB w g gr T m u) (hb : Below u.heap.size u u') : RdB w g gr T m u' :=
 ⟨cell_keeps hb (Nat.le_refl _) h.c0, by obtain ⟨vs, h1, h2⟩ := h.res; exact ⟨vs, h1, h2.below hb⟩⟩
theorem RdB.step {w u u' : World} {g gr : Nat} {T : TypeId} {m : Nat} {d : Option Nat} {all : List UInt8} {t : RSt} (h : RdB w g gr T m u) (hr : RR u' g gr d all t) (hs : RStep u u' g gr) (h1 : g < w.heap.size) (h2 : gr < w.heap.size) : RdB w g gr T m u' :=
 ⟨hr.c0, by obtain ⟨vs, a, b⟩ := h.res; exact ⟨vs, a, hs.row b (by omega) (by omega)⟩⟩
theorem one_l {l : List Value} (h : l.all (fun v => v.oneCell') = true) : ∀ v ∈ l, v.oneCell' = true := fun v hv => List.all_eq_true.1 h v hv
set_option maxRecDepth 100000 in
set_option maxHeartbeats 4000000 in
theorem bare_rr {w : World} {g gr : Nat} {d : Option Nat} {all : List UInt8} {t : RSt} (h : RR w g gr d all t) :
 Calls Tryz.prog 140 #[.pointer (some ⟨g, 0, none⟩)] w (RRP (.agg #[.int .i64 (t.nm 1), .int .u16 ((t.nx 1).nm 2), .int .i64 0, .string ⟨#[]⟩]) w g gr d all ((t.nx 1).nx 2)) := by
 obtain ⟨W, hW⟩ : ∃ W, w.alloc (.cells #[.int .i64 0, .int .u16 0, .int .i64 0, .string ⟨#[]⟩] 68) = W := ⟨_, rfl⟩
 have hbW : Below w.heap.size w W := by rw [← hW]; exact (Below.refl _ _).alloc (Nat.le_refl _) _
 have hrow : RowV 68 W w.heap.size [.int .i64 0, .int .u16 0, .int .i64 0, .string ⟨#[]⟩] := by rw [← hW]; exact RowV.made w _
 have hgs := Lib.hid h.lt
 have hgrs := Lib.hid h.ltr
 have hdn : Hid (d ≠ some w.heap.size) := fun e => by have := h.src _ e; omega
 have hrW := Lib.hid (h.below hbW)
 have stW := Lib.hid (RStep.of_below (g := g) (gr := gr) hbW)
 have hSW : Hid (RdB w g gr 68 4 W) := ⟨hrW.out.c0, _, rfl, hrow⟩
 clear h hrow hbW
 go_enter Tryz.func140, Tryz.ntmps140
 go_wp2_with fail
 clear hW
 refine wp_region_held (S := RdB w g gr 68 4) (by kernel_rfl) ?_
 change wpAnyH _ _ _ _ _ _ _ _ (World.drew W)
 have hS0 : RdB w g gr 68 4 (World.drew W) := hSW.out.below (below_drew W)
 have hr0 := hrW.out.below (below_drew W)
 have st0 := stW.out.trans (RStep.of_below (below_drew W))
 generalize World.drew W = u0 at hS0 hr0 st0 ⊢
 refine tg 0 3 (.pointer (some ⟨g, 0, none⟩)) hS0 ?_; go_frame
 refine tg 1 4 (.pointer (some ⟨g, 0, none⟩)) hS0 ?_; go_frame
 refine tg 2 5 (.pointer (some ⟨g, 0, none⟩)) hS0 ?_; go_frame
 refine held_tk (i := 3) (dst := some 6) rfl (v := .pointer (some ⟨gr, 0, none⟩)) rfl (.inl ⟨rfl, fun u hu => by have c0 := hu.c0; go_simp⟩) hS0 ?_; go_frame
 refine tg 6 9 (.pointer (some ⟨g, 0, none⟩)) hS0 ?_; go_frame
 refine tg 7 10 (.pointer (some ⟨g, 0, none⟩)) hS0 ?_; go_frame
 refine tg 8 11 (.pointer (some ⟨g, 0, none⟩)) hS0 ?_; go_frame
 refine held_tk (i := 9) (dst := some 12) rfl (v := .pointer (some ⟨gr, 0, none⟩)) rfl (.inl ⟨rfl, fun u hu => by have c0 := hu.c0; go_simp⟩) hS0 ?_; go_frame
 refine held_call (i := 4) (dst := some 7) rfl rfl (by kernel_rfl) rfl (by go_simp) (rr8 hr0) ?_
 rintro e u1 ⟨rfl, hs1, hr1⟩
 have st1 := st0.trans hs1
 have hS1 : RdB w g gr 68 4 u1 := hS0.step hr1 hs1 hgs.out hgrs.out
 refine ⟨_, rfl, hS1, ?_⟩
 go_frame
 obtain ⟨b0, b1⟩ := nm1 t
 have e1 : IntKind.i64.wrap (t.nm 1) = t.nm 1 := IntWalk.i64_in _ (by omega)
 refine tg 5 8 (.int .i64 (t.nm 1)) hS1 ?_; go_frame
 refine held_call (i := 10) (dst := some 13) rfl rfl (by kernel_rfl) rfl (by go_simp) (rr16 hr1) ?_
 rintro e u2 ⟨rfl, hs2, hr2⟩
 have st2 := st1.trans hs2
 have hS2 : RdB w g gr 68 4 u2 := hS1.step hr2 hs2 hgs.out hgrs.out
 refine ⟨_, rfl, hS2, ?_⟩
 go_frame
 refine held_tk (i := 11) (dst := some 14) rfl (v := .agg #[.int .i64 (t.nm 1), .int .u16 ((t.nx 1).nm 2)]) rfl (.inl ⟨rfl, fun u hu => by go_simp <;> rfl⟩) hS2 ?_; go_frame
 refine held_tk (i := 12) (dst := some 15) rfl (v := .agg #[.int .i64 (t.nm 1), .int .u16 ((t.nx 1).nm 2), .int .i64 0, .string ⟨#[]⟩]) rfl (.inl ⟨rfl, fun u hu => by go_simp <;> rfl⟩) hS2 ?_; go_frame
 obtain ⟨vz, hvl, hvr⟩ := hS2.res
 obtain ⟨w7, hst7, h7, hg7⟩ := run_storeVar_at (P := Tryz.prog) (ty := 68) (o := 0) (vs := [.int .i64 (t.nm 1), .int .u16 ((t.nx 1).nm 2), .int .i64 0, .string ⟨#[]⟩]) hvr (sizeRow _ _ _ _) (by rw [hvl]; exact Nat.le_refl _) (one_l rfl)
 rw [splice_all _ _ (by rw [hvl]; rfl)] at h7
 have hgsz := hgs.out
 have hgrsz := hgrs.out
 have hr7 := hr2.new hg7 hgrsz (by omega) (fun e => hdn.out e)
 have st7 := st2.own hg7 (Nat.le_refl _)
 have hS7 : RdB w g gr 68 4 w7 := ⟨hr7.c0, _, rfl, h7⟩
 refine held_skip (i := 13) (dst := none) (w' := w7) rfl rfl (by kernel_rfl) rfl (run_store_op rfl rfl rfl hst7) hS7 ?_
 go_frame
 refine wpAnyH_done (by kernel_rfl) ?_ _
 have hr7 := Lib.hid hr7
 have st7 := Lib.hid st7
 have m0 : w7.cell? ⟨w.heap.size, 0, none⟩ = some (.int .i64 (t.nm 1)) := h7.cell 0
 have m1 : w7.cell? ⟨w.heap.size, 1, none⟩ = some (.int .u16 ((t.nx 1).nm 2)) := h7.cell 1
 have m2 : w7.cell? ⟨w.heap.size, 2, none⟩ = some (.int .i64 0) := h7.cell 2
 have m3 : w7.cell? ⟨w.heap.size, 3, none⟩ = some (.string ⟨#[]⟩) := h7.cell 3
 clear hst7 h7 hg7 hS7 hvr hS0 hS1 hS2 hr0 hr1 hr2 st0 st1 st2
 go_wp2
 exact bodyPost_ret (v := .agg #[.int .i64 (t.nm 1), .int .u16 ((t.nx 1).nm 2), .int .i64 0, .string ⟨#[]⟩]) (by simp [results, Tryz.results140, go_sem, m0, m1, m2, m3]) rfl ⟨rfl, st7.out, hr7.out⟩
end Go.Proofs.YtocekhckmpkbmaaGreat
namespace Go.Proofs.YtocekhckmpkbmaaGreat
open Go.RowKit
section
variable {P : Program} {ops : Array Oper} {Q : Exit → Act → World → Prop} {md : Region.Mode} {S : World → Prop}
/-- one of two that are ready comes next -/
theorem br_two {i j : Nat} {fuel : Nat} {listed : Array Bool} {a : Act} {w : World} (hr : Region.ready md ops listed = [i, j])
 (hi : wpOp P ops Q i (fun a' w' => S w' ∧ wpAnyH P md ops Q S fuel (listed.setIfInBounds i true) a' w') a w)
 (hj : wpOp P ops Q j (fun a' w' => S w' ∧ wpAnyH P md ops Q S fuel (listed.setIfInBounds j true) a' w') a w) : wpAnyH P md ops Q S (fuel + 1) listed a w := by
 refine wpAnyH_all hr (by simp) (fun k hk => ?_)
 rcases List.mem_cons.1 hk with rfl | hk
 · exact hi
 · rw [List.mem_singleton.1 hk]; exact hj
theorem br_value {i : Nat} {o : Oper} {dst : Option Tmp} (hd : o.dst = dst) {a : Act} {w w' : World} {v : Value} {K : Act → World → Prop} (hi : ops[i]? = some o) (hw : Region.wanted o (yielded ops a.tmps) = true)
 (hrun : (execOp a.eval o).run P w = .ok (.value v) w') (h : K (a.put dst v) w') : wpOp P ops Q i K a w := by
 subst hd
 unfold wpOp
 simp only [hi, hw, if_true]
 refine .inl ?_
 unfold Oper.wp
 rw [hrun, Oper.upon_value]
 exact h
theorem br_call {i : Nat} {o : Oper} {dst : Option Tmp} (hd : o.dst = dst) {a : Act} {w : World} {f : FuncId} {args : Array Value} {R : Ending → World → Prop} {K : Act → World → Prop} (hi : ops[i]? = some o) (hw : Region.wanted o (yielded ops a.tmps) = true)
 (hrun : (execOp a.eval o).run P w = .ok (.enter f args) w) (hc : Calls P f args w R) (h : ∀ e w', R e w' → ∃ v, e = .returned v ∧ K (a.put dst v) w') : wpOp P ops Q i K a w := by
 subst hd
 unfold wpOp
 simp only [hi, hw, if_true]
 refine .inl ?_
 unfold Oper.wp
 rw [hrun, Oper.upon_enter]
 refine hc.mono fun e w' he => ?_
 obtain ⟨v, rfl, h1⟩ := h e w' he
 exact h1
end
end Go.Proofs.YtocekhckmpkbmaaGreat
