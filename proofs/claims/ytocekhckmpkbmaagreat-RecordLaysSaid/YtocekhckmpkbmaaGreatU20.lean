/- The writer of record: steps, and what each Kind has besides. -/
import Derived.Test.YtocekhckmpkbmaaGreatU19
import Derived.Test.YtocekhckmpkbmaaGreatU01
namespace Go.Proofs.YtocekhckmpkbmaaGreat
open Go.RowKit
theorem len_app {a b : List UInt8} {m k : Nat} (h : a.length ≤ m) (hb : b.length ≤ k) : (a ++ b).length ≤ m + k := by rw [List.length_append]; omega
def encImg (d : ImgD) : List UInt8 := be 1 (u64 d.page) ++ (encC d.bef ++ encC d.aft)
def encAft (d : ImgD) : List UInt8 := be 1 (u64 d.page) ++ encC d.aft
def encStep (s : StepD) : List UInt8 := be 1 (u64 s.kind) ++ (if s.kind = 2 then encRow s.row else if s.kind = 3 then encRow s.row else be 1 (u64 s.row.key.t) ++ (be 2 (u64 s.row.key.id) ++ (if s.kind = 1 then be 8 (u64 s.by_) else [])))
def encTxn (t : TxnD) : List UInt8 := be 4 (u64 t.txn) ++ ((be 8 t.first.toNat ++ (be 8 t.last.toNat ++ be 8 t.undo.toNat)) ++ be 1 (u64 t.state))
def encPg (p : PgD) : List UInt8 := be 1 (u64 p.page) ++ be 8 p.rec_.toNat
section
variable {α : Type}
def encL (f : α → List UInt8) (L : List α) : List UInt8 := L.flatMap f
theorem encL_step {f : α → List UInt8} {L : List α} {k : Nat} {r : α} (h : L[k]? = some r) : encL f (L.take (k + 1)) = encL f (L.take k) ++ f r := by
 unfold encL; rw [List.take_add_one, h, List.flatMap_append]; simp
theorem encL_len {f : α → List UInt8} {L : List α} {b : Nat} (h : ∀ x ∈ L, (f x).length ≤ b) : ∀ j, (encL f (L.take j)).length ≤ b * j := by
 intro j
 induction j with
 | zero => simp [encL]
 | succ j ih =>
   cases hx : L[j]? with
   | none => rw [List.take_add_one, hx]; simp only [Option.toList_none, List.append_nil]; rw [Nat.mul_add]; omega
   | some x => rw [encL_step hx, List.length_append, Nat.mul_add]; have := h x (List.mem_of_getElem? hx); omega
end
theorem chk_note {r : RowD} (h : chkRowC r = 0) : r.note.size ≤ 8 := by
 unfold chkRowC at h
 split at h
 · rename_i hh; exact hh.2
 · cases h
set_option maxRecDepth 100000 in
set_option maxHeartbeats 4000000 in
theorem step_wr1 (g : Nat) (o : Option Nat) (l : List UInt8) (t id v by_ : Int) (s : ByteArray) (w : World) (h : Wr w g o l) (hok : RowOk ⟨⟨t, id⟩, v, s⟩) (hgood : chkRowC ⟨⟨t, id⟩, v, s⟩ = 0) (hbig : l.length ≤ 1000000) :
 Calls Tryz.prog 117 #[.pointer (some ⟨g, 0, none⟩), .agg #[.int .i64 1, .int .i64 t, .int .u16 id, .int .i64 v, .string s, .int .i64 by_]] w (WrPost w g o (l ++ encStep ⟨1, ⟨⟨t, id⟩, v, s⟩, by_⟩)) := by
 obtain ⟨W, hW⟩ : ∃ W, w.alloc (.cells #[.int .i64 1, .int .i64 t, .int .u16 id, .int .i64 v, .string s, .int .i64 by_] 70) = W := ⟨_, rfl⟩; have hbx := lh (one_box hW); have wr0 := lh (h.below hbx.out.1); have st0 := lh (WStep.refl W g o); have ne := lh (show w.heap.size ≠ g from by have := h.lt; omega); have no : Hid (o ≠ some w.heap.size) := fun e => by have := h.far _ e; omega
 have lt := lh (show w.heap.size < W.heap.size from by have := hbx.out.2.2; omega); have ln0 := lh hbig; have u1 := u64_wrap 1; have u2 := u64_wrap t; have u3 := u64_wrap id; have u4 := u64_wrap by_; have hok := lh hok; have hgood := lh hgood; have hw0 := lh (WStep.of_below (g := g) (o := o) hbx.out.1); clear h hbig; have z0 := hbx.out.2.1.cell 0 rfl
 go_enter Tryz.func117, Tryz.ntmps117
 obtain ⟨ub1, hub1⟩ : ∃ y, W.alloc (.cells #[.int .u64 (u64 1 : Int)] 24) = y := ⟨_, rfl⟩
 go_wp2_with fail
 refine (num1 g o l 1 7 rfl (by decide) (u64 1 : Int) (u64_ok 1) W ub1 wr0.out hub1 (by have h1 := ln0.out; omega)).mono ?_; clear hub1 hW z0 u1; rintro e w1 ⟨o1, rfl, hw, hs⟩; have wr1 := lh hw; have st1 := lh (st0.out.trans hs); have ln1 := lh (len_app ln0.out (show (be 1 ((u64 1 : Int)).toNat).length ≤ 1 from Nat.le_of_eq (length_be _ _))); clear hw hs; have bx1 := lh (hbx.out.2.1.wstep st1.out lt.out ne.out no.out); have z0 := bx1.out.cell 0 rfl; have z1 := bx1.out.cell 1 rfl; obtain ⟨ub2, hub2⟩ : ∃ y, w1.alloc (.cells #[.int .u64 (u64 t : Int)] 24) = y := ⟨_, rfl⟩
 go_wp2_with fail
 refine (num1 g o1 (l ++ be 1 ((u64 1 : Int)).toNat) 1 7 rfl (by decide) (u64 t : Int) (u64_ok t) w1 ub2 wr1.out hub2 (by have h1 := ln1.out; omega)).mono ?_; clear hub2 z0 z1 u2; rintro e w2 ⟨o2, rfl, hw, hs⟩; have wr2 := lh hw; have st2 := lh (st1.out.trans hs); have ln2 := lh (len_app ln1.out (show (be 1 ((u64 t : Int)).toNat).length ≤ 1 from Nat.le_of_eq (length_be _ _))); clear hw hs; have bx2 := lh (hbx.out.2.1.wstep st2.out lt.out ne.out no.out); have z2 := bx2.out.cell 2 rfl; obtain ⟨ub3, hub3⟩ : ∃ y, w2.alloc (.cells #[.int .u64 (u64 id : Int)] 24) = y := ⟨_, rfl⟩
 go_wp2_with fail
 refine (num1 g o2 ((l ++ be 1 ((u64 1 : Int)).toNat) ++ be 1 ((u64 t : Int)).toNat) 2 6 rfl (by decide) (u64 id : Int) (u64_ok id) w2 ub3 wr2.out hub3 (by have h1 := ln2.out; omega)).mono ?_; clear hub3 z2 u3; rintro e w3 ⟨o3, rfl, hw, hs⟩; have wr3 := lh hw; have st3 := lh (st2.out.trans hs); have ln3 := lh (len_app ln2.out (show (be 2 ((u64 id : Int)).toNat).length ≤ 2 from Nat.le_of_eq (length_be _ _))); clear hw hs; have bx3 := lh (hbx.out.2.1.wstep st3.out lt.out ne.out no.out); have z0 := bx3.out.cell 0 rfl; have z5 := bx3.out.cell 5 rfl; obtain ⟨ub4, hub4⟩ : ∃ y, w3.alloc (.cells #[.int .u64 (u64 by_ : Int)] 24) = y := ⟨_, rfl⟩
 go_wp2_with fail
 refine (num1 g o3 (((l ++ be 1 ((u64 1 : Int)).toNat) ++ be 1 ((u64 t : Int)).toNat) ++ be 2 ((u64 id : Int)).toNat) 8 0 rfl (by decide) (u64 by_ : Int) (u64_ok by_) w3 ub4 wr3.out hub4 (by have h1 := ln3.out; omega)).mono ?_; clear hub4 z0 z5 u4; rintro e w4 ⟨o4, rfl, hw, hs⟩; have wr4 := lh hw; have st4 := lh (st3.out.trans hs); have ln4 := lh (len_app ln3.out (show (be 8 ((u64 by_ : Int)).toNat).length ≤ 8 from Nat.le_of_eq (length_be _ _))); clear hw hs; go_wp2; go_end0; refine ⟨_, rfl, ?_, hw0.out.trans st4.out⟩; have he : l ++ encStep ⟨1, ⟨⟨t, id⟩, v, s⟩, by_⟩ = ((((l ++ be 1 ((u64 1 : Int)).toNat) ++ be 1 ((u64 t : Int)).toNat) ++ be 2 ((u64 id : Int)).toNat) ++ be 8 ((u64 by_ : Int)).toNat) := by simp only [encStep, Int.toNat_natCast, List.append_assoc]; simp
 rw [he]; exact wr4.out
set_option maxRecDepth 100000 in
set_option maxHeartbeats 4000000 in
theorem step_wr2 (g : Nat) (o : Option Nat) (l : List UInt8) (t id v by_ : Int) (s : ByteArray) (w : World) (h : Wr w g o l) (hok : RowOk ⟨⟨t, id⟩, v, s⟩) (hgood : chkRowC ⟨⟨t, id⟩, v, s⟩ = 0) (hbig : l.length ≤ 1000000) :
 Calls Tryz.prog 117 #[.pointer (some ⟨g, 0, none⟩), .agg #[.int .i64 2, .int .i64 t, .int .u16 id, .int .i64 v, .string s, .int .i64 by_]] w (WrPost w g o (l ++ encStep ⟨2, ⟨⟨t, id⟩, v, s⟩, by_⟩)) := by
 obtain ⟨W, hW⟩ : ∃ W, w.alloc (.cells #[.int .i64 2, .int .i64 t, .int .u16 id, .int .i64 v, .string s, .int .i64 by_] 70) = W := ⟨_, rfl⟩; have hbx := lh (one_box hW); have wr0 := lh (h.below hbx.out.1); have st0 := lh (WStep.refl W g o); have ne := lh (show w.heap.size ≠ g from by have := h.lt; omega); have no : Hid (o ≠ some w.heap.size) := fun e => by have := h.far _ e; omega
 have lt := lh (show w.heap.size < W.heap.size from by have := hbx.out.2.2; omega); have ln0 := lh hbig; have u1 := u64_wrap 2; have u2 := u64_wrap t; have u3 := u64_wrap id; have u4 := u64_wrap by_; have hok := lh hok; have hgood := lh hgood; have hw0 := lh (WStep.of_below (g := g) (o := o) hbx.out.1); clear h hbig; have z0 := hbx.out.2.1.cell 0 rfl
 go_enter Tryz.func117, Tryz.ntmps117
 obtain ⟨ub1, hub1⟩ : ∃ y, W.alloc (.cells #[.int .u64 (u64 2 : Int)] 24) = y := ⟨_, rfl⟩
 go_wp2_with fail
 refine (num1 g o l 1 7 rfl (by decide) (u64 2 : Int) (u64_ok 2) W ub1 wr0.out hub1 (by have h1 := ln0.out; omega)).mono ?_; clear hub1 hW z0 u1; rintro e w1 ⟨o1, rfl, hw, hs⟩; have wr1 := lh hw; have st1 := lh (st0.out.trans hs); have ln1 := lh (len_app ln0.out (show (be 1 ((u64 2 : Int)).toNat).length ≤ 1 from Nat.le_of_eq (length_be _ _))); clear hw hs; have bx1 := lh (hbx.out.2.1.wstep st1.out lt.out ne.out no.out); have z0 := bx1.out.cell 0 rfl; have hz := sizeRow t id v s
 have f1 := lh (Boxed.part bx1.out (o := 1) (ys := [.int .i64 t, .int .u16 id, .int .i64 v, .string s]) (fun j' x hj => by
  match j', hj with
  | 0, hj => exact hj
  | 1, hj => exact hj
  | 2, hj => exact hj
  | 3, hj => exact hj
  | j' + 4, hj => simp at hj))
 go_wp2_with (first
  | (with_reducible refine wpList_load_at rfl 68 (.tmp 18) rfl Tryz.underlying68 rfl hz rfl f1.out ?_))
 clear z0 f1; refine (row_any t id v s w1 hok.out).mono ?_; rintro e w2 ⟨q, n, cp, er, rfl, hor, hb1⟩; rcases hor with ⟨rfl, _, hown⟩ | ⟨_, hb, _⟩
 rotate_left
 · rw [hgood.out] at hb; cases hb
 have hown := lh hown; obtain ⟨q0, c0, hr, ho, hqo⟩ := wr1.out.below hb1; have sb := lh (st1.out.trans (WStep.of_below hb1)); have hl1 := ln1.out; obtain ⟨l1, hl1e⟩ : ∃ l1, (l ++ be 1 ((u64 2 : Int)).toNat) = l1 := ⟨_, rfl⟩; rw [hl1e] at hr ho hl1; obtain ⟨L, hL⟩ : ∃ L, l1.length = L := ⟨_, rfl⟩; have hl2 := hr; have ho2 := ho; rw [hL] at hl2 ho2 hl1; have hr := lh hr; have ho := lh ho; have hqo := lh hqo; have ho2 := lh ho2; have hl1 := lh hl1; have hL := lh hL; have hl1e := lh hl1e; have hnb : Hid (n ≤ 20) := by show n ≤ 20; have h1 := holds_len hown.out.holds.1; rw [encRow_len] at h1; have h2 := chk_note hgood.out; simp only at h1 h2; omega
 have e1 := hl2.cell 0; have hl2 := lh hl2; have hgs : Hid (g + 1 ≤ w2.heap.size) := hl2.out.lt; clear hb1
 go_wp2_with (first
  | (at_builtin
     refine wpList_append_at rfl (.tmp 27) (.tmp 28) rfl rfl rfl ho2.out hown.out.holds.1 (by have h1 := hl1.out; have h2 := hnb.out; omega) hgs.out ?_; intro q4 c4 w4 h4 hg4 hat; have h4 := lh h4; have hat := lh hat; have hk := wr_far ho2.out hl2.out.lt hg4; have e4 := (hl2.out.block hk).cell 0; have f4 : w4.frozen? ⟨g, 0, none⟩ = false := (hl2.out.block hk).free 0; have hg4 := lh hg4
     clear hk))
 go_end0; have hlen := holds_len hown.out.holds.1; have hLe := hL.out; subst hLe; obtain ⟨a1, a2⟩ := wr_app hr.out ho.out hlen.symm h4.out hg4.out hat.out rfl; rw [hqo.out] at a2; refine ⟨_, rfl, ?_, hw0.out.trans (sb.out.trans a2)⟩; have he : l ++ encStep ⟨2, ⟨⟨t, id⟩, v, s⟩, by_⟩ = l1 ++ encRow ⟨⟨t, id⟩, v, s⟩ := by rw [← hl1e.out, List.append_assoc]; rfl
 rw [he]; exact a1
set_option maxRecDepth 100000 in
set_option maxHeartbeats 4000000 in
theorem step_wr3 (g : Nat) (o : Option Nat) (l : List UInt8) (t id v by_ : Int) (s : ByteArray) (w : World) (h : Wr w g o l) (hok : RowOk ⟨⟨t, id⟩, v, s⟩) (hgood : chkRowC ⟨⟨t, id⟩, v, s⟩ = 0) (hbig : l.length ≤ 1000000) :
 Calls Tryz.prog 117 #[.pointer (some ⟨g, 0, none⟩), .agg #[.int .i64 3, .int .i64 t, .int .u16 id, .int .i64 v, .string s, .int .i64 by_]] w (WrPost w g o (l ++ encStep ⟨3, ⟨⟨t, id⟩, v, s⟩, by_⟩)) := by
 obtain ⟨W, hW⟩ : ∃ W, w.alloc (.cells #[.int .i64 3, .int .i64 t, .int .u16 id, .int .i64 v, .string s, .int .i64 by_] 70) = W := ⟨_, rfl⟩; have hbx := lh (one_box hW); have wr0 := lh (h.below hbx.out.1); have st0 := lh (WStep.refl W g o); have ne := lh (show w.heap.size ≠ g from by have := h.lt; omega); have no : Hid (o ≠ some w.heap.size) := fun e => by have := h.far _ e; omega
 have lt := lh (show w.heap.size < W.heap.size from by have := hbx.out.2.2; omega); have ln0 := lh hbig; have u1 := u64_wrap 3; have u2 := u64_wrap t; have u3 := u64_wrap id; have u4 := u64_wrap by_; have hok := lh hok; have hgood := lh hgood; have hw0 := lh (WStep.of_below (g := g) (o := o) hbx.out.1); clear h hbig; have z0 := hbx.out.2.1.cell 0 rfl
 go_enter Tryz.func117, Tryz.ntmps117
 obtain ⟨ub1, hub1⟩ : ∃ y, W.alloc (.cells #[.int .u64 (u64 3 : Int)] 24) = y := ⟨_, rfl⟩
 go_wp2_with fail
 refine (num1 g o l 1 7 rfl (by decide) (u64 3 : Int) (u64_ok 3) W ub1 wr0.out hub1 (by have h1 := ln0.out; omega)).mono ?_; clear hub1 hW z0 u1; rintro e w1 ⟨o1, rfl, hw, hs⟩; have wr1 := lh hw; have st1 := lh (st0.out.trans hs); have ln1 := lh (len_app ln0.out (show (be 1 ((u64 3 : Int)).toNat).length ≤ 1 from Nat.le_of_eq (length_be _ _))); clear hw hs; have bx1 := lh (hbx.out.2.1.wstep st1.out lt.out ne.out no.out); have z0 := bx1.out.cell 0 rfl; have hz := sizeRow t id v s
 have f1 := lh (Boxed.part bx1.out (o := 1) (ys := [.int .i64 t, .int .u16 id, .int .i64 v, .string s]) (fun j' x hj => by
  match j', hj with
  | 0, hj => exact hj
  | 1, hj => exact hj
  | 2, hj => exact hj
  | 3, hj => exact hj
  | j' + 4, hj => simp at hj))
 go_wp2_with (first
  | (with_reducible refine wpList_load_at rfl 68 (.tmp 18) rfl Tryz.underlying68 rfl hz rfl f1.out ?_))
 clear z0 f1; refine (row_any t id v s w1 hok.out).mono ?_; rintro e w2 ⟨q, n, cp, er, rfl, hor, hb1⟩; rcases hor with ⟨rfl, _, hown⟩ | ⟨_, hb, _⟩
 rotate_left
 · rw [hgood.out] at hb; cases hb
 have hown := lh hown; obtain ⟨q0, c0, hr, ho, hqo⟩ := wr1.out.below hb1; have sb := lh (st1.out.trans (WStep.of_below hb1)); have hl1 := ln1.out; obtain ⟨l1, hl1e⟩ : ∃ l1, (l ++ be 1 ((u64 3 : Int)).toNat) = l1 := ⟨_, rfl⟩; rw [hl1e] at hr ho hl1; obtain ⟨L, hL⟩ : ∃ L, l1.length = L := ⟨_, rfl⟩; have hl2 := hr; have ho2 := ho; rw [hL] at hl2 ho2 hl1; have hr := lh hr; have ho := lh ho; have hqo := lh hqo; have ho2 := lh ho2; have hl1 := lh hl1; have hL := lh hL; have hl1e := lh hl1e; have hnb : Hid (n ≤ 20) := by show n ≤ 20; have h1 := holds_len hown.out.holds.1; rw [encRow_len] at h1; have h2 := chk_note hgood.out; simp only at h1 h2; omega
 have e1 := hl2.cell 0; have hl2 := lh hl2; have hgs : Hid (g + 1 ≤ w2.heap.size) := hl2.out.lt; clear hb1
 go_wp2_with (first
  | (at_builtin
     refine wpList_append_at rfl (.tmp 27) (.tmp 28) rfl rfl rfl ho2.out hown.out.holds.1 (by have h1 := hl1.out; have h2 := hnb.out; omega) hgs.out ?_; intro q4 c4 w4 h4 hg4 hat; have h4 := lh h4; have hat := lh hat; have hk := wr_far ho2.out hl2.out.lt hg4; have e4 := (hl2.out.block hk).cell 0; have f4 : w4.frozen? ⟨g, 0, none⟩ = false := (hl2.out.block hk).free 0; have hg4 := lh hg4
     clear hk))
 go_end0; have hlen := holds_len hown.out.holds.1; have hLe := hL.out; subst hLe; obtain ⟨a1, a2⟩ := wr_app hr.out ho.out hlen.symm h4.out hg4.out hat.out rfl; rw [hqo.out] at a2; refine ⟨_, rfl, ?_, hw0.out.trans (sb.out.trans a2)⟩; have he : l ++ encStep ⟨3, ⟨⟨t, id⟩, v, s⟩, by_⟩ = l1 ++ encRow ⟨⟨t, id⟩, v, s⟩ := by rw [← hl1e.out, List.append_assoc]; rfl
 rw [he]; exact a1
set_option maxRecDepth 100000 in
set_option maxHeartbeats 4000000 in
theorem step_wr4 (g : Nat) (o : Option Nat) (l : List UInt8) (t id v by_ : Int) (s : ByteArray) (w : World) (h : Wr w g o l) (hok : RowOk ⟨⟨t, id⟩, v, s⟩) (hgood : chkRowC ⟨⟨t, id⟩, v, s⟩ = 0) (hbig : l.length ≤ 1000000) :
 Calls Tryz.prog 117 #[.pointer (some ⟨g, 0, none⟩), .agg #[.int .i64 4, .int .i64 t, .int .u16 id, .int .i64 v, .string s, .int .i64 by_]] w (WrPost w g o (l ++ encStep ⟨4, ⟨⟨t, id⟩, v, s⟩, by_⟩)) := by
 obtain ⟨W, hW⟩ : ∃ W, w.alloc (.cells #[.int .i64 4, .int .i64 t, .int .u16 id, .int .i64 v, .string s, .int .i64 by_] 70) = W := ⟨_, rfl⟩; have hbx := lh (one_box hW); have wr0 := lh (h.below hbx.out.1); have st0 := lh (WStep.refl W g o); have ne := lh (show w.heap.size ≠ g from by have := h.lt; omega); have no : Hid (o ≠ some w.heap.size) := fun e => by have := h.far _ e; omega
 have lt := lh (show w.heap.size < W.heap.size from by have := hbx.out.2.2; omega); have ln0 := lh hbig; have u1 := u64_wrap 4; have u2 := u64_wrap t; have u3 := u64_wrap id; have u4 := u64_wrap by_; have hok := lh hok; have hgood := lh hgood; have hw0 := lh (WStep.of_below (g := g) (o := o) hbx.out.1); clear h hbig; have z0 := hbx.out.2.1.cell 0 rfl
 go_enter Tryz.func117, Tryz.ntmps117
 obtain ⟨ub1, hub1⟩ : ∃ y, W.alloc (.cells #[.int .u64 (u64 4 : Int)] 24) = y := ⟨_, rfl⟩
 go_wp2_with fail
 refine (num1 g o l 1 7 rfl (by decide) (u64 4 : Int) (u64_ok 4) W ub1 wr0.out hub1 (by have h1 := ln0.out; omega)).mono ?_; clear hub1 hW z0 u1; rintro e w1 ⟨o1, rfl, hw, hs⟩; have wr1 := lh hw; have st1 := lh (st0.out.trans hs); have ln1 := lh (len_app ln0.out (show (be 1 ((u64 4 : Int)).toNat).length ≤ 1 from Nat.le_of_eq (length_be _ _))); clear hw hs; have bx1 := lh (hbx.out.2.1.wstep st1.out lt.out ne.out no.out); have z0 := bx1.out.cell 0 rfl; have z1 := bx1.out.cell 1 rfl; obtain ⟨ub2, hub2⟩ : ∃ y, w1.alloc (.cells #[.int .u64 (u64 t : Int)] 24) = y := ⟨_, rfl⟩
 go_wp2_with fail
 refine (num1 g o1 (l ++ be 1 ((u64 4 : Int)).toNat) 1 7 rfl (by decide) (u64 t : Int) (u64_ok t) w1 ub2 wr1.out hub2 (by have h1 := ln1.out; omega)).mono ?_; clear hub2 z0 z1 u2; rintro e w2 ⟨o2, rfl, hw, hs⟩; have wr2 := lh hw; have st2 := lh (st1.out.trans hs); have ln2 := lh (len_app ln1.out (show (be 1 ((u64 t : Int)).toNat).length ≤ 1 from Nat.le_of_eq (length_be _ _))); clear hw hs; have bx2 := lh (hbx.out.2.1.wstep st2.out lt.out ne.out no.out); have z2 := bx2.out.cell 2 rfl; obtain ⟨ub3, hub3⟩ : ∃ y, w2.alloc (.cells #[.int .u64 (u64 id : Int)] 24) = y := ⟨_, rfl⟩
 go_wp2_with fail
 refine (num1 g o2 ((l ++ be 1 ((u64 4 : Int)).toNat) ++ be 1 ((u64 t : Int)).toNat) 2 6 rfl (by decide) (u64 id : Int) (u64_ok id) w2 ub3 wr2.out hub3 (by have h1 := ln2.out; omega)).mono ?_; clear hub3 z2 u3; rintro e w3 ⟨o3, rfl, hw, hs⟩; have wr3 := lh hw; have st3 := lh (st2.out.trans hs); have ln3 := lh (len_app ln2.out (show (be 2 ((u64 id : Int)).toNat).length ≤ 2 from Nat.le_of_eq (length_be _ _))); clear hw hs; have bx3 := lh (hbx.out.2.1.wstep st3.out lt.out ne.out no.out); have z0 := bx3.out.cell 0 rfl; go_wp2; go_end0; refine ⟨_, rfl, ?_, hw0.out.trans st3.out⟩; have he : l ++ encStep ⟨4, ⟨⟨t, id⟩, v, s⟩, by_⟩ = (((l ++ be 1 ((u64 4 : Int)).toNat) ++ be 1 ((u64 t : Int)).toNat) ++ be 2 ((u64 id : Int)).toNat) := by simp only [encStep, Int.toNat_natCast, List.append_assoc]; simp
 rw [he]; exact wr3.out
theorem stp_kind {s : StepD} (h : stpB s = true) : chkRowC s.row = 0 ∧ (s.kind = 1 ∨ s.kind = 2 ∨ s.kind = 3 ∨ s.kind = 4) := by
 unfold stpB at h; rw [Bool.and_eq_true, decide_eq_true_eq] at h; refine ⟨h.1, ?_⟩; have h2 := h.2
 by_cases h1 : s.kind = 1
 · exact .inl h1
 by_cases h3 : s.kind = 2
 · exact .inr (.inl h3)
 by_cases h4 : s.kind = 3
 · exact .inr (.inr (.inl h4))
 by_cases h5 : s.kind = 4
 · exact .inr (.inr (.inr h5))
 rw [if_neg h1, if_neg h3, if_neg h4, if_neg h5] at h2; cases h2
theorem encStep_len {s : StepD} (h : stpB s = true) : (encStep s).length ≤ 21 := by
 have hc := chk_note (stp_kind h).1; unfold encStep
 split
 · rw [List.length_append, length_be, encRow_len]; omega
 split
 · rw [List.length_append, length_be, encRow_len]; omega
 split <;> simp only [List.length_append, length_be, List.length_nil] <;> decide
theorem step_wr (g : Nat) (o : Option Nat) (l : List UInt8) (kd t id v by_ : Int) (s : ByteArray) (w : World) (h : Wr w g o l) (hok : RowOk ⟨⟨t, id⟩, v, s⟩) (hgood : stpB ⟨kd, ⟨⟨t, id⟩, v, s⟩, by_⟩ = true) (hbig : l.length ≤ 1000000) :
 Calls Tryz.prog 117 #[.pointer (some ⟨g, 0, none⟩), .agg #[.int .i64 kd, .int .i64 t, .int .u16 id, .int .i64 v, .string s, .int .i64 by_]] w (WrPost w g o (l ++ encStep ⟨kd, ⟨⟨t, id⟩, v, s⟩, by_⟩)) := by
 obtain ⟨hc, hk⟩ := stp_kind hgood; have hk : kd = 1 ∨ kd = 2 ∨ kd = 3 ∨ kd = 4 := hk; rcases hk with rfl | rfl | rfl | rfl
 · exact step_wr1 g o l t id v by_ s w h hok hc hbig
 · exact step_wr2 g o l t id v by_ s w h hok hc hbig
 · exact step_wr3 g o l t id v by_ s w h hok hc hbig
 · exact step_wr4 g o l t id v by_ s w h hok hc hbig
set_option maxRecDepth 100000 in
set_option maxHeartbeats 8000000 in
theorem change_wr (g : Nat) (o : Option Nat) (l : List UInt8) (kind lsn txn prev next nextTxn : Int) (iq sq tq dq : Option Addr) (im ic sn sc tn tc dn dc : Nat) (V : List ImgV) (r : RecD) (u w : World) (hon : RecV.On ⟨kind, lsn, txn, prev, next, iq, im, ic, sq, sn, sc, nextTxn, tq, tn, tc, dq, dn, dc⟩ u V r) (hub : Below u.heap.size u w) (hug : u.heap.size ≤ g) (h : Wr w g o l) (hgd : ∀ d ∈ r.images, GoodC d.bef ∧ GoodC d.aft) (h16 : im ≤ 16) (hbig : l.length ≤ 1000) :
 Calls Tryz.prog 95 #[.pointer (some ⟨g, 0, none⟩), .agg #[.int .i64 kind, .int .u64 lsn, .int .i64 txn, .int .u64 prev, .int .u64 next, .slice iq im ic, .slice sq sn sc, .int .i64 nextTxn, .slice tq tn tc, .slice dq dn dc]] w (WrPost w g o (l ++ (be 1 (u64 (im : Int)) ++ encL encImg r.images))) := by
 obtain ⟨W, hW⟩ : ∃ W, w.alloc (.cells #[.int .i64 kind, .int .u64 lsn, .int .i64 txn, .int .u64 prev, .int .u64 next, .slice iq im ic, .slice sq sn sc, .int .i64 nextTxn, .slice tq tn tc, .slice dq dn dc] 30) = W := ⟨_, rfl⟩; have hbx := lh (one_box hW); have wr0 := lh (h.below hbx.out.1); have st0 := lh (WStep.refl W g o); have ne := lh (show w.heap.size ≠ g from by have := h.lt; omega); have no : Hid (o ≠ some w.heap.size) := fun e => by have := h.far _ e; omega
 have lt := lh (show w.heap.size < W.heap.size from by have := hbx.out.2.2; omega); have ln0 := lh hbig; have hw0 := lh (WStep.of_below (g := g) (o := o) hbx.out.1); have hsz := lh (show u.heap.size ≤ w.heap.size from hub.size); have hfo := lh (show ∀ k, o = some k → u.heap.size ≤ k from fun k e => by have := h.far k e; omega); have hdat : Hid (∀ x o1, WStep W x g o o1 → Below u.heap.size u x) := fun x o1 hs => (hub.trans (hbx.out.1.mono hub.size)).trans (hs.below (by have := hbx.out.1.size; have := hub.size; omega) hug hfo.out)
 have hon := lh hon; clear h hbig hub hug; have hgd := lh hgd; have h16 := lh h16; have hlen : Hid (r.images.length = im) := by have h1 := hon.out.images.len; have h2 := hon.out.images.on.len; show r.images.length = im; simp only at h2; omega
 have v1 := u64_wrap (im : Int); show Calls _ _ #[.pointer (some ⟨g, 0, none⟩), .agg #[.int .i64 kind, .int .u64 lsn, .int .i64 txn, .int .u64 prev, .int .u64 next, .slice iq im ic, .slice sq sn sc, .int .i64 nextTxn, .slice tq tn tc, .slice dq dn dc]] _ _
 go_enter Tryz.func95, Tryz.ntmps95
 have z5 := hbx.out.2.1.cell 5 rfl; obtain ⟨ub1, hub1⟩ : ∃ y, W.alloc (.cells #[.int .u64 (u64 (im : Int) : Int)] 24) = y := ⟨_, rfl⟩
 go_wp2_with fail
 refine (num1 g o l 1 7 rfl (by decide) (u64 (im : Int) : Int) (u64_ok _) W ub1 wr0.out hub1 (by have h1 := ln0.out; omega)).mono ?_; clear hub1 z5 v1 hW; rintro e w1 ⟨o1, rfl, hw, hs⟩; have wr1 := lh hw; have st1 := lh (st0.out.trans hs); have ln1 := lh (len_app ln0.out (show (be 1 ((u64 (im : Int) : Int)).toNat).length ≤ 1 from Nat.le_of_eq (length_be _ _))); clear hw hs; have bx1 := lh (hbx.out.2.1.wstep st1.out lt.out ne.out no.out); have z5 := bx1.out.cell 5 rfl; have lb16 := lh (encL_len (f := encImg) (L := r.images) (b := 165) (fun d hd => by have h1 := encC_len (hgd.out d hd).1; have h2 := encC_len (hgd.out d hd).2; unfold encImg; rw [List.length_append, List.length_append, length_be]; omega)); have h0 : Hid (∃ o1, Wr w1 g o1 ((l ++ be 1 ((u64 (im : Int) : Int)).toNat) ++ encL encImg (r.images.take 0)) ∧ WStep W w1 g o o1) := ⟨o1, by rw [show encL encImg (r.images.take 0) = [] from rfl, List.append_nil]; exact wr1.out, st1.out⟩
 go_wp2; clear z5
 go_loopw [16] (fun v wr => ∃ j : Nat, j ≤ im ∧ v = .int .i64 j ∧ Hid (∃ o1, Wr wr g o1 ((l ++ be 1 ((u64 (im : Int) : Int)).toNat) ++ encL encImg (r.images.take j)) ∧ WStep W wr g o o1)) (fun v _ => im - (RowKit.intOf v).toNat)
 case atStart => exact ⟨0, Nat.zero_le _, rfl, h0⟩
 case round =>
  obtain ⟨j, hj, rfl, hst⟩ := hrel; clear h0
  by_cases hlt : j < im
  · obtain ⟨ob, hwb, hsb⟩ := hst.out; clear hst; have i0 : (0 : Int) ≤ j := by omega
    have i1 : (j : Int) < im := by omega
    have stl := lh hsb; have wra := lh hwb; have lnl := lh (len_app ln1.out (lb16.out j)); clear hsb hwb; have hd := lh (hdat.out wr ob stl.out); obtain ⟨A, ⟨p, ⟨k1, q1, n1, c1, q2, n2, c2⟩, ⟨k3, q3, n3, c3, q4, n4, c4⟩⟩, d, hqA, hxv, hdx, hond, hcA0⟩ := hon.out.images.at (show j < im from hlt); subst hqA; have hx := lh hdx; have hm := List.mem_of_getElem? hdx; have hgo := lh (hgd.out d hm); have hond := lh hond; have hpg : Hid (p = d.page) := hond.out.page; clear hxv hdx hm
    skip
    have hcA : Hid (∀ j' x, ([.int .i64 p, .int .i64 k1, .slice q1 n1 c1, .slice q2 n2 c2, .int .i64 k3, .slice q3 n3 c3, .slice q4 n4 c4] : List Value)[j']? = some x → wr.cell? ((A.add (j * 7)).add j') = some x) := fun j' x hj => cell_kept hd.out (Nat.le_refl _) (hcA0 j' x hj)
    clear hcA0; have hs : (Tryz.prog.info? 62).map (·.size) = some ([.int .i64 p, .int .i64 k1, .slice q1 n1 c1, .slice q2 n2 c2, .int .i64 k3, .slice q3 n3 c3, .slice q4 n4 c4] : List Value).length := sizeImg ⟨p, ⟨k1, q1, n1, c1, q2, n2, c2⟩, ⟨k3, q3, n3, c3, q4, n4, c4⟩⟩; obtain ⟨we, hwe⟩ : ∃ x, wr.alloc (.cells #[.int .i64 p, .int .i64 k1, .slice q1 n1 c1, .slice q2 n2 c2, .int .i64 k3, .slice q3 n3 c3, .slice q4 n4 c4] 62) = x := ⟨_, rfl⟩; have hbk := lh (one_box hwe); have wrl := lh (wra.out.below hbk.out.1); have stm := lh (stl.out.trans (WStep.of_below hbk.out.1)); have neb := lh (show wr.heap.size ≠ g from by have := wra.out.lt; omega); have nob : Hid (ob ≠ some wr.heap.size) := fun e => by have := wra.out.far _ e; omega
    have ltb := lh (show wr.heap.size < we.heap.size from by have := hbk.out.2.2; omega); have sb0 := lh (WStep.refl we g ob); have v2 := u64_wrap p; have d0 := hbk.out.2.1.cell 0 rfl; obtain ⟨ub2, hub2⟩ : ∃ y, we.alloc (.cells #[.int .u64 (u64 p : Int)] 24) = y := ⟨_, rfl⟩
    go_wp2_with (first
     | (with_reducible refine wpList_load_at rfl 62 (.tmp 18) rfl Tryz.underlying62 rfl hs rfl hcA.out ?_))
    refine (num1 g ob ((l ++ be 1 ((u64 (im : Int) : Int)).toNat) ++ encL encImg (r.images.take j)) 1 7 rfl (by decide) (u64 p : Int) (u64_ok p) we ub2 wrl.out hub2 (by have h1 := lnl.out; have h2 := h16.out; omega)).mono ?_; clear hub2 hwe d0 v2 hcA; rintro e w2 ⟨o2, rfl, hw, hs⟩; have wr2 := lh hw; have st2 := lh (sb0.out.trans hs); have ln2 := lh (len_app lnl.out (show (be 1 ((u64 p : Int)).toNat).length ≤ 1 from Nat.le_of_eq (length_be _ _))); clear hw hs; have bf1 := lh (hbk.out.2.1.wstep st2.out ltb.out neb.out nob.out)
    have f1 := lh (Boxed.part bf1.out (o := 1) (ys := [.int .i64 k1, .slice q1 n1 c1, .slice q2 n2 c2]) (fun j' x hj => by
     match j', hj with
     | 0, hj => exact hj
     | 1, hj => exact hj
     | 2, hj => exact hj
     | j' + 3, hj => simp at hj))
    have zf1 := sizeCont (.int .i64 k1) (.slice q1 n1 c1) (.slice q2 n2 c2)
    go_wp2_with (first
     | (with_reducible refine wpList_load_at rfl 55 (.tmp 27) rfl Tryz.underlying55 rfl zf1 rfl f1.out ?_))
    refine (content_wr g o2 (((l ++ be 1 ((u64 (im : Int) : Int)).toNat) ++ encL encImg (r.images.take j)) ++ be 1 ((u64 p : Int)).toNat) k1 q1 n1 c1 q2 n2 c2 d.bef w2 wr2.out (hond.out.bef.below (hdat.out _ _ (stm.out.trans st2.out)) (Nat.le_refl _)) hgo.out.1 (by have h1 := ln2.out; have h2 := h16.out; omega)).mono ?_; clear f1 bf1 zf1; rintro e w3 ⟨o3, rfl, hw, hs⟩; have wr3 := lh hw; have st3 := lh (st2.out.trans hs); have ln3 := lh (len_app ln2.out (show (encC d.bef).length ≤ 82 from (encC_len hgo.out.1).1)); clear hw hs; have bf3 := lh (hbk.out.2.1.wstep st3.out ltb.out neb.out nob.out)
    have f3 := lh (Boxed.part bf3.out (o := 4) (ys := [.int .i64 k3, .slice q3 n3 c3, .slice q4 n4 c4]) (fun j' x hj => by
     match j', hj with
     | 0, hj => exact hj
     | 1, hj => exact hj
     | 2, hj => exact hj
     | j' + 3, hj => simp at hj))
    have zf3 := sizeCont (.int .i64 k3) (.slice q3 n3 c3) (.slice q4 n4 c4)
    go_wp2_with (first
     | (with_reducible refine wpList_load_at rfl 55 (.tmp 31) rfl Tryz.underlying55 rfl zf3 rfl f3.out ?_))
    refine (content_wr g o3 ((((l ++ be 1 ((u64 (im : Int) : Int)).toNat) ++ encL encImg (r.images.take j)) ++ be 1 ((u64 p : Int)).toNat) ++ encC d.bef) k3 q3 n3 c3 q4 n4 c4 d.aft w3 wr3.out (hond.out.aft.below (hdat.out _ _ (stm.out.trans st3.out)) (Nat.le_refl _)) hgo.out.2 (by have h1 := ln3.out; have h2 := h16.out; omega)).mono ?_; clear f3 bf3 zf3; rintro e w4 ⟨o4, rfl, hw, hs⟩; have wr4 := lh hw; have st4 := lh (st3.out.trans hs); have ln4 := lh (len_app ln3.out (show (encC d.aft).length ≤ 82 from (encC_len hgo.out.2).1)); clear hw hs; have stz := lh (stm.out.trans st4.out); have wrz : Hid (Wr w4 g o4 (((((l ++ be 1 ((u64 (im : Int) : Int)).toNat) ++ encL encImg (r.images.take j)) ++ be 1 ((u64 d.page : Int)).toNat) ++ encC d.bef) ++ encC d.aft)) := by show Wr _ _ _ _; rw [← hpg.out]; exact wr4.out
    go_wp2
    go_roundw
    case rel => exact ⟨j + 1, by omega, by go_num, _, by rw [encL_step hx.out, encImg]; simpa only [List.append_assoc, Int.toNat_natCast] using wrz.out, stz.out⟩
    case measure => simp [RowKit.intOf]; omega
  · obtain rfl : im = j := by omega
    have hall : r.images.take im = r.images := List.take_of_length_le (by have h1 := hlen.out; omega); rw [hall] at hst; clear hall hlt hj; obtain ⟨oz16, hwz, hsz'⟩ := hst.out; have wz16 := lh hwz; have sz16 := lh hsz'; clear hst hwz hsz'; have lz16 := lh (len_app ln1.out (show (encL encImg r.images).length ≤ 165 * im from by have h1 := lb16.out im; rwa [List.take_of_length_le (by have h1 := hlen.out; omega)] at h1)); go_wp2; go_end0; refine ⟨_, rfl, ?_, hw0.out.trans sz16.out⟩; have he : l ++ (be 1 (u64 (im : Int)) ++ encL encImg r.images) = ((l ++ be 1 ((u64 (im : Int) : Int)).toNat) ++ encL encImg r.images) := by simp only [Int.toNat_natCast, List.append_assoc]
    rw [he]; exact wz16.out
set_option maxRecDepth 100000 in
set_option maxHeartbeats 8000000 in
theorem undone_wr (g : Nat) (o : Option Nat) (l : List UInt8) (kind lsn txn prev next nextTxn : Int) (iq sq tq dq : Option Addr) (im ic sn sc tn tc dn dc : Nat) (V : List ImgV) (r : RecD) (u w : World) (hon : RecV.On ⟨kind, lsn, txn, prev, next, iq, im, ic, sq, sn, sc, nextTxn, tq, tn, tc, dq, dn, dc⟩ u V r) (hub : Below u.heap.size u w) (hug : u.heap.size ≤ g) (h : Wr w g o l) (hgd : ∀ d ∈ r.images, GoodC d.aft) (h16 : im ≤ 16) (hbig : l.length ≤ 1000) :
 Calls Tryz.prog 98 #[.pointer (some ⟨g, 0, none⟩), .agg #[.int .i64 kind, .int .u64 lsn, .int .i64 txn, .int .u64 prev, .int .u64 next, .slice iq im ic, .slice sq sn sc, .int .i64 nextTxn, .slice tq tn tc, .slice dq dn dc]] w (WrPost w g o (l ++ (be 8 next.toNat ++ (be 1 (u64 (im : Int)) ++ encL encAft r.images)))) := by
 obtain ⟨W, hW⟩ : ∃ W, w.alloc (.cells #[.int .i64 kind, .int .u64 lsn, .int .i64 txn, .int .u64 prev, .int .u64 next, .slice iq im ic, .slice sq sn sc, .int .i64 nextTxn, .slice tq tn tc, .slice dq dn dc] 30) = W := ⟨_, rfl⟩; have hbx := lh (one_box hW); have wr0 := lh (h.below hbx.out.1); have st0 := lh (WStep.refl W g o); have ne := lh (show w.heap.size ≠ g from by have := h.lt; omega); have no : Hid (o ≠ some w.heap.size) := fun e => by have := h.far _ e; omega
 have lt := lh (show w.heap.size < W.heap.size from by have := hbx.out.2.2; omega); have ln0 := lh hbig; have hw0 := lh (WStep.of_below (g := g) (o := o) hbx.out.1); have hsz := lh (show u.heap.size ≤ w.heap.size from hub.size); have hfo := lh (show ∀ k, o = some k → u.heap.size ≤ k from fun k e => by have := h.far k e; omega); have hdat : Hid (∀ x o1, WStep W x g o o1 → Below u.heap.size u x) := fun x o1 hs => (hub.trans (hbx.out.1.mono hub.size)).trans (hs.below (by have := hbx.out.1.size; have := hub.size; omega) hug hfo.out)
 have hon := lh hon; clear h hbig hub hug; have hgd := lh hgd; have h16 := lh h16; have hlen : Hid (r.images.length = im) := by have h1 := hon.out.images.len; have h2 := hon.out.images.on.len; show r.images.length = im; simp only at h2; omega
 have v1 := u64_wrap (im : Int); have hux : Hid (U64 next) := by have h1 := hon.out.ints.2.2.2.2.1; rw [← hon.out.next] at h1; exact h1
 show Calls _ _ #[.pointer (some ⟨g, 0, none⟩), .agg #[.int .i64 kind, .int .u64 lsn, .int .i64 txn, .int .u64 prev, .int .u64 next, .slice iq im ic, .slice sq sn sc, .int .i64 nextTxn, .slice tq tn tc, .slice dq dn dc]] _ _
 go_enter Tryz.func98, Tryz.ntmps98
 have z4 := hbx.out.2.1.cell 4 rfl; obtain ⟨ub1, hub1⟩ : ∃ y, W.alloc (.cells #[.int .u64 next] 24) = y := ⟨_, rfl⟩
 go_wp2_with fail
 refine (num1 g o l 8 0 rfl (by decide) next hux.out W ub1 wr0.out hub1 (by have h1 := ln0.out; omega)).mono ?_; clear hub1 hW z4; rintro e w1 ⟨o1, rfl, hw, hs⟩; have wr1 := lh hw; have st1 := lh (st0.out.trans hs); have ln1 := lh (len_app ln0.out (show (be 8 (next).toNat).length ≤ 8 from Nat.le_of_eq (length_be _ _))); clear hw hs; have bx1 := lh (hbx.out.2.1.wstep st1.out lt.out ne.out no.out); have z5 := bx1.out.cell 5 rfl; obtain ⟨ub2, hub2⟩ : ∃ y, w1.alloc (.cells #[.int .u64 (u64 (im : Int) : Int)] 24) = y := ⟨_, rfl⟩
 go_wp2_with fail
 refine (num1 g o1 (l ++ be 8 (next).toNat) 1 7 rfl (by decide) (u64 (im : Int) : Int) (u64_ok _) w1 ub2 wr1.out hub2 (by have h1 := ln1.out; omega)).mono ?_; clear hub2 z5 v1; rintro e w2 ⟨o2, rfl, hw, hs⟩; have wr2 := lh hw; have st2 := lh (st1.out.trans hs); have ln2 := lh (len_app ln1.out (show (be 1 ((u64 (im : Int) : Int)).toNat).length ≤ 1 from Nat.le_of_eq (length_be _ _))); clear hw hs; have bx2 := lh (hbx.out.2.1.wstep st2.out lt.out ne.out no.out); have z5 := bx2.out.cell 5 rfl; have lb21 := lh (encL_len (f := encAft) (L := r.images) (b := 83) (fun d hd => by have h1 := encC_len (hgd.out d hd); unfold encAft; rw [List.length_append, length_be]; omega)); have h0 : Hid (∃ o1, Wr w2 g o1 (((l ++ be 8 (next).toNat) ++ be 1 ((u64 (im : Int) : Int)).toNat) ++ encL encAft (r.images.take 0)) ∧ WStep W w2 g o o1) := ⟨o2, by rw [show encL encAft (r.images.take 0) = [] from rfl, List.append_nil]; exact wr2.out, st2.out⟩
 go_wp2; clear z5
 go_loopw [21] (fun v wr => ∃ j : Nat, j ≤ im ∧ v = .int .i64 j ∧ Hid (∃ o1, Wr wr g o1 (((l ++ be 8 (next).toNat) ++ be 1 ((u64 (im : Int) : Int)).toNat) ++ encL encAft (r.images.take j)) ∧ WStep W wr g o o1)) (fun v _ => im - (RowKit.intOf v).toNat)
 case atStart => exact ⟨0, Nat.zero_le _, rfl, h0⟩
 case round =>
  obtain ⟨j, hj, rfl, hst⟩ := hrel; clear h0
  by_cases hlt : j < im
  · obtain ⟨ob, hwb, hsb⟩ := hst.out; clear hst; have i0 : (0 : Int) ≤ j := by omega
    have i1 : (j : Int) < im := by omega
    have stl := lh hsb; have wra := lh hwb; have lnl := lh (len_app ln2.out (lb21.out j)); clear hsb hwb; have hd := lh (hdat.out wr ob stl.out); obtain ⟨A, ⟨p, ⟨k1, q1, n1, c1, q2, n2, c2⟩, ⟨k3, q3, n3, c3, q4, n4, c4⟩⟩, d, hqA, hxv, hdx, hond, hcA0⟩ := hon.out.images.at (show j < im from hlt); subst hqA; have hx := lh hdx; have hm := List.mem_of_getElem? hdx; have hgo := lh (hgd.out d hm); have hond := lh hond; have hpg : Hid (p = d.page) := hond.out.page; clear hxv hdx hm
    skip
    have hcA : Hid (∀ j' x, ([.int .i64 p, .int .i64 k1, .slice q1 n1 c1, .slice q2 n2 c2, .int .i64 k3, .slice q3 n3 c3, .slice q4 n4 c4] : List Value)[j']? = some x → wr.cell? ((A.add (j * 7)).add j') = some x) := fun j' x hj => cell_kept hd.out (Nat.le_refl _) (hcA0 j' x hj)
    clear hcA0; have hs : (Tryz.prog.info? 62).map (·.size) = some ([.int .i64 p, .int .i64 k1, .slice q1 n1 c1, .slice q2 n2 c2, .int .i64 k3, .slice q3 n3 c3, .slice q4 n4 c4] : List Value).length := sizeImg ⟨p, ⟨k1, q1, n1, c1, q2, n2, c2⟩, ⟨k3, q3, n3, c3, q4, n4, c4⟩⟩; obtain ⟨we, hwe⟩ : ∃ x, wr.alloc (.cells #[.int .i64 p, .int .i64 k1, .slice q1 n1 c1, .slice q2 n2 c2, .int .i64 k3, .slice q3 n3 c3, .slice q4 n4 c4] 62) = x := ⟨_, rfl⟩; have hbk := lh (one_box hwe); have wrl := lh (wra.out.below hbk.out.1); have stm := lh (stl.out.trans (WStep.of_below hbk.out.1)); have neb := lh (show wr.heap.size ≠ g from by have := wra.out.lt; omega); have nob : Hid (ob ≠ some wr.heap.size) := fun e => by have := wra.out.far _ e; omega
    have ltb := lh (show wr.heap.size < we.heap.size from by have := hbk.out.2.2; omega); have sb0 := lh (WStep.refl we g ob); have v2 := u64_wrap p; have d0 := hbk.out.2.1.cell 0 rfl; obtain ⟨ub3, hub3⟩ : ∃ y, we.alloc (.cells #[.int .u64 (u64 p : Int)] 24) = y := ⟨_, rfl⟩
    go_wp2_with (first
     | (with_reducible refine wpList_load_at rfl 62 (.tmp 23) rfl Tryz.underlying62 rfl hs rfl hcA.out ?_))
    refine (num1 g ob (((l ++ be 8 (next).toNat) ++ be 1 ((u64 (im : Int) : Int)).toNat) ++ encL encAft (r.images.take j)) 1 7 rfl (by decide) (u64 p : Int) (u64_ok p) we ub3 wrl.out hub3 (by have h1 := lnl.out; have h2 := h16.out; omega)).mono ?_; clear hub3 hwe d0 v2 hcA; rintro e w3 ⟨o3, rfl, hw, hs⟩; have wr3 := lh hw; have st3 := lh (sb0.out.trans hs); have ln3 := lh (len_app lnl.out (show (be 1 ((u64 p : Int)).toNat).length ≤ 1 from Nat.le_of_eq (length_be _ _))); clear hw hs; have bf3 := lh (hbk.out.2.1.wstep st3.out ltb.out neb.out nob.out)
    have f3 := lh (Boxed.part bf3.out (o := 4) (ys := [.int .i64 k3, .slice q3 n3 c3, .slice q4 n4 c4]) (fun j' x hj => by
     match j', hj with
     | 0, hj => exact hj
     | 1, hj => exact hj
     | 2, hj => exact hj
     | j' + 3, hj => simp at hj))
    have zf3 := sizeCont (.int .i64 k3) (.slice q3 n3 c3) (.slice q4 n4 c4)
    go_wp2_with (first
     | (with_reducible refine wpList_load_at rfl 55 (.tmp 32) rfl Tryz.underlying55 rfl zf3 rfl f3.out ?_))
    refine (content_wr g o3 ((((l ++ be 8 (next).toNat) ++ be 1 ((u64 (im : Int) : Int)).toNat) ++ encL encAft (r.images.take j)) ++ be 1 ((u64 p : Int)).toNat) k3 q3 n3 c3 q4 n4 c4 d.aft w3 wr3.out (hond.out.aft.below (hdat.out _ _ (stm.out.trans st3.out)) (Nat.le_refl _)) hgo.out (by have h1 := ln3.out; have h2 := h16.out; omega)).mono ?_; clear f3 bf3 zf3; rintro e w4 ⟨o4, rfl, hw, hs⟩; have wr4 := lh hw; have st4 := lh (st3.out.trans hs); have ln4 := lh (len_app ln3.out (show (encC d.aft).length ≤ 82 from (encC_len hgo.out).1)); clear hw hs; have stz := lh (stm.out.trans st4.out); have wrz : Hid (Wr w4 g o4 (((((l ++ be 8 (next).toNat) ++ be 1 ((u64 (im : Int) : Int)).toNat) ++ encL encAft (r.images.take j)) ++ be 1 ((u64 d.page : Int)).toNat) ++ encC d.aft)) := by show Wr _ _ _ _; rw [← hpg.out]; exact wr4.out
    go_wp2
    go_roundw
    case rel => exact ⟨j + 1, by omega, by go_num, _, by rw [encL_step hx.out, encAft]; simpa only [List.append_assoc, Int.toNat_natCast] using wrz.out, stz.out⟩
    case measure => simp [RowKit.intOf]; omega
  · obtain rfl : im = j := by omega
    have hall : r.images.take im = r.images := List.take_of_length_le (by have h1 := hlen.out; omega); rw [hall] at hst; clear hall hlt hj; obtain ⟨oz21, hwz, hsz'⟩ := hst.out; have wz21 := lh hwz; have sz21 := lh hsz'; clear hst hwz hsz'; have lz21 := lh (len_app ln2.out (show (encL encAft r.images).length ≤ 83 * im from by have h1 := lb21.out im; rwa [List.take_of_length_le (by have h1 := hlen.out; omega)] at h1)); go_wp2; go_end0; refine ⟨_, rfl, ?_, hw0.out.trans sz21.out⟩; have he : l ++ (be 8 next.toNat ++ (be 1 (u64 (im : Int)) ++ encL encAft r.images)) = (((l ++ be 8 (next).toNat) ++ be 1 ((u64 (im : Int) : Int)).toNat) ++ encL encAft r.images) := by simp only [Int.toNat_natCast, List.append_assoc]
    rw [he]; exact wz21.out
set_option maxRecDepth 100000 in
set_option maxHeartbeats 8000000 in
theorem nested_wr (g : Nat) (o : Option Nat) (l : List UInt8) (kind lsn txn prev next nextTxn : Int) (iq sq tq dq : Option Addr) (im ic sn sc tn tc dn dc : Nat) (V : List ImgV) (r : RecD) (u w : World) (hon : RecV.On ⟨kind, lsn, txn, prev, next, iq, im, ic, sq, sn, sc, nextTxn, tq, tn, tc, dq, dn, dc⟩ u V r) (hub : Below u.heap.size u w) (hug : u.heap.size ≤ g) (h : Wr w g o l) (hbig : l.length ≤ 1000) :
 Calls Tryz.prog 96 #[.pointer (some ⟨g, 0, none⟩), .agg #[.int .i64 kind, .int .u64 lsn, .int .i64 txn, .int .u64 prev, .int .u64 next, .slice iq im ic, .slice sq sn sc, .int .i64 nextTxn, .slice tq tn tc, .slice dq dn dc]] w (WrPost w g o (l ++ be 8 next.toNat)) := by
 obtain ⟨W, hW⟩ : ∃ W, w.alloc (.cells #[.int .i64 kind, .int .u64 lsn, .int .i64 txn, .int .u64 prev, .int .u64 next, .slice iq im ic, .slice sq sn sc, .int .i64 nextTxn, .slice tq tn tc, .slice dq dn dc] 30) = W := ⟨_, rfl⟩; have hbx := lh (one_box hW); have wr0 := lh (h.below hbx.out.1); have st0 := lh (WStep.refl W g o); have ne := lh (show w.heap.size ≠ g from by have := h.lt; omega); have no : Hid (o ≠ some w.heap.size) := fun e => by have := h.far _ e; omega
 have lt := lh (show w.heap.size < W.heap.size from by have := hbx.out.2.2; omega); have ln0 := lh hbig; have hw0 := lh (WStep.of_below (g := g) (o := o) hbx.out.1); have hsz := lh (show u.heap.size ≤ w.heap.size from hub.size); have hfo := lh (show ∀ k, o = some k → u.heap.size ≤ k from fun k e => by have := h.far k e; omega); have hdat : Hid (∀ x o1, WStep W x g o o1 → Below u.heap.size u x) := fun x o1 hs => (hub.trans (hbx.out.1.mono hub.size)).trans (hs.below (by have := hbx.out.1.size; have := hub.size; omega) hug hfo.out)
 have hon := lh hon; clear h hbig hub hug; have hux : Hid (U64 next) := by have h1 := hon.out.ints.2.2.2.2.1; rw [← hon.out.next] at h1; exact h1
 show Calls _ _ #[.pointer (some ⟨g, 0, none⟩), .agg #[.int .i64 kind, .int .u64 lsn, .int .i64 txn, .int .u64 prev, .int .u64 next, .slice iq im ic, .slice sq sn sc, .int .i64 nextTxn, .slice tq tn tc, .slice dq dn dc]] _ _
 go_enter Tryz.func96, Tryz.ntmps96
 have z4 := hbx.out.2.1.cell 4 rfl; obtain ⟨ub1, hub1⟩ : ∃ y, W.alloc (.cells #[.int .u64 next] 24) = y := ⟨_, rfl⟩
 go_wp2_with fail
 refine (num1 g o l 8 0 rfl (by decide) next hux.out W ub1 wr0.out hub1 (by have h1 := ln0.out; omega)).mono ?_; clear hub1 hW z4; rintro e w1 ⟨o1, rfl, hw, hs⟩; have wr1 := lh hw; have st1 := lh (st0.out.trans hs); have ln1 := lh (len_app ln0.out (show (be 8 (next).toNat).length ≤ 8 from Nat.le_of_eq (length_be _ _))); clear hw hs; go_wp2; go_end0; exact ⟨_, rfl, wr1.out, hw0.out.trans st1.out⟩
set_option maxRecDepth 100000 in
set_option maxHeartbeats 8000000 in
theorem done_wr (g : Nat) (o : Option Nat) (l : List UInt8) (kind lsn txn prev next nextTxn : Int) (iq sq tq dq : Option Addr) (im ic sn sc tn tc dn dc : Nat) (V : List ImgV) (r : RecD) (u w : World) (hon : RecV.On ⟨kind, lsn, txn, prev, next, iq, im, ic, sq, sn, sc, nextTxn, tq, tn, tc, dq, dn, dc⟩ u V r) (hub : Below u.heap.size u w) (hug : u.heap.size ≤ g) (h : Wr w g o l) (hgd : ∀ s ∈ r.steps, stpB s = true) (h16 : sn ≤ 2) (hbig : l.length ≤ 1000) :
 Calls Tryz.prog 97 #[.pointer (some ⟨g, 0, none⟩), .agg #[.int .i64 kind, .int .u64 lsn, .int .i64 txn, .int .u64 prev, .int .u64 next, .slice iq im ic, .slice sq sn sc, .int .i64 nextTxn, .slice tq tn tc, .slice dq dn dc]] w (WrPost w g o (l ++ (be 8 next.toNat ++ (be 1 (u64 (sn : Int)) ++ encL encStep r.steps)))) := by
 obtain ⟨W, hW⟩ : ∃ W, w.alloc (.cells #[.int .i64 kind, .int .u64 lsn, .int .i64 txn, .int .u64 prev, .int .u64 next, .slice iq im ic, .slice sq sn sc, .int .i64 nextTxn, .slice tq tn tc, .slice dq dn dc] 30) = W := ⟨_, rfl⟩; have hbx := lh (one_box hW); have wr0 := lh (h.below hbx.out.1); have st0 := lh (WStep.refl W g o); have ne := lh (show w.heap.size ≠ g from by have := h.lt; omega); have no : Hid (o ≠ some w.heap.size) := fun e => by have := h.far _ e; omega
 have lt := lh (show w.heap.size < W.heap.size from by have := hbx.out.2.2; omega); have ln0 := lh hbig; have hw0 := lh (WStep.of_below (g := g) (o := o) hbx.out.1); have hsz := lh (show u.heap.size ≤ w.heap.size from hub.size); have hfo := lh (show ∀ k, o = some k → u.heap.size ≤ k from fun k e => by have := h.far k e; omega); have hdat : Hid (∀ x o1, WStep W x g o o1 → Below u.heap.size u x) := fun x o1 hs => (hub.trans (hbx.out.1.mono hub.size)).trans (hs.below (by have := hbx.out.1.size; have := hub.size; omega) hug hfo.out)
 have hon := lh hon; clear h hbig hub hug; have hgd := lh hgd; have h16 := lh h16; have hlen : Hid (r.steps.length = sn) := hon.out.steps.len; have v1 := u64_wrap (sn : Int); have hux : Hid (U64 next) := by have h1 := hon.out.ints.2.2.2.2.1; rw [← hon.out.next] at h1; exact h1
 show Calls _ _ #[.pointer (some ⟨g, 0, none⟩), .agg #[.int .i64 kind, .int .u64 lsn, .int .i64 txn, .int .u64 prev, .int .u64 next, .slice iq im ic, .slice sq sn sc, .int .i64 nextTxn, .slice tq tn tc, .slice dq dn dc]] _ _
 go_enter Tryz.func97, Tryz.ntmps97
 have z4 := hbx.out.2.1.cell 4 rfl; obtain ⟨ub1, hub1⟩ : ∃ y, W.alloc (.cells #[.int .u64 next] 24) = y := ⟨_, rfl⟩
 go_wp2_with fail
 refine (num1 g o l 8 0 rfl (by decide) next hux.out W ub1 wr0.out hub1 (by have h1 := ln0.out; omega)).mono ?_; clear hub1 hW z4; rintro e w1 ⟨o1, rfl, hw, hs⟩; have wr1 := lh hw; have st1 := lh (st0.out.trans hs); have ln1 := lh (len_app ln0.out (show (be 8 (next).toNat).length ≤ 8 from Nat.le_of_eq (length_be _ _))); clear hw hs; have bx1 := lh (hbx.out.2.1.wstep st1.out lt.out ne.out no.out); have z6 := bx1.out.cell 6 rfl; obtain ⟨ub2, hub2⟩ : ∃ y, w1.alloc (.cells #[.int .u64 (u64 (sn : Int) : Int)] 24) = y := ⟨_, rfl⟩
 go_wp2_with fail
 refine (num1 g o1 (l ++ be 8 (next).toNat) 1 7 rfl (by decide) (u64 (sn : Int) : Int) (u64_ok _) w1 ub2 wr1.out hub2 (by have h1 := ln1.out; omega)).mono ?_; clear hub2 z6 v1; rintro e w2 ⟨o2, rfl, hw, hs⟩; have wr2 := lh hw; have st2 := lh (st1.out.trans hs); have ln2 := lh (len_app ln1.out (show (be 1 ((u64 (sn : Int) : Int)).toNat).length ≤ 1 from Nat.le_of_eq (length_be _ _))); clear hw hs; have bx2 := lh (hbx.out.2.1.wstep st2.out lt.out ne.out no.out); have z6 := bx2.out.cell 6 rfl; have lb21 := lh (encL_len (f := encStep) (L := r.steps) (b := 21) (fun s hs => encStep_len (hgd.out s hs))); have h0 : Hid (∃ o1, Wr w2 g o1 (((l ++ be 8 (next).toNat) ++ be 1 ((u64 (sn : Int) : Int)).toNat) ++ encL encStep (r.steps.take 0)) ∧ WStep W w2 g o o1) := ⟨o2, by rw [show encL encStep (r.steps.take 0) = [] from rfl, List.append_nil]; exact wr2.out, st2.out⟩; go_wp2; clear z6
 go_loopw [21] (fun v wr => ∃ j : Nat, j ≤ sn ∧ v = .int .i64 j ∧ Hid (∃ o1, Wr wr g o1 (((l ++ be 8 (next).toNat) ++ be 1 ((u64 (sn : Int) : Int)).toNat) ++ encL encStep (r.steps.take j)) ∧ WStep W wr g o o1)) (fun v _ => sn - (RowKit.intOf v).toNat)
 case atStart => exact ⟨0, Nat.zero_le _, rfl, h0⟩
 case round =>
  obtain ⟨j, hj, rfl, hst⟩ := hrel; clear h0
  by_cases hlt : j < sn
  · obtain ⟨ob, hwb, hsb⟩ := hst.out; clear hst; have i0 : (0 : Int) ≤ j := by omega
    have i1 : (j : Int) < sn := by omega
    have stl := lh hsb; have wra := lh hwb; have lnl := lh (len_app ln2.out (lb21.out j)); clear hsb hwb; have hd := lh (hdat.out wr ob stl.out); obtain ⟨A, ⟨kd, ⟨⟨t, id⟩, v, s⟩, by_⟩, hqA, hdx, hcA0⟩ := hon.out.steps.at (show j < sn from hlt); subst hqA; have hx := lh hdx; have hm := List.mem_of_getElem? hdx; have hgo := lh (hgd.out _ hm); have hok := lh (hon.out.sok _ hm).row; clear hdx hm
    skip
    have hcA : Hid (∀ j' x, ([.int .i64 kd, .int .i64 t, .int .u16 id, .int .i64 v, .string s, .int .i64 by_] : List Value)[j']? = some x → wr.cell? ((A.add (j * 6)).add j') = some x) := fun j' x hj => cell_kept hd.out (Nat.le_refl _) (hcA0 j' x hj)
    clear hcA0; have hs : (Tryz.prog.info? 70).map (·.size) = some ([.int .i64 kd, .int .i64 t, .int .u16 id, .int .i64 v, .string s, .int .i64 by_] : List Value).length := sizeStep ⟨kd, ⟨⟨t, id⟩, v, s⟩, by_⟩; obtain ⟨we, hwe⟩ : ∃ x, wr.alloc (.cells #[.int .i64 kd, .int .i64 t, .int .u16 id, .int .i64 v, .string s, .int .i64 by_] 70) = x := ⟨_, rfl⟩; have hbk := lh (one_box hwe); have wrl := lh (wra.out.below hbk.out.1); have stm := lh (stl.out.trans (WStep.of_below hbk.out.1)); have neb := lh (show wr.heap.size ≠ g from by have := wra.out.lt; omega); have nob : Hid (ob ≠ some wr.heap.size) := fun e => by have := wra.out.far _ e; omega
    have ltb := lh (show wr.heap.size < we.heap.size from by have := hbk.out.2.2; omega); have sb0 := lh (WStep.refl we g ob)
    go_wp2_with (first
     | (with_reducible refine wpList_load_at rfl 70 (.tmp 23) rfl Tryz.underlying70 rfl hs rfl hcA.out ?_)
     | (with_reducible refine wpList_load_at rfl 70 (.tmp 5) rfl Tryz.underlying70 rfl hs rfl hbk.out.2.1.all ?_))
    refine (step_wr g ob (((l ++ be 8 (next).toNat) ++ be 1 ((u64 (sn : Int) : Int)).toNat) ++ encL encStep (r.steps.take j)) kd t id v by_ s we wrl.out hok.out hgo.out (by have h1 := lnl.out; have h2 := h16.out; omega)).mono ?_; clear hwe hcA; rintro e w3 ⟨o3, rfl, hw, hs⟩; have wr3 := lh hw; have st3 := lh (sb0.out.trans hs); have ln3 := lh (len_app lnl.out (show (encStep ⟨kd, ⟨⟨t, id⟩, v, s⟩, by_⟩).length ≤ 21 from encStep_len hgo.out)); clear hw hs; have stz := lh (stm.out.trans st3.out); go_wp2
    go_roundw
    case rel => exact ⟨j + 1, by omega, by go_num, _, by rw [encL_step hx.out]; simpa only [List.append_assoc, Int.toNat_natCast] using wr3.out, stz.out⟩
    case measure => simp [RowKit.intOf]; omega
  · obtain rfl : sn = j := by omega
    have hall : r.steps.take sn = r.steps := List.take_of_length_le (by have h1 := hlen.out; omega); rw [hall] at hst; clear hall hlt hj; obtain ⟨oz21, hwz, hsz'⟩ := hst.out; have wz21 := lh hwz; have sz21 := lh hsz'; clear hst hwz hsz'; have lz21 := lh (len_app ln2.out (show (encL encStep r.steps).length ≤ 21 * sn from by have h1 := lb21.out sn; rwa [List.take_of_length_le (by have h1 := hlen.out; omega)] at h1)); go_wp2; go_end0; refine ⟨_, rfl, ?_, hw0.out.trans sz21.out⟩; have he : l ++ (be 8 next.toNat ++ (be 1 (u64 (sn : Int)) ++ encL encStep r.steps)) = (((l ++ be 8 (next).toNat) ++ be 1 ((u64 (sn : Int) : Int)).toNat) ++ encL encStep r.steps) := by simp only [Int.toNat_natCast, List.append_assoc]
    rw [he]; exact wz21.out
set_option maxRecDepth 100000 in
set_option maxHeartbeats 8000000 in
theorem ckpt_wr (g : Nat) (o : Option Nat) (l : List UInt8) (kind lsn txn prev next nextTxn : Int) (iq sq tq dq : Option Addr) (im ic sn sc tn tc dn dc : Nat) (V : List ImgV) (r : RecD) (u w : World) (hon : RecV.On ⟨kind, lsn, txn, prev, next, iq, im, ic, sq, sn, sc, nextTxn, tq, tn, tc, dq, dn, dc⟩ u V r) (hub : Below u.heap.size u w) (hug : u.heap.size ≤ g) (h : Wr w g o l) (ht8 : tn ≤ 8) (hd64 : dn ≤ 64) (hbig : l.length ≤ 1000) :
 Calls Tryz.prog 99 #[.pointer (some ⟨g, 0, none⟩), .agg #[.int .i64 kind, .int .u64 lsn, .int .i64 txn, .int .u64 prev, .int .u64 next, .slice iq im ic, .slice sq sn sc, .int .i64 nextTxn, .slice tq tn tc, .slice dq dn dc]] w (WrPost w g o (l ++ (be 4 (YtocekhckmpkbmaaGreat.u64 nextTxn) ++ (be 1 (YtocekhckmpkbmaaGreat.u64 (tn : Int)) ++ (encL encTxn r.txns ++ (be 1 (YtocekhckmpkbmaaGreat.u64 (dn : Int)) ++ encL encPg r.dirty)))))) := by
 obtain ⟨W, hW⟩ : ∃ W, w.alloc (.cells #[.int .i64 kind, .int .u64 lsn, .int .i64 txn, .int .u64 prev, .int .u64 next, .slice iq im ic, .slice sq sn sc, .int .i64 nextTxn, .slice tq tn tc, .slice dq dn dc] 30) = W := ⟨_, rfl⟩; have hbx := lh (one_box hW); have wr0 := lh (h.below hbx.out.1); have st0 := lh (WStep.refl W g o); have ne := lh (show w.heap.size ≠ g from by have := h.lt; omega); have no : Hid (o ≠ some w.heap.size) := fun e => by have := h.far _ e; omega
 have lt := lh (show w.heap.size < W.heap.size from by have := hbx.out.2.2; omega); have ln0 := lh hbig; have hw0 := lh (WStep.of_below (g := g) (o := o) hbx.out.1); have hsz := lh (show u.heap.size ≤ w.heap.size from hub.size); have hfo := lh (show ∀ k, o = some k → u.heap.size ≤ k from fun k e => by have := h.far k e; omega); have hdat : Hid (∀ x o1, WStep W x g o o1 → Below u.heap.size u x) := fun x o1 hs => (hub.trans (hbx.out.1.mono hub.size)).trans (hs.below (by have := hbx.out.1.size; have := hub.size; omega) hug hfo.out)
 have hon := lh hon; clear h hbig hub hug; have ht8 := lh ht8; have hd64 := lh hd64; have hlt' : Hid (r.txns.length = tn) := hon.out.txns.len; have hld' : Hid (r.dirty.length = dn) := hon.out.dirty.len; have v0 := u64_wrap nextTxn; have v1 := u64_wrap (tn : Int); have v3 := u64_wrap (dn : Int); show Calls _ _ #[.pointer (some ⟨g, 0, none⟩), .agg #[.int .i64 kind, .int .u64 lsn, .int .i64 txn, .int .u64 prev, .int .u64 next, .slice iq im ic, .slice sq sn sc, .int .i64 nextTxn, .slice tq tn tc, .slice dq dn dc]] _ _
 go_enter Tryz.func99, Tryz.ntmps99
 have z7 := hbx.out.2.1.cell 7 rfl; obtain ⟨ub1, hub1⟩ : ∃ y, W.alloc (.cells #[.int .u64 (YtocekhckmpkbmaaGreat.u64 nextTxn : Int)] 24) = y := ⟨_, rfl⟩
 go_wp2_with fail
 refine (num1 g o l 4 4 rfl (by decide) (YtocekhckmpkbmaaGreat.u64 nextTxn : Int) (u64_ok _) W ub1 wr0.out hub1 (by have h1 := ln0.out; omega)).mono ?_; clear hub1 hW z7 v0; rintro e w1 ⟨o1, rfl, hw, hs⟩; have wr1 := lh hw; have st1 := lh (st0.out.trans hs); have ln1 := lh (len_app ln0.out (show (be 4 ((YtocekhckmpkbmaaGreat.u64 nextTxn : Int)).toNat).length ≤ 4 from Nat.le_of_eq (length_be _ _))); clear hw hs; have bx1 := lh (hbx.out.2.1.wstep st1.out lt.out ne.out no.out); have z8 := bx1.out.cell 8 rfl; obtain ⟨ub2, hub2⟩ : ∃ y, w1.alloc (.cells #[.int .u64 (YtocekhckmpkbmaaGreat.u64 (tn : Int) : Int)] 24) = y := ⟨_, rfl⟩
 go_wp2_with fail
 refine (num1 g o1 (l ++ be 4 ((YtocekhckmpkbmaaGreat.u64 nextTxn : Int)).toNat) 1 7 rfl (by decide) (YtocekhckmpkbmaaGreat.u64 (tn : Int) : Int) (u64_ok _) w1 ub2 wr1.out hub2 (by have h1 := ln1.out; omega)).mono ?_; clear hub2 z8 v1; rintro e w2 ⟨o2, rfl, hw, hs⟩; have wr2 := lh hw; have st2 := lh (st1.out.trans hs); have ln2 := lh (len_app ln1.out (show (be 1 ((YtocekhckmpkbmaaGreat.u64 (tn : Int) : Int)).toNat).length ≤ 1 from Nat.le_of_eq (length_be _ _))); clear hw hs; have bx2 := lh (hbx.out.2.1.wstep st2.out lt.out ne.out no.out); have z8 := bx2.out.cell 8 rfl; have lb24 := lh (encL_len (f := encTxn) (L := r.txns) (b := 29) (fun t ht => by unfold encTxn; simp only [List.length_append, length_be]; decide)); have h0 : Hid (∃ o1, Wr w2 g o1 (((l ++ be 4 ((YtocekhckmpkbmaaGreat.u64 nextTxn : Int)).toNat) ++ be 1 ((YtocekhckmpkbmaaGreat.u64 (tn : Int) : Int)).toNat) ++ encL encTxn (r.txns.take 0)) ∧ WStep W w2 g o o1) := ⟨o2, by rw [show encL encTxn (r.txns.take 0) = [] from rfl, List.append_nil]; exact wr2.out, st2.out⟩
 go_wp2; clear z8
 go_loopw [24] (fun v wr => ∃ j : Nat, j ≤ tn ∧ v = .int .i64 j ∧ Hid (∃ o1, Wr wr g o1 (((l ++ be 4 ((YtocekhckmpkbmaaGreat.u64 nextTxn : Int)).toNat) ++ be 1 ((YtocekhckmpkbmaaGreat.u64 (tn : Int) : Int)).toNat) ++ encL encTxn (r.txns.take j)) ∧ WStep W wr g o o1)) (fun v _ => tn - (RowKit.intOf v).toNat)
 case atStart => exact ⟨0, Nat.zero_le _, rfl, h0⟩
 case round =>
  obtain ⟨j, hj, rfl, hst⟩ := hrel; clear h0
  by_cases hlt : j < tn
  · obtain ⟨ob, hwb, hsb⟩ := hst.out; clear hst; have i0 : (0 : Int) ≤ j := by omega
    have i1 : (j : Int) < tn := by omega
    have stl := lh hsb; have wra := lh hwb; have lnl := lh (len_app ln2.out (lb24.out j)); clear hsb hwb; have hd := lh (hdat.out wr ob stl.out); obtain ⟨A, ⟨t, f, la, un, st⟩, hqA, hdx, hcA0⟩ := hon.out.txns.at (show j < tn from hlt); subst hqA; have hx := lh hdx; have hok := lh (hon.out.tok _ (List.mem_of_getElem? hdx)); clear hdx
    skip
    have hcA : Hid (∀ j' x, ([.int .i64 t, .int .u64 f, .int .u64 la, .int .u64 un, .int .i64 st] : List Value)[j']? = some x → wr.cell? ((A.add (j * 5)).add j') = some x) := fun j' x hj => cell_kept hd.out (Nat.le_refl _) (hcA0 j' x hj)
    clear hcA0; have hs : (Tryz.prog.info? 82).map (·.size) = some ([.int .i64 t, .int .u64 f, .int .u64 la, .int .u64 un, .int .i64 st] : List Value).length := sizeTxn ⟨t, f, la, un, st⟩; obtain ⟨we, hwe⟩ : ∃ x, wr.alloc (.cells #[.int .i64 t, .int .u64 f, .int .u64 la, .int .u64 un, .int .i64 st] 82) = x := ⟨_, rfl⟩; have hbk := lh (one_box hwe); have wrl := lh (wra.out.below hbk.out.1); have stm := lh (stl.out.trans (WStep.of_below hbk.out.1)); have neb := lh (show wr.heap.size ≠ g from by have := wra.out.lt; omega); have nob : Hid (ob ≠ some wr.heap.size) := fun e => by have := wra.out.far _ e; omega
    have ltb := lh (show wr.heap.size < we.heap.size from by have := hbk.out.2.2; omega); have sb0 := lh (WStep.refl we g ob); have y0 := u64_wrap t; have y4 := u64_wrap st; have d0 := hbk.out.2.1.cell 0 rfl; obtain ⟨ub3, hub3⟩ : ∃ y, we.alloc (.cells #[.int .u64 (YtocekhckmpkbmaaGreat.u64 t : Int)] 24) = y := ⟨_, rfl⟩
    go_wp2_with (first
     | (with_reducible refine wpList_load_at rfl 82 (.tmp 26) rfl Tryz.underlying82 rfl hs rfl hcA.out ?_))
    refine (num1 g ob (((l ++ be 4 ((YtocekhckmpkbmaaGreat.u64 nextTxn : Int)).toNat) ++ be 1 ((YtocekhckmpkbmaaGreat.u64 (tn : Int) : Int)).toNat) ++ encL encTxn (r.txns.take j)) 4 4 rfl (by decide) (YtocekhckmpkbmaaGreat.u64 t : Int) (u64_ok t) we ub3 wrl.out hub3 (by have h1 := lnl.out; have h2 := ht8.out; omega)).mono ?_; clear hub3 hwe d0 y0 hcA; rintro e w3 ⟨o3, rfl, hw, hs⟩; have wr3 := lh hw; have st3 := lh (sb0.out.trans hs); have ln3 := lh (len_app lnl.out (show (be 4 ((YtocekhckmpkbmaaGreat.u64 t : Int)).toNat).length ≤ 4 from Nat.le_of_eq (length_be _ _))); clear hw hs; have bb1 := lh (hbk.out.2.1.wstep st3.out ltb.out neb.out nob.out); have d1 := bb1.out.cell 1 rfl; have d2 := bb1.out.cell 2 rfl; have d3 := bb1.out.cell 3 rfl; obtain ⟨ub4, hub4⟩ : ∃ y, w3.alloc (.cells #[.int .u64 f, .int .u64 la, .int .u64 un] 24) = y := ⟨_, rfl⟩
    go_wp2_with fail
    refine (num3 g o3 ((((l ++ be 4 ((YtocekhckmpkbmaaGreat.u64 nextTxn : Int)).toNat) ++ be 1 ((YtocekhckmpkbmaaGreat.u64 (tn : Int) : Int)).toNat) ++ encL encTxn (r.txns.take j)) ++ be 4 ((YtocekhckmpkbmaaGreat.u64 t : Int)).toNat) f la un hok.out.first hok.out.last hok.out.undo w3 ub4 wr3.out hub4 (by have h1 := ln3.out; have h2 := ht8.out; omega)).mono ?_; clear hub4 bb1 d1 d2 d3; rintro e w4 ⟨o4, rfl, hw, hs⟩; have wr4 := lh hw; have st4 := lh (st3.out.trans hs); have ln4 := lh (len_app ln3.out (show ((be 8 f.toNat ++ (be 8 la.toNat ++ be 8 un.toNat))).length ≤ 24 from by rw [List.length_append, List.length_append, length_be, length_be, length_be]; decide)); clear hw hs; have bb2 := lh (hbk.out.2.1.wstep st4.out ltb.out neb.out nob.out); have d4 := bb2.out.cell 4 rfl; obtain ⟨ub5, hub5⟩ : ∃ y, w4.alloc (.cells #[.int .u64 (YtocekhckmpkbmaaGreat.u64 st : Int)] 24) = y := ⟨_, rfl⟩
    go_wp2_with fail
    refine (num1 g o4 (((((l ++ be 4 ((YtocekhckmpkbmaaGreat.u64 nextTxn : Int)).toNat) ++ be 1 ((YtocekhckmpkbmaaGreat.u64 (tn : Int) : Int)).toNat) ++ encL encTxn (r.txns.take j)) ++ be 4 ((YtocekhckmpkbmaaGreat.u64 t : Int)).toNat) ++ (be 8 f.toNat ++ (be 8 la.toNat ++ be 8 un.toNat))) 1 7 rfl (by decide) (YtocekhckmpkbmaaGreat.u64 st : Int) (u64_ok st) w4 ub5 wr4.out hub5 (by have h1 := ln4.out; have h2 := ht8.out; omega)).mono ?_; clear hub5 bb2 d4 y4; rintro e w5 ⟨o5, rfl, hw, hs⟩; have wr5 := lh hw; have st5 := lh (st4.out.trans hs); have ln5 := lh (len_app ln4.out (show (be 1 ((YtocekhckmpkbmaaGreat.u64 st : Int)).toNat).length ≤ 1 from Nat.le_of_eq (length_be _ _))); clear hw hs; have stz := lh (stm.out.trans st5.out); go_wp2
    go_roundw
    case rel => exact ⟨j + 1, by omega, by go_num, _, by rw [encL_step hx.out, encTxn]; simpa only [List.append_assoc, Int.toNat_natCast] using wr5.out, stz.out⟩
    case measure => simp [RowKit.intOf]; omega
  · obtain rfl : tn = j := by omega
    have hall : r.txns.take tn = r.txns := List.take_of_length_le (by have h1 := hlt'.out; omega); rw [hall] at hst; clear hall hlt hj; obtain ⟨oz24, hwz, hsz'⟩ := hst.out; have wz24 := lh hwz; have sz24 := lh hsz'; clear hst hwz hsz'; have lz24 := lh (len_app ln2.out (show (encL encTxn r.txns).length ≤ 29 * tn from by have h1 := lb24.out tn; rwa [List.take_of_length_le (by have h1 := hlt'.out; omega)] at h1)); have bx6 := lh (hbx.out.2.1.wstep sz24.out lt.out ne.out no.out); have z9 := bx6.out.cell 9 rfl; obtain ⟨ub7, hub7⟩ : ∃ y, wr.alloc (.cells #[.int .u64 (YtocekhckmpkbmaaGreat.u64 (dn : Int) : Int)] 24) = y := ⟨_, rfl⟩
    go_wp2_with fail
    refine (num1 g oz24 (((l ++ be 4 ((YtocekhckmpkbmaaGreat.u64 nextTxn : Int)).toNat) ++ be 1 ((YtocekhckmpkbmaaGreat.u64 (tn : Int) : Int)).toNat) ++ encL encTxn r.txns) 1 7 rfl (by decide) (YtocekhckmpkbmaaGreat.u64 (dn : Int) : Int) (u64_ok _) wr ub7 wz24.out hub7 (by have h1 := lz24.out; have h2 := ht8.out; omega)).mono ?_; clear hub7 z9 v3; rintro e w7 ⟨o7, rfl, hw, hs⟩; have wr7 := lh hw; have st7 := lh (sz24.out.trans hs); have ln7 := lh (len_app lz24.out (show (be 1 ((YtocekhckmpkbmaaGreat.u64 (dn : Int) : Int)).toNat).length ≤ 1 from Nat.le_of_eq (length_be _ _))); clear hw hs; have bx7 := lh (hbx.out.2.1.wstep st7.out lt.out ne.out no.out); have z9 := bx7.out.cell 9 rfl; have lb60 := lh (encL_len (f := encPg) (L := r.dirty) (b := 9) (fun t ht => by unfold encPg; simp only [List.length_append, length_be]; decide)); have h0 : Hid (∃ o1, Wr w7 g o1 (((((l ++ be 4 ((YtocekhckmpkbmaaGreat.u64 nextTxn : Int)).toNat) ++ be 1 ((YtocekhckmpkbmaaGreat.u64 (tn : Int) : Int)).toNat) ++ encL encTxn r.txns) ++ be 1 ((YtocekhckmpkbmaaGreat.u64 (dn : Int) : Int)).toNat) ++ encL encPg (r.dirty.take 0)) ∧ WStep W w7 g o o1) := ⟨o7, by rw [show encL encPg (r.dirty.take 0) = [] from rfl, List.append_nil]; exact wr7.out, st7.out⟩
    go_wp2; clear z9
    go_loopw [60] (fun v wr => ∃ j : Nat, j ≤ dn ∧ v = .int .i64 j ∧ Hid (∃ o1, Wr wr g o1 (((((l ++ be 4 ((YtocekhckmpkbmaaGreat.u64 nextTxn : Int)).toNat) ++ be 1 ((YtocekhckmpkbmaaGreat.u64 (tn : Int) : Int)).toNat) ++ encL encTxn r.txns) ++ be 1 ((YtocekhckmpkbmaaGreat.u64 (dn : Int) : Int)).toNat) ++ encL encPg (r.dirty.take j)) ∧ WStep W wr g o o1)) (fun v _ => dn - (RowKit.intOf v).toNat)
    case atStart => exact ⟨0, Nat.zero_le _, rfl, h0⟩
    case round =>
     obtain ⟨j, hj, rfl, hst⟩ := hrel; clear h0
     by_cases hlt : j < dn
     · obtain ⟨ob, hwb, hsb⟩ := hst.out; clear hst; have i0 : (0 : Int) ≤ j := by omega
       have i1 : (j : Int) < dn := by omega
       have stl := lh hsb; have wra := lh hwb; have lnl := lh (len_app ln7.out (lb60.out j)); clear hsb hwb; have hd := lh (hdat.out wr ob stl.out); obtain ⟨A, ⟨p, rc⟩, hqA, hdx, hcA0⟩ := hon.out.dirty.at (show j < dn from hlt); subst hqA; have hx := lh hdx; have hok := lh (hon.out.dok _ (List.mem_of_getElem? hdx)); clear hdx
       skip
       have hcA : Hid (∀ j' x, ([.int .i64 p, .int .u64 rc] : List Value)[j']? = some x → wr.cell? ((A.add (j * 2)).add j') = some x) := fun j' x hj => cell_kept hd.out (Nat.le_refl _) (hcA0 j' x hj)
       clear hcA0; have hs : (Tryz.prog.info? 85).map (·.size) = some ([.int .i64 p, .int .u64 rc] : List Value).length := sizePg ⟨p, rc⟩; obtain ⟨we, hwe⟩ : ∃ x, wr.alloc (.cells #[.int .i64 p, .int .u64 rc] 85) = x := ⟨_, rfl⟩; have hbk := lh (one_box hwe); have wrl := lh (wra.out.below hbk.out.1); have stm := lh (stl.out.trans (WStep.of_below hbk.out.1)); have neb := lh (show wr.heap.size ≠ g from by have := wra.out.lt; omega); have nob : Hid (ob ≠ some wr.heap.size) := fun e => by have := wra.out.far _ e; omega
       have ltb := lh (show wr.heap.size < we.heap.size from by have := hbk.out.2.2; omega); have sb0 := lh (WStep.refl we g ob); have y0 := u64_wrap p; have d0 := hbk.out.2.1.cell 0 rfl; obtain ⟨ub8, hub8⟩ : ∃ y, we.alloc (.cells #[.int .u64 (YtocekhckmpkbmaaGreat.u64 p : Int)] 24) = y := ⟨_, rfl⟩
       go_wp2_with (first
        | (with_reducible refine wpList_load_at rfl 85 (.tmp 62) rfl Tryz.underlying85 rfl hs rfl hcA.out ?_))
       refine (num1 g ob (((((l ++ be 4 ((YtocekhckmpkbmaaGreat.u64 nextTxn : Int)).toNat) ++ be 1 ((YtocekhckmpkbmaaGreat.u64 (tn : Int) : Int)).toNat) ++ encL encTxn r.txns) ++ be 1 ((YtocekhckmpkbmaaGreat.u64 (dn : Int) : Int)).toNat) ++ encL encPg (r.dirty.take j)) 1 7 rfl (by decide) (YtocekhckmpkbmaaGreat.u64 p : Int) (u64_ok p) we ub8 wrl.out hub8 (by have h1 := lnl.out; have h2 := ht8.out; have h3 := hd64.out; omega)).mono ?_; clear hub8 hwe d0 y0 hcA; rintro e w8 ⟨o8, rfl, hw, hs⟩; have wr8 := lh hw; have st8 := lh (sb0.out.trans hs); have ln8 := lh (len_app lnl.out (show (be 1 ((YtocekhckmpkbmaaGreat.u64 p : Int)).toNat).length ≤ 1 from Nat.le_of_eq (length_be _ _))); clear hw hs; have bb1 := lh (hbk.out.2.1.wstep st8.out ltb.out neb.out nob.out); have d1 := bb1.out.cell 1 rfl; obtain ⟨ub9, hub9⟩ : ∃ y, w8.alloc (.cells #[.int .u64 rc] 24) = y := ⟨_, rfl⟩
       go_wp2_with fail
       refine (num1 g o8 ((((((l ++ be 4 ((YtocekhckmpkbmaaGreat.u64 nextTxn : Int)).toNat) ++ be 1 ((YtocekhckmpkbmaaGreat.u64 (tn : Int) : Int)).toNat) ++ encL encTxn r.txns) ++ be 1 ((YtocekhckmpkbmaaGreat.u64 (dn : Int) : Int)).toNat) ++ encL encPg (r.dirty.take j)) ++ be 1 ((YtocekhckmpkbmaaGreat.u64 p : Int)).toNat) 8 0 rfl (by decide) rc hok.out.rec_ w8 ub9 wr8.out hub9 (by have h1 := ln8.out; have h2 := ht8.out; have h3 := hd64.out; omega)).mono ?_; clear hub9 bb1 d1; rintro e w9 ⟨o9, rfl, hw, hs⟩; have wr9 := lh hw; have st9 := lh (st8.out.trans hs); have ln9 := lh (len_app ln8.out (show (be 8 (rc).toNat).length ≤ 8 from Nat.le_of_eq (length_be _ _))); clear hw hs; have stz := lh (stm.out.trans st9.out); go_wp2
       go_roundw
       case rel => exact ⟨j + 1, by omega, by go_num, _, by rw [encL_step hx.out, encPg]; simpa only [List.append_assoc, Int.toNat_natCast] using wr9.out, stz.out⟩
       case measure => simp [RowKit.intOf]; omega
     · obtain rfl : dn = j := by omega
       have hall : r.dirty.take dn = r.dirty := List.take_of_length_le (by have h1 := hld'.out; omega); rw [hall] at hst; clear hall hlt hj; obtain ⟨oz60, hwz, hsz'⟩ := hst.out; have wz60 := lh hwz; have sz60 := lh hsz'; clear hst hwz hsz'; have lz60 := lh (len_app ln7.out (show (encL encPg r.dirty).length ≤ 9 * dn from by have h1 := lb60.out dn; rwa [List.take_of_length_le (by have h1 := hld'.out; omega)] at h1)); go_wp2; go_end0; refine ⟨_, rfl, ?_, hw0.out.trans sz60.out⟩; have he : l ++ (be 4 (YtocekhckmpkbmaaGreat.u64 nextTxn) ++ (be 1 (YtocekhckmpkbmaaGreat.u64 (tn : Int)) ++ (encL encTxn r.txns ++ (be 1 (YtocekhckmpkbmaaGreat.u64 (dn : Int)) ++ encL encPg r.dirty)))) = (((((l ++ be 4 ((YtocekhckmpkbmaaGreat.u64 nextTxn : Int)).toNat) ++ be 1 ((YtocekhckmpkbmaaGreat.u64 (tn : Int) : Int)).toNat) ++ encL encTxn r.txns) ++ be 1 ((YtocekhckmpkbmaaGreat.u64 (dn : Int) : Int)).toNat) ++ encL encPg r.dirty) := by simp only [Int.toNat_natCast, List.append_assoc]
       rw [he]; exact wz60.out
end Go.Proofs.YtocekhckmpkbmaaGreat
