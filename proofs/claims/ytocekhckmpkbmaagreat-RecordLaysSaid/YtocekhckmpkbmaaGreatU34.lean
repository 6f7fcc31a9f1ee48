/- Bytes of the document: those of contents that may be. -/
import Derived.Test.YtocekhckmpkbmaaGreatU16
import Derived.Test.YtocekhckmpkbmaaGreatU01
namespace Go.Proofs.YtocekhckmpkbmaaGreat
open Go.RowKit
theorem grown_keep {u w' : World} {q : Option Addr} {b : Nat} (h : u.grownBy w' (blockOf q)) (hb : b < u.heap.size) (hne : ∀ a, q = some a → b ≠ a.block) : w'.heap[b]? = u.heap[b]? := by
 refine h.block b hb ?_; cases q with
 | none => exact fun e => by cases e
 | some a => exact fun e => hne a rfl (by simpa [blockOf] using e)
theorem own_ne {w : World} {base b n c : Nat} {q : Option Addr} {l : List UInt8} {cs : List Value} (h : Own w base (.slice q n c) l) (hb : RowV 100 w b cs) : ∀ a, q = some a → b ≠ a.block := by
 intro a ha e; obtain ⟨_, ⟨he, _⟩ | ⟨g, cap, cur, he, _, hh, _⟩⟩ := h
 · cases he; cases ha
 · cases he; cases ha; obtain rfl : b = g := e; unfold RowV at hb; rw [hb] at hh; simp at hh
/-- what stands while the bytes of one kid are laid -/
structure KidK (W wr : World) (q0 : Option Addr) (n0 cap0 : Nat) (l : List UInt8) (t id v : Int) (x y z : Option Value) (u : World) : Prop where
 b : Below W.heap.size W u
 bx : RowV 100 u wr.heap.size [.int .i64 t, .int .u16 id, .int .i64 v]
 o : y = none → Own u W.heap.size (.slice q0 n0 cap0) l
 ky : ∀ X, x = some X → y = none → ∃ q c, X = .slice q 3 c ∧ Lib.HoldsBytes u (.slice q 3 c) (encKey ⟨t, id⟩)
 yo : ∀ Y, y = some Y → ∃ q c, Y = .slice q (n0 + 3) c ∧ Own u W.heap.size (.slice q (n0 + 3) c) (l ++ encKey ⟨t, id⟩)
 zo : ∀ Z, z = some Z → ∃ r, Z = .slice (some ⟨r, 0, none⟩) 1 1 ∧ Row 5 u r [UInt8.ofNat v.toNat] ∧ ∀ a, q0 = some a → r ≠ a.block
theorem KidK.keyed {W wr : World} {q0 : Option Addr} {n0 cap0 : Nat} {l : List UInt8} {t id v : Int} {z : Option Value} {u u' : World} {q : Option Addr} {c : Nat} (h : KidK W wr q0 n0 cap0 l t id v none none z u) (hb : Below u.heap.size u u') (ho : Own u' u.heap.size (.slice q 3 c) (encKey ⟨t, id⟩)) :
 KidK W wr q0 n0 cap0 l t id v (some (.slice q 3 c)) none z u' :=
 ⟨below_step hb h.b, h.bx.below hb, fun _ => (h.o rfl).below hb, fun X hX _ => (by cases hX; exact ⟨q, c, rfl, ho.holds.1⟩), fun Y hY => (by cases hY), fun Z hZ => by
  obtain ⟨r, e, hr, hn⟩ := h.zo Z hZ
  exact ⟨r, e, hr.block (hb.block _ hr.lt), hn⟩⟩
theorem KidK.put {W wr : World} {q0 q : Option Addr} {n0 cap0 c : Nat} {l : List UInt8} {t id v : Int} {x z : Option Value} {u u' : World} (h : KidK W wr q0 n0 cap0 l t id v x none z u) (hfar : ∀ a, q0 = some a → a.block < wr.heap.size) (ho : Own u' W.heap.size (.slice q (n0 + 3) c) (l ++ encKey ⟨t, id⟩)) (hg : u.grownBy u' (blockOf q0)) :
 KidK W wr q0 n0 cap0 l t id v x (some (.slice q (n0 + 3) c)) z u' :=
 ⟨(h.o rfl).up hg h.b (Nat.le_refl _), h.bx.block (grown_keep hg h.bx.lt (fun a ha => by have := hfar a ha; omega)), fun e => (by cases e), fun X _ e => (by cases e), fun Y hY => (by cases hY; exact ⟨q, c, rfl, ho⟩), fun Z hZ => by
   obtain ⟨r, e, hr, hn⟩ := h.zo Z hZ
   exact ⟨r, e, hr.block (grown_keep hg hr.lt hn), hn⟩⟩
theorem KidK.made {W wr : World} {q0 : Option Addr} {n0 cap0 : Nat} {l : List UInt8} {t id v : Int} {x y : Option Value} {u u' : World} (h : KidK W wr q0 n0 cap0 l t id v x y none u) (hfar : ∀ a, q0 = some a → a.block < wr.heap.size) (hb : Below u.heap.size u u') (hr : Row 5 u' u.heap.size [UInt8.ofNat v.toNat]) :
 KidK W wr q0 n0 cap0 l t id v x y (some (.slice (some ⟨u.heap.size, 0, none⟩) 1 1)) u' :=
 ⟨below_step hb h.b, h.bx.below hb, fun e => (h.o e).below hb, fun X hX e => (by
  obtain ⟨q, c, e1, e2⟩ := h.ky X hX e
  exact ⟨q, c, e1, holds_below e2 hb (Nat.le_refl _)⟩), fun Y hY => (by
  obtain ⟨q, c, e1, e2⟩ := h.yo Y hY
  exact ⟨q, c, e1, e2.below hb⟩), fun Z hZ => (by cases hZ; exact ⟨_, rfl, hr, fun a ha => by have := hfar a ha; have := h.bx.lt; omega⟩)⟩
def BytesDoc (c : ContD) (w : World) (e : Ending) (w' : World) : Prop := ∃ q n cp, e = .returned (.slice q n cp) ∧ Own w' w.heap.size (.slice q n cp) (encC c) ∧ Below w.heap.size w w'
set_option maxRecDepth 100000 in
set_option maxHeartbeats 4000000 in
theorem bytes0 (rq : Option Addr) (rn rc : Nat) (kq : Option Addr) (kn kc : Nat) (rows : List RowD) (kids : List KidD) (w : World) (h : ContOn w 0 rq rn rc kq kn kc ⟨0, rows, kids⟩) (hgood : GoodC ⟨0, rows, kids⟩) :
 Calls Tryz.prog 43 #[.agg #[.int .i64 0, .slice rq rn rc, .slice kq kn kc]] w (BytesDoc ⟨0, rows, kids⟩ w) := by
 obtain ⟨W, hW⟩ : ∃ W, w.alloc (.cells #[.int .i64 0, .slice rq rn rc, .slice kq kn kc] 55) = W := ⟨_, rfl⟩; have hbx := lh (one_box hW); have hon := lh (h.below hbx.out.1 (Nat.le_refl _)); have d0 := hbx.out.2.1.cell 0 rfl; have d1 := hbx.out.2.1.cell 1 rfl; have d2 := hbx.out.2.1.cell 2 rfl; have hgood' := lh hgood; clear h hgood; obtain ⟨W2, hW2⟩ : ∃ W2, W.alloc (.cells #[.int .u8 0] 5) = W2 := ⟨_, rfl⟩; have hb2 := lh (one_box hW2); have hm2 : Hid (Row 5 W2 W.heap.size [0]) := by have h := made1 W 0; rw [show ((0 : UInt8).toNat : Int) = 0 from rfl, hW2] at h; exact h
 have hown2 : Hid (Own W2 W.heap.size (.slice (some ⟨W.heap.size, 0, none⟩) 1 1) [0]) := hm2.out.own (Nat.le_refl _) (by unfold maxLen; decide); have hd2 := lh hb2.out.1; have d0' := cell_keeps hb2.out.1 (Nat.le_refl _) d0; clear d1 d2
 go_enter Tryz.func43, Tryz.ntmps43
 go_wp2; go_ret; exact ⟨_, 1, 1, rfl, hown2.out.mono hbx.out.1.size, hbx.out.1.trans (hd2.out.mono hbx.out.1.size)⟩
set_option maxRecDepth 100000 in
set_option maxHeartbeats 4000000 in
theorem bytes1 (rq : Option Addr) (rn rc : Nat) (kq : Option Addr) (kn kc : Nat) (rows : List RowD) (kids : List KidD) (w : World) (h : ContOn w 1 rq rn rc kq kn kc ⟨1, rows, kids⟩) (hgood : GoodC ⟨1, rows, kids⟩) :
 Calls Tryz.prog 43 #[.agg #[.int .i64 1, .slice rq rn rc, .slice kq kn kc]] w (BytesDoc ⟨1, rows, kids⟩ w) := by
 obtain ⟨W, hW⟩ : ∃ W, w.alloc (.cells #[.int .i64 1, .slice rq rn rc, .slice kq kn kc] 55) = W := ⟨_, rfl⟩; have hbx := lh (one_box hW); have hon := lh (h.below hbx.out.1 (Nat.le_refl _)); have d0 := hbx.out.2.1.cell 0 rfl; have d1 := hbx.out.2.1.cell 1 rfl; have d2 := hbx.out.2.1.cell 2 rfl; have hgood' := lh hgood; clear h hgood; obtain ⟨W2, hW2⟩ : ∃ W2, W.alloc (.cells #[.int .u8 1] 5) = W2 := ⟨_, rfl⟩; have hb2 := lh (one_box hW2); have hm2 : Hid (Row 5 W2 W.heap.size [1]) := by have h := made1 W 1; rw [show ((1 : UInt8).toNat : Int) = 1 from rfl, hW2] at h; exact h
 have hown2 : Hid (Own W2 W.heap.size (.slice (some ⟨W.heap.size, 0, none⟩) 1 1) [1]) := hm2.out.own (Nat.le_refl _) (by unfold maxLen; decide); have hd2 := lh hb2.out.1; have hG := lh ((good1 rfl).1 hgood'.out); have hLn : Hid (rows.length = rn) := hon.out.rows.len; have hn4 : rn ≤ 4 := by rw [← hLn.out]; exact hG.out.1.len
 have e1 := cell_keeps hb2.out.1 (Nat.le_refl _) d1; have e0 := cell_keeps hb2.out.1 (Nat.le_refl _) d0; have hxn : Hid (((UInt8.ofNat rn).toNat : Int) = rn) := by show _ = _; simp; omega
 obtain ⟨W3, hW3⟩ : ∃ W3, W2.alloc (.cells #[.int .u8 rn] 5) = W3 := ⟨_, rfl⟩; have hb3 := lh (one_box hW3); have hm3 : Hid (Row 5 W3 W2.heap.size [UInt8.ofNat rn]) := by have h := made1 W2 (UInt8.ofNat rn); rw [hxn.out, hW3] at h; exact h
 have hown3 := lh (hown2.out.below hb3.out.1); have hd3 := lh (hd2.out.trans (hb3.out.1.mono hd2.out.size)); have hsz3 := lh hd3.out.size
 go_enter Tryz.func43, Tryz.ntmps43
 go_wp2_with (first
  | (at_builtin
     refine wpList_append_bytes rfl (.tmp 16) (.tmp 21) rfl rfl rfl hown3.out (hm3.out.holds 1) (by decide) hsz3.out ?_; intro q4 c4 w4 h4 hg4; have ho4 := lh h4; have hd4 := lh (hown3.out.up hg4 hd3.out (Nat.le_refl _)); have f1 := (hbx.out.2.1.below hd4.out (Nat.le_refl _)).cell 1 rfl
     clear h4 hg4))
 clear hW hW2 hW3 e0 e1 f1 d0 d1 d2; have hr0 : Hid (Own w4 W.heap.size (.slice q4 2 c4) (([1] ++ [UInt8.ofNat rn]) ++ encRows (rows.take 0)) ∧ Below W.heap.size W w4) := ⟨by have h := ho4.out; rw [show encRows (rows.take 0) = [] from rfl, List.append_nil]; exact h, hd4.out⟩
 go_loopw [3, 26] (fun v3 v26 wr => ∃ (k : Nat) (q0 : Option Addr) (n0 cap0 : Nat), k ≤ rn ∧ v26 = .int .i64 k ∧ v3 = .slice q0 n0 cap0 ∧ Hid (Own wr W.heap.size (.slice q0 n0 cap0) (([1] ++ [UInt8.ofNat rn]) ++ encRows (rows.take k)) ∧ Below W.heap.size W wr)) (fun _ v26 _ => rn - (RowKit.intOf v26).toNat)
 case atStart => exact ⟨0, q4, 2, c4, Nat.zero_le _, rfl, rfl, hr0⟩
 case round =>
  obtain ⟨k, q0, n0, cap0, hk, rfl, rfl, hrl⟩ := hrel; have hcut : (encRows (rows.take k)).length ≤ 20 * k := by have h := encRows_len (L := rows.take k) (fun r hr => by obtain ⟨i, hi⟩ := List.mem_iff_getElem?.1 (List.mem_of_mem_take hr); exact (fitsR_ok (hG.out.1.fits i r hi)).2.2); rw [List.length_take] at h; omega
  have hn0 : n0 ≤ 2 + 20 * k := by have h := holds_len hrl.out.1.holds.1; rw [List.length_append] at h; simp at h; omega
  clear hcut
  by_cases hlt : k < rn
  · obtain ⟨A, ⟨⟨t, id⟩, v, s⟩, hqA, hx, hok, hcA⟩ := (hon.out.rows.below hrl.out.2 (Nat.le_refl _)).at hlt; subst hqA; have hcell : Hid (∀ j x, ([.int .i64 t, .int .u16 id, .int .i64 v, .string s] : List Value)[j]? = some x → wr.cell? ((A.add (k * 4)).add j) = some x) := hcA; have hsz := sizeRow t id v s; have hx' := lh hx; have hfit := fitsR_ok (hG.out.1.fits k _ hx); obtain ⟨t0, t1, h8⟩ := hfit; have hidd := hok.key.id; have hi0 : 0 ≤ id := hidd.1; have hi1 : id < 65536 := hidd.2; have hst := lh (encRows_step hx); obtain ⟨WA, hWA⟩ : ∃ W', wr.alloc (.cells #[.int .i64 t, .int .u16 id, .int .i64 v, .string s] 68) = W' := ⟨_, rfl⟩; have hbA := lh (one_box hWA); have hdA := lh (hrl.out.2.trans (hbA.out.1.mono hrl.out.2.size)); have hownA := lh (hrl.out.1.below hbA.out.1); clear hx hok hcA hidd
    go_wp2_with (first
     | (with_reducible refine wpList_load_at rfl 68 (.tmp 28) rfl Tryz.underlying68 rfl hsz rfl hcell.out ?_)
     | (with_reducible refine wpList_load_at rfl 68 (.tmp 5) rfl Tryz.underlying68 rfl hsz rfl hbA.out.2.1.all ?_))
    clear hWA; refine (row_doc t id v s WA t0 t1 hi0 hi1 h8).mono ?_; rintro e w5 ⟨q5, c5, rfl, ho5, hb5⟩; have ho5' := lh ho5; have hown5 := lh (hownA.out.below hb5); have hd5 := lh (hdA.out.trans (hb5.mono hdA.out.size)); have hsz5 := lh hd5.out.size; clear ho5 hb5
    go_wp2_with (first
     | (at_builtin
        refine wpList_append_bytes rfl (.tmp 30) (.tmp 32) rfl rfl rfl hown5.out ho5'.out.holds.1 (by omega) hsz5.out ?_; intro q6 c6 w6 h6 hg6; have hnew : Hid (Own w6 W.heap.size (.slice q6 (n0 + (12 + s.size)) c6) (([1] ++ [UInt8.ofNat rn]) ++ encRows (rows.take (k + 1))) ∧ Below W.heap.size W w6) := ⟨by rw [hst.out, ← List.append_assoc]; exact h6, hown5.out.up hg6 hd5.out (Nat.le_refl _)⟩
        clear h6 hg6))
    go_roundw
    case rel => exact ⟨k + 1, q6, n0 + (12 + s.size), c6, by omega, by go_num, rfl, hnew⟩
    case measure => simp [RowKit.intOf]; omega
  · obtain rfl : rn = k := by omega
    have hfin : Hid (Own wr W.heap.size (.slice q0 n0 cap0) (encC ⟨1, rows, kids⟩)) := by
     have h := hrl.out.1; rw [List.take_of_length_le (by rw [hLn.out]; exact Nat.le_refl _)] at h
     have e : encC ⟨1, rows, kids⟩ = ([1] ++ [UInt8.ofNat rn]) ++ encRows rows := by rw [← hLn.out]; rfl
     show Own _ _ _ _; rw [e]; exact h
    go_wp2; go_ret; exact ⟨q0, n0, cap0, rfl, hfin.out.mono hbx.out.1.size, hbx.out.1.trans (hrl.out.2.mono hbx.out.1.size)⟩
set_option maxRecDepth 100000 in
set_option maxHeartbeats 4000000 in
theorem bytes2 (rq : Option Addr) (rn rc : Nat) (kq : Option Addr) (kn kc : Nat) (rows : List RowD) (kids : List KidD) (w : World) (h : ContOn w 2 rq rn rc kq kn kc ⟨2, rows, kids⟩) (hgood : GoodC ⟨2, rows, kids⟩) :
 Calls Tryz.prog 43 #[.agg #[.int .i64 2, .slice rq rn rc, .slice kq kn kc]] w (BytesDoc ⟨2, rows, kids⟩ w) := by
 obtain ⟨W, hW⟩ : ∃ W, w.alloc (.cells #[.int .i64 2, .slice rq rn rc, .slice kq kn kc] 55) = W := ⟨_, rfl⟩; have hbx := lh (one_box hW); have hon := lh (h.below hbx.out.1 (Nat.le_refl _)); have d0 := hbx.out.2.1.cell 0 rfl; have d1 := hbx.out.2.1.cell 1 rfl; have d2 := hbx.out.2.1.cell 2 rfl; have hgood' := lh hgood; clear h hgood; obtain ⟨W2, hW2⟩ : ∃ W2, W.alloc (.cells #[.int .u8 2] 5) = W2 := ⟨_, rfl⟩; have hb2 := lh (one_box hW2); have hm2 : Hid (Row 5 W2 W.heap.size [2]) := by have h := made1 W 2; rw [show ((2 : UInt8).toNat : Int) = 2 from rfl, hW2] at h; exact h
 have hown2 : Hid (Own W2 W.heap.size (.slice (some ⟨W.heap.size, 0, none⟩) 1 1) [2]) := hm2.out.own (Nat.le_refl _) (by unfold maxLen; decide); have hd2 := lh hb2.out.1; have hG := lh ((good2 rfl).1 hgood'.out); have hLn : Hid (kids.length = kn) := hon.out.kids.len; have hn4 : kn ≤ 4 := by rw [← hLn.out]; exact hG.out.1.len
 have e1 := cell_keeps hb2.out.1 (Nat.le_refl _) d2; have e0 := cell_keeps hb2.out.1 (Nat.le_refl _) d0; have hxn : Hid (((UInt8.ofNat kn).toNat : Int) = kn) := by show _ = _; simp; omega
 obtain ⟨W3, hW3⟩ : ∃ W3, W2.alloc (.cells #[.int .u8 kn] 5) = W3 := ⟨_, rfl⟩; have hb3 := lh (one_box hW3); have hm3 : Hid (Row 5 W3 W2.heap.size [UInt8.ofNat kn]) := by have h := made1 W2 (UInt8.ofNat kn); rw [hxn.out, hW3] at h; exact h
 have hown3 := lh (hown2.out.below hb3.out.1); have hd3 := lh (hd2.out.trans (hb3.out.1.mono hd2.out.size)); have hsz3 := lh hd3.out.size
 go_enter Tryz.func43, Tryz.ntmps43
 go_wp2_with (first
  | (at_builtin
     refine wpList_append_bytes rfl (.tmp 37) (.tmp 42) rfl rfl rfl hown3.out (hm3.out.holds 1) (by decide) hsz3.out ?_; intro q4 c4 w4 h4 hg4; have ho4 := lh h4; have hd4 := lh (hown3.out.up hg4 hd3.out (Nat.le_refl _)); have f1 := (hbx.out.2.1.below hd4.out (Nat.le_refl _)).cell 2 rfl
     clear h4 hg4))
 clear hW hW2 hW3 e0 e1 f1 d0 d1 d2; have hr0 : Hid (Own w4 W.heap.size (.slice q4 2 c4) (([2] ++ [UInt8.ofNat kn]) ++ encKids (kids.take 0)) ∧ Below W.heap.size W w4) := ⟨by have h := ho4.out; rw [show encKids (kids.take 0) = [] from rfl, List.append_nil]; exact h, hd4.out⟩
 go_loopw [3, 47] (fun v3 v47 wr => ∃ (k : Nat) (q0 : Option Addr) (n0 cap0 : Nat), k ≤ kn ∧ v47 = .int .i64 k ∧ v3 = .slice q0 n0 cap0 ∧ Hid (Own wr W.heap.size (.slice q0 n0 cap0) (([2] ++ [UInt8.ofNat kn]) ++ encKids (kids.take k)) ∧ Below W.heap.size W wr)) (fun _ v47 _ => kn - (RowKit.intOf v47).toNat)
 case atStart => exact ⟨0, q4, 2, c4, Nat.zero_le _, rfl, rfl, hr0⟩
 case round =>
  obtain ⟨k, q0, n0, cap0, hk, rfl, rfl, hrl⟩ := hrel; have hcut : (encKids (kids.take k)).length ≤ 20 * k := by have h := encKids_len (kids.take k); rw [List.length_take] at h; omega
  have hn0 : n0 ≤ 2 + 20 * k := by have h := holds_len hrl.out.1.holds.1; rw [List.length_append] at h; simp at h; omega
  clear hcut
  by_cases hlt : k < kn
  · obtain ⟨A, ⟨⟨t, id⟩, v⟩, hqA, hx, hok, hcA⟩ := (hon.out.kids.below hrl.out.2 (Nat.le_refl _)).at hlt; subst hqA; have hcell : Hid (∀ j x, ([.int .i64 t, .int .u16 id, .int .i64 v] : List Value)[j]? = some x → wr.cell? ((A.add (k * 3)).add j) = some x) := hcA; have hsz := sizeKid t id v; have hs3 := sizeKey t id; have hx' := lh hx; have hfit := fitsK_ok (hG.out.1.fits k _ hx); obtain ⟨t0, t1, p0, p1⟩ := hfit; have hidd := hok.key.id; have hi0 : 0 ≤ id := hidd.1; have hi1 : id < 65536 := hidd.2; have hst := lh (encKids_step hx); obtain ⟨WA, hWA⟩ : ∃ W', wr.alloc (.cells #[.int .i64 t, .int .u16 id, .int .i64 v] 100) = W' := ⟨_, rfl⟩; have hbA := lh (one_box hWA); have hdA := lh (hrl.out.2.trans (hbA.out.1.mono hrl.out.2.size)); have hownA := lh (hrl.out.1.below hbA.out.1); have hbv : Hid (RowV 100 WA wr.heap.size [.int .i64 t, .int .u16 id, .int .i64 v]) := by show RowV _ _ _ _; rw [← hWA]; exact RowV.made wr _
    have hkey : Hid (∀ u, Below W.heap.size W u ∧ RowV 100 u wr.heap.size [.int .i64 t, .int .u16 id, .int .i64 v] → ∀ j x, ([.int .i64 t, .int .u16 id] : List Value)[j]? = some x → u.cell? ((⟨wr.heap.size, 0, none⟩ : Addr).add j) = some x) := fun u hu => hu.2.part (pre := []) (rest := [.int .i64 v]) rfl rfl
    have hp0 : 1 ≤ v := p0; have hp1 : v < 64 := p1; have ht0 : 0 ≤ t := t0; have ht3 : t < 3 := t1; have hfar := fun a ha => (hrl.out.1.holds.2.2 a ha).2
    clear p0 p1 t0 t1; have hwv : IntKind.u8.wrap v = v := by show v % 256 = v; omega
    have hxv : ((UInt8.ofNat v.toNat).toNat : Int) = v := ofNat_int (by omega) (by omega); clear hx hok hcA hidd
    go_wp2_with (first
     | (with_reducible refine wpList_load_at rfl 100 (.tmp 49) rfl Tryz.underlying100 rfl hsz rfl hcell.out ?_))
    refine wp_region_held (S := fun u => Below W.heap.size W u ∧ RowV 100 u wr.heap.size [.int .i64 t, .int .u16 id, .int .i64 v]) (by kernel_rfl) ?_
    try rw [hWA]
    change wpAnyH _ _ _ _ _ _ _ _ (World.drew WA); have hS0 : Below W.heap.size W WA.drew ∧ RowV 100 WA.drew wr.heap.size [.int .i64 t, .int .u16 id, .int .i64 v] := ⟨below_step (below_drew WA) hdA.out, hbv.out.below (below_drew WA)⟩; refine tg 0 51 (.slice q0 n0 cap0) hS0 ?_; go_frame; refine tg 1 52 (.pointer (some ⟨wr.heap.size, 0, none⟩)) hS0 ?_; go_frame; refine held_tk (i := 2) (dst := some 53) rfl rfl (y_load_agg 66 (.tmp 52) rfl rfl rfl (fun u hu => run_loadVar_at Tryz.underlying66 rfl hs3 _ (hkey.out u hu))) hS0 ?_; go_frame; refine tg 5 56 (.pointer (some ⟨wr.heap.size, 2, none⟩)) hS0 ?_; go_frame; refine held_tk (i := 6) (dst := some 57) (v := .int .i64 v) rfl rfl (.inl ⟨rfl, fun u hu => by have c9 : u.cell? ⟨wr.heap.size, 2, none⟩ = some (.int .i64 v) := hu.2.cell 2; go_simp⟩) hS0 ?_; go_frame; refine tg 7 58 (.int .u8 v) hS0 ?_; go_frame
    refine held_three (i := 3) (j := 4) (p := 8) (fuel := 2) (L := fun bi bj bp => #[true, true, true, bi, bj, true, true, true, bp, false, false]) (A := fun x y z => putW (some 54) x (putW (some 55) y (putW (some 59) z _)))
     (K := KidK W wr q0 n0 cap0 (([2] ++ [UInt8.ofNat kn]) ++ encKids (kids.take k)) t id v) rfl rfl rfl (fun _ _ => rfl) (fun _ _ => rfl) (fun _ _ => rfl)
     (fun x y v => rfl) (fun x y v => putW_put (by decide) x _ v) (fun x y v => (putW_put (by decide) x _ v).trans (congrArg _ (putW_put (by decide) y _ v)))
     (fun _ _ _ => rfl) (fun _ _ _ => rfl) (fun _ _ _ => rfl)
     (fun bi bj bp h1 h2 => by cases bi <;> cases bj <;> cases bp <;> first | (exact absurd (h1 rfl) (by decide)) | (exact absurd h2 (by decide)) | kernel_rfl)
     ?si ?sj ?sp ?ends 3 none none none WA.drew (fun h => h) rfl ⟨hS0.1, hS0.2, fun _ => hownA.out.below (below_drew WA), fun _ h => (by cases h), fun _ h => (by cases h), fun _ h => (by cases h)⟩
    case si =>
     intro z u hk; refine .inl ⟨_, _, _, ?_, key_doc t id u ht0 ht3 hi0 hi1, ?_⟩
     · cases z <;> (simp only [putW]; go_simp)
     · rintro e u' ⟨q5, c5, rfl, ho5, hb5⟩; exact ⟨_, rfl, ⟨below_step hb5 hk.b, hk.bx.below hb5⟩, hk.keyed hb5 ho5⟩
    case sj => intro x z u hk; obtain ⟨q5, c5, rfl, ho5⟩ := hk.ky _ rfl rfl; obtain ⟨q6, c6, w6, hrun, h6, hg6⟩ := run_append_bytes (m := 3) 36 (hk.o rfl) ho5 (by omega) hk.b.size; have hk6 := hk.put hfar h6 hg6; refine .inr ⟨.slice q6 (n0 + 3) c6, w6, ?_, ⟨hk6.b, hk6.bx⟩, hk6⟩; cases z <;> (simp only [putW]; exact run_append_oper (sl := .tmp 51) (x := .tmp 54) rfl rfl rfl hrun)
    case sp =>
     intro x y u hk; have hbu : Below u.heap.size u (u.alloc (.cells #[.int .u8 v] 5)) := (Below.refl _ _).alloc (Nat.le_refl _) _
     have hru : Row 5 (u.alloc (.cells #[.int .u8 v] 5)) u.heap.size [UInt8.ofNat v.toNat] := by have h := made1 u (UInt8.ofNat v.toNat); rw [hxv] at h; exact h
     have hk6 := hk.made hfar hbu hru; refine .inr ⟨.slice (some ⟨u.heap.size, 0, none⟩) 1 1, u.alloc (.cells #[.int .u8 v] 5), ?_, ⟨hk6.b, hk6.bx⟩, hk6⟩; cases x <;> cases y <;> (simp only [putW]; go_simp)
    case ends =>
     intro x y z u hk; obtain ⟨q6, c6, rfl, h6⟩ := hk.yo _ rfl; obtain ⟨r, rfl, hr, _⟩ := hk.zo _ rfl; simp only [putW]; go_frame; obtain ⟨q7, c7, w7, hrun, h7, hg7⟩ := run_append_bytes (m := 1) 36 h6 (hr.holds 1) (by omega) hk.b.size; have hb7 := h6.up hg7 hk.b (Nat.le_refl _); have hS7 : Below W.heap.size W w7 ∧ RowV 100 w7 wr.heap.size [.int .i64 t, .int .u16 id, .int .i64 v] := ⟨hb7, hk.bx.block (grown_keep hg7 hk.bx.lt (own_ne h6 hk.bx))⟩
     have hnew : Hid (Own w7 W.heap.size (.slice q7 (n0 + 4) c7) (([2] ++ [UInt8.ofNat kn]) ++ encKids (kids.take (k + 1))) ∧ Below W.heap.size W w7) := ⟨by
      rw [hst.out, ← List.append_assoc]; show Own _ _ _ (_ ++ (encKey ⟨t, id⟩ ++ [UInt8.ofNat v.toNat])); rw [← List.append_assoc]
      exact h7, hb7⟩
     refine held_value (i := 9) (dst := some 60) (v := .slice q7 (n0 + 4) c7) (w' := w7) rfl rfl (by kernel_rfl) rfl (run_append_oper (sl := .tmp 55) (x := .tmp 59) rfl rfl rfl hrun) hS7 ?_; go_frame; refine tg 10 3 (.slice q7 (n0 + 4) c7) hS7 ?_; go_frame; refine wpAnyH_done (by kernel_rfl) ?_ _; clear hrun h6 h7 hg7 hb7 hS7 hS0 hr hk hwv hxv; go_wp2
     go_roundw
     case rel => exact ⟨k + 1, q7, n0 + 4, c7, by omega, by go_num, rfl, hnew⟩
     case measure => simp [RowKit.intOf]; omega
  · obtain rfl : kn = k := by omega
    have hfin : Hid (Own wr W.heap.size (.slice q0 n0 cap0) (encC ⟨2, rows, kids⟩)) := by
     have h := hrl.out.1; rw [List.take_of_length_le (by rw [hLn.out]; exact Nat.le_refl _)] at h
     have e : encC ⟨2, rows, kids⟩ = ([2] ++ [UInt8.ofNat kn]) ++ encKids kids := by rw [← hLn.out]; rfl
     show Own _ _ _ _; rw [e]; exact h
    go_wp2; go_ret; exact ⟨q0, n0, cap0, rfl, hfin.out.mono hbx.out.1.size, hbx.out.1.trans (hrl.out.2.mono hbx.out.1.size)⟩
theorem bytes_doc (k : Int) (rq : Option Addr) (rn rc : Nat) (kq : Option Addr) (kn kc : Nat) (c : ContD) (w : World) (h : ContOn w k rq rn rc kq kn kc c) (hgood : GoodC c) :
 Calls Tryz.prog 43 #[.agg #[.int .i64 k, .slice rq rn rc, .slice kq kn kc]] w (BytesDoc c w) := by
 obtain ⟨ck, rows, kids⟩ := c; obtain rfl : k = ck := h.kind; rcases hgood with ⟨h0, h1⟩ | ⟨h0, h1⟩ | ⟨h0, h1⟩
 · obtain rfl : k = 0 := h0; exact bytes0 rq rn rc kq kn kc rows kids w h (.inl ⟨rfl, h1⟩)
 · obtain rfl : k = 1 := h0; exact bytes1 rq rn rc kq kn kc rows kids w h (.inr (.inl ⟨rfl, h1⟩))
 · obtain rfl : k = 2 := h0; exact bytes2 rq rn rc kq kn kc rows kids w h (.inr (.inr ⟨rfl, h1⟩))
end Go.Proofs.YtocekhckmpkbmaaGreat
