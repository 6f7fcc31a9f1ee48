/- Parts of the proof: Content and Row of codec; Kids compared; Same of codec; Plain mathematics of what is read: bytes of what was taken -/
import Derived.Test.YtocekhckmpkbmaaGreatU06
import Derived.Test.YtocekhckmpkbmaaGreatU01
namespace Go.Proofs.YtocekhckmpkbmaaGreat
open Go.RowKit
def encRows (L : List RowD) : List UInt8 := L.flatMap encRow
def encKids (L : List KidD) : List UInt8 := L.flatMap encKid
def encC (c : ContD) : List UInt8 := if c.kind = 1 then [1] ++ ([UInt8.ofNat c.rows.length] ++ encRows c.rows) else if c.kind = 2 then [2] ++ ([UInt8.ofNat c.kids.length] ++ encKids c.kids) else [0]
theorem encRow_len (r : RowD) : (encRow r).length = 12 + r.note.size := by
 unfold encRow; rw [List.length_append, List.length_append, List.length_append, encKey_len, length_be, List.length_singleton, Array.length_toList]; rfl
theorem encKid_len (k : KidD) : (encKid k).length = 4 := by
 unfold encKid; rw [List.length_append, encKey_len, List.length_singleton]
theorem encRows_step {L : List RowD} {k : Nat} {r : RowD} (h : L[k]? = some r) : encRows (L.take (k + 1)) = encRows (L.take k) ++ encRow r := by
 unfold encRows; rw [List.take_add_one, h, List.flatMap_append]; simp
theorem encKids_step {L : List KidD} {k : Nat} {r : KidD} (h : L[k]? = some r) : encKids (L.take (k + 1)) = encKids (L.take k) ++ encKid r := by
 unfold encKids; rw [List.take_add_one, h, List.flatMap_append]; simp
theorem fitsR_ok {L : List RowD} {r : RowD} (h : fitsR L r = true) : 0 ≤ r.key.t ∧ r.key.t < 3 ∧ r.note.size ≤ 8 := by
 unfold fitsR at h; rw [Bool.and_eq_true, decide_eq_true_eq] at h; have h1 := h.1; unfold chkRowC at h1
 split at h1
 · rename_i hh
   have := hh.1; unfold tabB at this; simp at this; exact ⟨this.1, this.2, hh.2⟩
 · cases h1
theorem fitsK_ok {L : List KidD} {r : KidD} (h : fitsK L r = true) : 0 ≤ r.least.t ∧ r.least.t < 3 ∧ 1 ≤ r.page ∧ r.page < 64 := by
 unfold fitsK tabB at h; simp at h; exact ⟨h.1.1.1, h.1.1.2, h.1.2.1, h.1.2.2⟩
theorem encRows_len {L : List RowD} (h : ∀ r ∈ L, r.note.size ≤ 8) : (encRows L).length ≤ 20 * L.length := by
 induction L with
 | nil => simp [encRows]
 | cons a l ih =>
   have h1 := h a (List.mem_cons_self ..); have h2 := ih (fun r hr => h r (List.mem_cons_of_mem _ hr)); have e : encRows (a :: l) = encRow a ++ encRows l := by simp [encRows]
   rw [e, List.length_append, encRow_len, List.length_cons]; omega
theorem encKids_len (L : List KidD) : (encKids L).length = 4 * L.length := by
 induction L with
 | nil => simp [encKids]
 | cons a l ih =>
   have e : encKids (a :: l) = encKid a ++ encKids l := by simp [encKids]
   rw [e, List.length_append, encKid_len, List.length_cons, ih]; omega
def CtPost (c : ContD) (w : World) (e : Ending) (w' : World) : Prop :=
 ∃ q n cp er, e = .returned (.tuple #[.slice q n cp, .int .i64 er]) ∧ ((er = 0 ∧ GoodC c ∧ Own w' w.heap.size (.slice q n cp) (encC c)) ∨ (er = 160 ∧ ¬ GoodC c ∧ n = 0 ∧ q = none ∧ cp = 0)) ∧ Below w.heap.size w w'
set_option maxRecDepth 100000 in
set_option maxHeartbeats 2000000 in
theorem row_any (t id v : Int) (s : ByteArray) (w : World) (hok : RowOk ⟨⟨t, id⟩, v, s⟩) :
 Calls Tryz.prog 134 #[.agg #[.int .i64 t, .int .u16 id, .int .i64 v, .string s]] w (fun e w' => ∃ q n cp er, e = .returned (.tuple #[.slice q n cp, .int .i64 er]) ∧ ((er = 0 ∧ chkRowC ⟨⟨t, id⟩, v, s⟩ = 0 ∧ Own w' w.heap.size (.slice q n cp) (encRow ⟨⟨t, id⟩, v, s⟩)) ∨ (er = 151 ∧ chkRowC ⟨⟨t, id⟩, v, s⟩ = 151 ∧ n = 0)) ∧ Below w.heap.size w w') := by
 obtain ⟨W, hW⟩ : ∃ W, w.alloc (.cells #[.int .i64 t, .int .u16 id, .int .i64 v, .string s] 68) = W := ⟨_, rfl⟩; have hbx := lh (one_box hW); have hs2 := sizeRow t id v s; have hck := lh (checkRow_any t id v s W hok.note); have hid0 := hok.key.id; obtain ⟨x, hx⟩ : ∃ x, chkRowC ⟨⟨t, id⟩, v, s⟩ = x := ⟨_, rfl⟩; rw [hx] at hck; have hx' := lh hx; have hor := chkRowC_or ⟨⟨t, id⟩, v, s⟩; rw [hx] at hor; have hf : x = 0 → 0 ≤ t ∧ t < 3 ∧ s.size ≤ 8 := fun h0 => fitsR_ok (L := []) (r := ⟨⟨t, id⟩, v, s⟩) (by unfold fitsR; rw [hx, h0]; rfl)
 have hi0 : 0 ≤ id := hid0.1; have hi1 : id < 65536 := hid0.2; clear hx hok hid0; rcases hor with rfl | rfl
 · obtain ⟨t0, t1, h8⟩ := hf rfl; clear hf
   go_enter Tryz.func134, Tryz.ntmps134
   go_wp2_with (first
    | (with_reducible refine wpList_load_at rfl 68 (.tmp 1) rfl Tryz.underlying68 rfl hs2 rfl hbx.out.2.1.all ?_))
   clear hW; refine hck.out.mono ?_; clear hck; rintro e w1 ⟨rfl, hb1⟩; have hd := lh (hbx.out.1.trans (hb1.mono hbx.out.1.size)); have b1 := lh (hbx.out.2.1.below hb1 (Nat.le_refl _)); clear hb1
   go_wp2_with (first
    | (with_reducible refine wpList_load_at rfl 68 (.tmp 1) rfl Tryz.underlying68 rfl hs2 rfl b1.out.all ?_))
   refine (rowBytes_any t id v s w1 t0 (by omega) hi0 hi1 h8).mono ?_; rintro e w2 ⟨q, cp, rfl, ho, hb2⟩; have ho' := lh ho; have hd2 := lh (hd.out.trans (hb2.mono hd.out.size)); clear ho hb2; go_wp2
   go_ret2
   exact ⟨q, _, cp, 0, rfl, .inl ⟨rfl, hx'.out, ho'.out.mono hd.out.size⟩, hd2.out⟩
 · go_enter Tryz.func134, Tryz.ntmps134
   go_wp2_with (first
    | (with_reducible refine wpList_load_at rfl 68 (.tmp 1) rfl Tryz.underlying68 rfl hs2 rfl hbx.out.2.1.all ?_))
   clear hW; refine hck.out.mono ?_; clear hck; rintro e w1 ⟨rfl, hb1⟩; have hd := lh (hbx.out.1.trans (hb1.mono hbx.out.1.size)); clear hb1 hf; go_wp2
   go_ret2
   exact ⟨none, 0, 0, 151, rfl, .inr ⟨rfl, hx'.out, rfl⟩, hd.out⟩
set_option maxRecDepth 100000 in
set_option maxHeartbeats 4000000 in
theorem contentN (k : Int) (rq : Option Addr) (rn rc : Nat) (kq : Option Addr) (kn kc : Nat) (rows : List RowD) (kids : List KidD) (w : World) (h : ContOn w k rq rn rc kq kn kc ⟨k, rows, kids⟩) (h0 : k ≠ 0) (h1 : k ≠ 1) (h2 : k ≠ 2) :
 Calls Tryz.prog 133 #[.agg #[.int .i64 k, .slice rq rn rc, .slice kq kn kc]] w (CtPost ⟨k, rows, kids⟩ w) := by
 obtain ⟨W, hW⟩ : ∃ W, w.alloc (.cells #[.int .i64 k, .slice rq rn rc, .slice kq kn kc] 55) = W := ⟨_, rfl⟩; have hbx := lh (one_box hW); have hs2 := sizeCont (.int .i64 k) (.slice rq rn rc) (.slice kq kn kc); have hon := lh (h.below hbx.out.1 (Nat.le_refl _)); clear h
 go_enter Tryz.func133, Tryz.ntmps133
 go_wp2_with (first
  | (with_reducible refine wpList_load_at rfl 55 (.tmp 1) rfl Tryz.underlying55 rfl hs2 rfl hbx.out.2.1.all ?_))
 clear hW; refine (check_any k rq rn rc kq kn kc ⟨k, rows, kids⟩ W hon.out).mono ?_; rintro e w1 ⟨x, rfl, hx, hb1⟩; have hd := lh hb1; have hup := lh (hbx.out.1.trans (hb1.mono hbx.out.1.size)); have d0 := (hbx.out.2.1.below hb1 (Nat.le_refl _)).cell 0 rfl; have d1 := (hbx.out.2.1.below hb1 (Nat.le_refl _)).cell 1 rfl; have d2 := (hbx.out.2.1.below hb1 (Nat.le_refl _)).cell 2 rfl; clear hb1; rcases hx with ⟨rfl, hgood⟩ | ⟨rfl, hbad⟩
 · have hgood' := lh hgood; clear hgood; exact absurd hgood'.out (goodN h0 h1 h2)
 · have hbad' := lh hbad; clear hbad d0 d1 d2; go_wp2
   go_ret2
   exact ⟨none, 0, 0, 160, rfl, .inr ⟨rfl, hbad'.out, rfl, rfl, rfl⟩, hup.out⟩
set_option maxRecDepth 100000 in
set_option maxHeartbeats 4000000 in
theorem content0 (rq : Option Addr) (rn rc : Nat) (kq : Option Addr) (kn kc : Nat) (rows : List RowD) (kids : List KidD) (w : World) (h : ContOn w 0 rq rn rc kq kn kc ⟨0, rows, kids⟩) :
 Calls Tryz.prog 133 #[.agg #[.int .i64 0, .slice rq rn rc, .slice kq kn kc]] w (CtPost ⟨0, rows, kids⟩ w) := by
 obtain ⟨W, hW⟩ : ∃ W, w.alloc (.cells #[.int .i64 0, .slice rq rn rc, .slice kq kn kc] 55) = W := ⟨_, rfl⟩; have hbx := lh (one_box hW); have hs2 := sizeCont (.int .i64 0) (.slice rq rn rc) (.slice kq kn kc); have hon := lh (h.below hbx.out.1 (Nat.le_refl _)); clear h
 go_enter Tryz.func133, Tryz.ntmps133
 go_wp2_with (first
  | (with_reducible refine wpList_load_at rfl 55 (.tmp 1) rfl Tryz.underlying55 rfl hs2 rfl hbx.out.2.1.all ?_))
 clear hW; refine (check_any 0 rq rn rc kq kn kc ⟨0, rows, kids⟩ W hon.out).mono ?_; rintro e w1 ⟨x, rfl, hx, hb1⟩; have hd := lh hb1; have hup := lh (hbx.out.1.trans (hb1.mono hbx.out.1.size)); have d0 := (hbx.out.2.1.below hb1 (Nat.le_refl _)).cell 0 rfl; have d1 := (hbx.out.2.1.below hb1 (Nat.le_refl _)).cell 1 rfl; have d2 := (hbx.out.2.1.below hb1 (Nat.le_refl _)).cell 2 rfl; clear hb1; rcases hx with ⟨rfl, hgood⟩ | ⟨rfl, hbad⟩
 · have hgood' := lh hgood; clear hgood; obtain ⟨W2, hW2⟩ : ∃ W2, w1.alloc (.cells #[.int .u8 0] 5) = W2 := ⟨_, rfl⟩; have hb2 := lh (one_box hW2); have hm2 : Hid (Row 5 W2 w1.heap.size [0]) := by have h := made1 w1 0; rw [show ((0 : UInt8).toNat : Int) = 0 from rfl, hW2] at h; exact h
   have hown2 : Hid (Own W2 W.heap.size (.slice (some ⟨w1.heap.size, 0, none⟩) 1 1) [0]) := hm2.out.own hd.out.size (by unfold maxLen; decide); have hd2 := lh (hd.out.trans (hb2.out.1.mono hd.out.size)); clear d1 d2; have d0' := cell_keeps hb2.out.1 (Nat.le_refl _) d0; go_wp2
   go_ret2
   exact ⟨_, 1, 1, 0, rfl, .inl ⟨rfl, hgood'.out, hown2.out.mono hbx.out.1.size⟩, hbx.out.1.trans (hd2.out.mono hbx.out.1.size)⟩
 · have hbad' := lh hbad; clear hbad d0 d1 d2; go_wp2
   go_ret2
   exact ⟨none, 0, 0, 160, rfl, .inr ⟨rfl, hbad'.out, rfl, rfl, rfl⟩, hup.out⟩
set_option maxRecDepth 100000 in
set_option maxHeartbeats 4000000 in
theorem content1 (rq : Option Addr) (rn rc : Nat) (kq : Option Addr) (kn kc : Nat) (rows : List RowD) (kids : List KidD) (w : World) (h : ContOn w 1 rq rn rc kq kn kc ⟨1, rows, kids⟩) :
 Calls Tryz.prog 133 #[.agg #[.int .i64 1, .slice rq rn rc, .slice kq kn kc]] w (CtPost ⟨1, rows, kids⟩ w) := by
 obtain ⟨W, hW⟩ : ∃ W, w.alloc (.cells #[.int .i64 1, .slice rq rn rc, .slice kq kn kc] 55) = W := ⟨_, rfl⟩; have hbx := lh (one_box hW); have hs2 := sizeCont (.int .i64 1) (.slice rq rn rc) (.slice kq kn kc); have hon := lh (h.below hbx.out.1 (Nat.le_refl _)); clear h
 go_enter Tryz.func133, Tryz.ntmps133
 go_wp2_with (first
  | (with_reducible refine wpList_load_at rfl 55 (.tmp 1) rfl Tryz.underlying55 rfl hs2 rfl hbx.out.2.1.all ?_))
 clear hW; refine (check_any 1 rq rn rc kq kn kc ⟨1, rows, kids⟩ W hon.out).mono ?_; rintro e w1 ⟨x, rfl, hx, hb1⟩; have hd := lh hb1; have hup := lh (hbx.out.1.trans (hb1.mono hbx.out.1.size)); have d0 := (hbx.out.2.1.below hb1 (Nat.le_refl _)).cell 0 rfl; have d1 := (hbx.out.2.1.below hb1 (Nat.le_refl _)).cell 1 rfl; have d2 := (hbx.out.2.1.below hb1 (Nat.le_refl _)).cell 2 rfl; clear hb1; rcases hx with ⟨rfl, hgood⟩ | ⟨rfl, hbad⟩
 · have hgood' := lh hgood; clear hgood; obtain ⟨W2, hW2⟩ : ∃ W2, w1.alloc (.cells #[.int .u8 1] 5) = W2 := ⟨_, rfl⟩; have hb2 := lh (one_box hW2); have hm2 : Hid (Row 5 W2 w1.heap.size [1]) := by have h := made1 w1 1; rw [show ((1 : UInt8).toNat : Int) = 1 from rfl, hW2] at h; exact h
   have hown2 : Hid (Own W2 W.heap.size (.slice (some ⟨w1.heap.size, 0, none⟩) 1 1) [1]) := hm2.out.own hd.out.size (by unfold maxLen; decide); have hd2 := lh (hd.out.trans (hb2.out.1.mono hd.out.size)); have hG := lh ((good1 rfl).1 hgood'.out); have hLn : Hid (rows.length = rn) := hon.out.rows.len; have hn4 : rn ≤ 4 := by rw [← hLn.out]; exact hG.out.1.len
   have e1 := cell_keeps hb2.out.1 (Nat.le_refl _) d1; have e0 := cell_keeps hb2.out.1 (Nat.le_refl _) d0; have hxn : Hid (((UInt8.ofNat rn).toNat : Int) = rn) := by show _ = _; simp; omega
   obtain ⟨W3, hW3⟩ : ∃ W3, W2.alloc (.cells #[.int .u8 rn] 5) = W3 := ⟨_, rfl⟩; have hb3 := lh (one_box hW3); have hm3 : Hid (Row 5 W3 W2.heap.size [UInt8.ofNat rn]) := by have h := made1 W2 (UInt8.ofNat rn); rw [hxn.out, hW3] at h; exact h
   have hown3 := lh (hown2.out.below hb3.out.1); have hd3 := lh (hd2.out.trans (hb3.out.1.mono hd2.out.size)); have hsz3 := lh hd3.out.size
   go_wp2_with (first
    | (at_builtin
       refine wpList_append_bytes rfl (.tmp 23) (.tmp 28) rfl rfl rfl hown3.out (hm3.out.holds 1) (by decide) hsz3.out ?_; intro q4 c4 w4 h4 hg4; have ho4 := lh h4; have hd4 := lh (hown3.out.up hg4 hd3.out (Nat.le_refl _)); have f1 := (hbx.out.2.1.below hd4.out (Nat.le_refl _)).cell 1 rfl
       clear h4 hg4))
   clear hW2 hW3 e0 e1 f1 d0 d1 d2; have hr0 : Hid (Own w4 W.heap.size (.slice q4 2 c4) (([1] ++ [UInt8.ofNat rn]) ++ encRows (rows.take 0)) ∧ Below W.heap.size W w4) := ⟨by have h := ho4.out; rw [show encRows (rows.take 0) = [] from rfl, List.append_nil]; exact h, hd4.out⟩
   go_loopw [5, 33] (fun v5 v33 wr => ∃ (k : Nat) (q0 : Option Addr) (n0 cap0 : Nat), k ≤ rn ∧ v33 = .int .i64 k ∧ v5 = .slice q0 n0 cap0 ∧ Hid (Own wr W.heap.size (.slice q0 n0 cap0) (([1] ++ [UInt8.ofNat rn]) ++ encRows (rows.take k)) ∧ Below W.heap.size W wr)) (fun _ v33 _ => rn - (RowKit.intOf v33).toNat)
   case atStart => exact ⟨0, q4, 2, c4, Nat.zero_le _, rfl, rfl, hr0⟩
   case round =>
    obtain ⟨k, q0, n0, cap0, hk, rfl, rfl, hrl⟩ := hrel; have hcut : (encRows (rows.take k)).length ≤ 20 * k := by have h := encRows_len (L := rows.take k) (fun r hr => by obtain ⟨i, hi⟩ := List.mem_iff_getElem?.1 (List.mem_of_mem_take hr); exact (fitsR_ok (hG.out.1.fits i r hi)).2.2); rw [List.length_take] at h; omega
    have hn0 : n0 ≤ 2 + 20 * k := by have h := holds_len hrl.out.1.holds.1; rw [List.length_append] at h; simp at h; omega
    clear hcut
    by_cases hlt : k < rn
    · obtain ⟨A, ⟨⟨t, id⟩, v, s⟩, hqA, hx, hok, hcA⟩ := (hon.out.rows.below hrl.out.2 (Nat.le_refl _)).at hlt; subst hqA; have hcell : Hid (∀ j x, ([.int .i64 t, .int .u16 id, .int .i64 v, .string s] : List Value)[j]? = some x → wr.cell? ((A.add (k * 4)).add j) = some x) := hcA; have hsz := sizeRow t id v s; have hx' := lh hx; have hfit := fitsR_ok (hG.out.1.fits k _ hx); obtain ⟨t0, t1, h8⟩ := hfit; have hidd := hok.key.id; have hi0 : 0 ≤ id := hidd.1; have hi1 : id < 65536 := hidd.2; have hst := lh (encRows_step hx); obtain ⟨WA, hWA⟩ : ∃ W', wr.alloc (.cells #[.int .i64 t, .int .u16 id, .int .i64 v, .string s] 68) = W' := ⟨_, rfl⟩; have hbA := lh (one_box hWA); have hdA := lh (hrl.out.2.trans (hbA.out.1.mono hrl.out.2.size)); have hownA := lh (hrl.out.1.below hbA.out.1); clear hx hok hcA hidd
      go_wp2_with (first
       | (with_reducible refine wpList_load_at rfl 68 (.tmp 35) rfl Tryz.underlying68 rfl hsz rfl hcell.out ?_)
       | (with_reducible refine wpList_load_at rfl 68 (.tmp 7) rfl Tryz.underlying68 rfl hsz rfl hbA.out.2.1.all ?_))
      clear hWA; refine (rowBytes_any t id v s WA t0 (by omega) hi0 hi1 h8).mono ?_; rintro e w5 ⟨q5, c5, rfl, ho5, hb5⟩; have ho5' := lh ho5; have hown5 := lh (hownA.out.below hb5); have hd5 := lh (hdA.out.trans (hb5.mono hdA.out.size)); have hsz5 := lh hd5.out.size; clear ho5 hb5
      go_wp2_with (first
       | (at_builtin
          refine wpList_append_bytes rfl (.tmp 37) (.tmp 39) rfl rfl rfl hown5.out ho5'.out.holds.1 (by omega) hsz5.out ?_; intro q6 c6 w6 h6 hg6; have hnew : Hid (Own w6 W.heap.size (.slice q6 (n0 + (12 + s.size)) c6) (([1] ++ [UInt8.ofNat rn]) ++ encRows (rows.take (k + 1))) ∧ Below W.heap.size W w6) := ⟨by rw [hst.out, ← List.append_assoc]; exact h6, hown5.out.up hg6 hd5.out (Nat.le_refl _)⟩
          clear h6 hg6))
      go_roundw
      case rel => exact ⟨k + 1, q6, n0 + (12 + s.size), c6, by omega, by go_num, rfl, hnew⟩
      case measure => simp [RowKit.intOf]; omega
    · obtain rfl : rn = k := by omega
      have hfin : Hid (Own wr W.heap.size (.slice q0 n0 cap0) (encC ⟨1, rows, kids⟩)) := by
       have h := hrl.out.1; rw [List.take_of_length_le (by rw [hLn.out]; exact Nat.le_refl _)] at h
       have e : encC ⟨1, rows, kids⟩ = ([1] ++ [UInt8.ofNat rn]) ++ encRows rows := by rw [← hLn.out]; rfl
       show Own _ _ _ _; rw [e]; exact h
      go_wp2
      go_ret2
      exact ⟨q0, n0, cap0, 0, rfl, .inl ⟨rfl, hgood'.out, hfin.out.mono hbx.out.1.size⟩, hbx.out.1.trans (hrl.out.2.mono hbx.out.1.size)⟩
 · have hbad' := lh hbad; clear hbad d0 d1 d2; go_wp2
   go_ret2
   exact ⟨none, 0, 0, 160, rfl, .inr ⟨rfl, hbad'.out, rfl, rfl, rfl⟩, hup.out⟩
set_option maxRecDepth 100000 in
set_option maxHeartbeats 4000000 in
theorem content2 (rq : Option Addr) (rn rc : Nat) (kq : Option Addr) (kn kc : Nat) (rows : List RowD) (kids : List KidD) (w : World) (h : ContOn w 2 rq rn rc kq kn kc ⟨2, rows, kids⟩) :
 Calls Tryz.prog 133 #[.agg #[.int .i64 2, .slice rq rn rc, .slice kq kn kc]] w (CtPost ⟨2, rows, kids⟩ w) := by
 obtain ⟨W, hW⟩ : ∃ W, w.alloc (.cells #[.int .i64 2, .slice rq rn rc, .slice kq kn kc] 55) = W := ⟨_, rfl⟩; have hbx := lh (one_box hW); have hs2 := sizeCont (.int .i64 2) (.slice rq rn rc) (.slice kq kn kc); have hon := lh (h.below hbx.out.1 (Nat.le_refl _)); clear h
 go_enter Tryz.func133, Tryz.ntmps133
 go_wp2_with (first
  | (with_reducible refine wpList_load_at rfl 55 (.tmp 1) rfl Tryz.underlying55 rfl hs2 rfl hbx.out.2.1.all ?_))
 clear hW; refine (check_any 2 rq rn rc kq kn kc ⟨2, rows, kids⟩ W hon.out).mono ?_; rintro e w1 ⟨x, rfl, hx, hb1⟩; have hd := lh hb1; have hup := lh (hbx.out.1.trans (hb1.mono hbx.out.1.size)); have d0 := (hbx.out.2.1.below hb1 (Nat.le_refl _)).cell 0 rfl; have d1 := (hbx.out.2.1.below hb1 (Nat.le_refl _)).cell 1 rfl; have d2 := (hbx.out.2.1.below hb1 (Nat.le_refl _)).cell 2 rfl; clear hb1; rcases hx with ⟨rfl, hgood⟩ | ⟨rfl, hbad⟩
 · have hgood' := lh hgood; clear hgood; obtain ⟨W2, hW2⟩ : ∃ W2, w1.alloc (.cells #[.int .u8 2] 5) = W2 := ⟨_, rfl⟩; have hb2 := lh (one_box hW2); have hm2 : Hid (Row 5 W2 w1.heap.size [2]) := by have h := made1 w1 2; rw [show ((2 : UInt8).toNat : Int) = 2 from rfl, hW2] at h; exact h
   have hown2 : Hid (Own W2 W.heap.size (.slice (some ⟨w1.heap.size, 0, none⟩) 1 1) [2]) := hm2.out.own hd.out.size (by unfold maxLen; decide); have hd2 := lh (hd.out.trans (hb2.out.1.mono hd.out.size)); have hG := lh ((good2 rfl).1 hgood'.out); have hLn : Hid (kids.length = kn) := hon.out.kids.len; have hn4 : kn ≤ 4 := by rw [← hLn.out]; exact hG.out.1.len
   have e1 := cell_keeps hb2.out.1 (Nat.le_refl _) d2; have e0 := cell_keeps hb2.out.1 (Nat.le_refl _) d0; have hxn : Hid (((UInt8.ofNat kn).toNat : Int) = kn) := by show _ = _; simp; omega
   obtain ⟨W3, hW3⟩ : ∃ W3, W2.alloc (.cells #[.int .u8 kn] 5) = W3 := ⟨_, rfl⟩; have hb3 := lh (one_box hW3); have hm3 : Hid (Row 5 W3 W2.heap.size [UInt8.ofNat kn]) := by have h := made1 W2 (UInt8.ofNat kn); rw [hxn.out, hW3] at h; exact h
   have hown3 := lh (hown2.out.below hb3.out.1); have hd3 := lh (hd2.out.trans (hb3.out.1.mono hd2.out.size)); have hsz3 := lh hd3.out.size
   go_wp2_with (first
    | (at_builtin
       refine wpList_append_bytes rfl (.tmp 44) (.tmp 49) rfl rfl rfl hown3.out (hm3.out.holds 1) (by decide) hsz3.out ?_; intro q4 c4 w4 h4 hg4; have ho4 := lh h4; have hd4 := lh (hown3.out.up hg4 hd3.out (Nat.le_refl _)); have f1 := (hbx.out.2.1.below hd4.out (Nat.le_refl _)).cell 2 rfl
       clear h4 hg4))
   clear hW2 hW3 e0 e1 f1 d0 d1 d2; have hr0 : Hid (Own w4 W.heap.size (.slice q4 2 c4) (([2] ++ [UInt8.ofNat kn]) ++ encKids (kids.take 0)) ∧ Below W.heap.size W w4) := ⟨by have h := ho4.out; rw [show encKids (kids.take 0) = [] from rfl, List.append_nil]; exact h, hd4.out⟩
   go_loopw [5, 54] (fun v5 v54 wr => ∃ (k : Nat) (q0 : Option Addr) (n0 cap0 : Nat), k ≤ kn ∧ v54 = .int .i64 k ∧ v5 = .slice q0 n0 cap0 ∧ Hid (Own wr W.heap.size (.slice q0 n0 cap0) (([2] ++ [UInt8.ofNat kn]) ++ encKids (kids.take k)) ∧ Below W.heap.size W wr)) (fun _ v54 _ => kn - (RowKit.intOf v54).toNat)
   case atStart => exact ⟨0, q4, 2, c4, Nat.zero_le _, rfl, rfl, hr0⟩
   case round =>
    obtain ⟨k, q0, n0, cap0, hk, rfl, rfl, hrl⟩ := hrel; have hcut : (encKids (kids.take k)).length ≤ 20 * k := by have h := encKids_len (kids.take k); rw [List.length_take] at h; omega
    have hn0 : n0 ≤ 2 + 20 * k := by have h := holds_len hrl.out.1.holds.1; rw [List.length_append] at h; simp at h; omega
    clear hcut
    by_cases hlt : k < kn
    · obtain ⟨A, ⟨⟨t, id⟩, v⟩, hqA, hx, hok, hcA⟩ := (hon.out.kids.below hrl.out.2 (Nat.le_refl _)).at hlt; subst hqA; have hcell : Hid (∀ j x, ([.int .i64 t, .int .u16 id, .int .i64 v] : List Value)[j]? = some x → wr.cell? ((A.add (k * 3)).add j) = some x) := hcA; have hsz := sizeKid t id v; have hx' := lh hx; have hfit := fitsK_ok (hG.out.1.fits k _ hx); obtain ⟨t0, t1, p0, p1⟩ := hfit; have hidd := hok.key.id; have hi0 : 0 ≤ id := hidd.1; have hi1 : id < 65536 := hidd.2; have hst := lh (encKids_step hx); obtain ⟨WA, hWA⟩ : ∃ W', wr.alloc (.cells #[.int .i64 t, .int .u16 id, .int .i64 v] 100) = W' := ⟨_, rfl⟩; have hbA := lh (one_box hWA); have hdA := lh (hrl.out.2.trans (hbA.out.1.mono hrl.out.2.size)); have hownA := lh (hrl.out.1.below hbA.out.1); clear hx hok hcA hidd
      go_wp2_with (first
       | (with_reducible refine wpList_load_at rfl 100 (.tmp 56) rfl Tryz.underlying100 rfl hsz rfl hcell.out ?_)
       | (with_reducible refine wpList_load_at rfl 100 (.tmp 9) rfl Tryz.underlying100 rfl hsz rfl hbA.out.2.1.all ?_))
      clear hWA; refine (kidBytes_any t id v WA t0 (by omega) hi0 hi1 (by omega) (by omega)).mono ?_; rintro e w5 ⟨q5, c5, rfl, ho5, hb5⟩; have ho5' := lh ho5; have hown5 := lh (hownA.out.below hb5); have hd5 := lh (hdA.out.trans (hb5.mono hdA.out.size)); have hsz5 := lh hd5.out.size; clear ho5 hb5
      go_wp2_with (first
       | (at_builtin
          refine wpList_append_bytes rfl (.tmp 58) (.tmp 60) rfl rfl rfl hown5.out ho5'.out.holds.1 (by omega) hsz5.out ?_; intro q6 c6 w6 h6 hg6; have hnew : Hid (Own w6 W.heap.size (.slice q6 (n0 + 4) c6) (([2] ++ [UInt8.ofNat kn]) ++ encKids (kids.take (k + 1))) ∧ Below W.heap.size W w6) := ⟨by rw [hst.out, ← List.append_assoc]; exact h6, hown5.out.up hg6 hd5.out (Nat.le_refl _)⟩
          clear h6 hg6))
      go_roundw
      case rel => exact ⟨k + 1, q6, n0 + 4, c6, by omega, by go_num, rfl, hnew⟩
      case measure => simp [RowKit.intOf]; omega
    · obtain rfl : kn = k := by omega
      have hfin : Hid (Own wr W.heap.size (.slice q0 n0 cap0) (encC ⟨2, rows, kids⟩)) := by
       have h := hrl.out.1; rw [List.take_of_length_le (by rw [hLn.out]; exact Nat.le_refl _)] at h
       have e : encC ⟨2, rows, kids⟩ = ([2] ++ [UInt8.ofNat kn]) ++ encKids kids := by rw [← hLn.out]; rfl
       show Own _ _ _ _; rw [e]; exact h
      go_wp2
      go_ret2
      exact ⟨q0, n0, cap0, 0, rfl, .inl ⟨rfl, hgood'.out, hfin.out.mono hbx.out.1.size⟩, hbx.out.1.trans (hrl.out.2.mono hbx.out.1.size)⟩
 · have hbad' := lh hbad; clear hbad d0 d1 d2; go_wp2
   go_ret2
   exact ⟨none, 0, 0, 160, rfl, .inr ⟨rfl, hbad'.out, rfl, rfl, rfl⟩, hup.out⟩
theorem content_any (k : Int) (rq : Option Addr) (rn rc : Nat) (kq : Option Addr) (kn kc : Nat) (c : ContD) (w : World) (h : ContOn w k rq rn rc kq kn kc c) :
 Calls Tryz.prog 133 #[.agg #[.int .i64 k, .slice rq rn rc, .slice kq kn kc]] w (CtPost c w) := by
 obtain ⟨ck, rows, kids⟩ := c; obtain rfl : k = ck := h.kind
 by_cases h0 : k = 0
 · subst h0; exact content0 rq rn rc kq kn kc rows kids w h
 · by_cases h1 : k = 1
   · subst h1; exact content1 rq rn rc kq kn kc rows kids w h
   · by_cases h2 : k = 2
     · subst h2; exact content2 rq rn rc kq kn kc rows kids w h
     · exact contentN k rq rn rc kq kn kc rows kids w h h0 h1 h2
end Go.Proofs.YtocekhckmpkbmaaGreat
namespace Go.Proofs.YtocekhckmpkbmaaGreat
open Go.RowKit
def eqKid (a b : KidD) : Bool := (a.least.t == b.least.t && a.least.id == b.least.id) && a.page == b.page
theorem eqKid_iff {a b : KidD} : eqKid a b = true ↔ a = b := by
 obtain ⟨⟨at_, ai⟩, ap⟩ := a; obtain ⟨⟨bt, bi⟩, bp⟩ := b; unfold eqKid; constructor
 · intro h; simp at h; obtain ⟨⟨h1, h2⟩, h3⟩ := h; rw [h1, h2, h3]
 · intro h; cases h; simp
theorem run_kid (w : World) (a b c d e f : Int) : (Op.equalIn 10000 100 (.agg #[.int .i64 a, .int .u16 b, .int .i64 c]) (.agg #[.int .i64 d, .int .u16 e, .int .i64 f])).run Tryz.prog w = .ok (eqKid ⟨⟨a, b⟩, c⟩ ⟨⟨d, e⟩, f⟩) w := by
 have hS : Tryz.prog.underlying 100 = some (.struct (Tryz.prog.fieldsOf 100)) := by kernel_rfl
 have hp : Tryz.prog.stoodInHeld 100 = false := by kernel_rfl
 have u3 := Tryz.underlying3; have a3 := Tryz.isAgg3; have a5 := Tryz.isAgg66; have z3 := Tryz.sizeOf3; have z5 := Tryz.sizeOf66; have hk := fun w => equal_key w a b d e
 rw [show (10000 : Nat) = 9999 + 1 from rfl, run_equalIn_agg w 9999 100 _ _ hS hp]; simp only [Program.fieldsOf, Tryz.underlying100]; clear hS hp; unfold eqKid; have hv : ∀ w : World, (Op.equalIn 9999 3 (.int .i64 c) (.int .i64 f)).run Tryz.prog w = .ok (c == f) w := fun w => run_equalIn_int w 9998 3 .i64 .i64 c f u3
 have x1 : (#[Value.int .i64 a, .int .u16 b, .int .i64 c].extract 0 2) = #[Value.int .i64 a, .int .u16 b] := rfl; have x2 : (#[Value.int .i64 d, .int .u16 e, .int .i64 f].extract 0 2) = #[Value.int .i64 d, .int .u16 e] := rfl; have t1 : (#[Value.int .i64 a, .int .u16 b, .int .i64 c])[2]? = some (.int .i64 c) := rfl; have t2 : (#[Value.int .i64 d, .int .u16 e, .int .i64 f])[2]? = some (.int .i64 f) := rfl; have n1 : ("Least" : String) ≠ "_" := by decide
 have n2 : ("Page" : String) ≠ "_" := by decide
 simp only [Op.eqFields, part, a5, z5, a3, hk, hv, x1, x2, t1, t2, if_pos n1, if_pos n2, Sem.run_bind, Sem.run_ite, Sem.run_pure, Result.andThen_ok, Nat.zero_add, Bool.false_eq_true, if_false, if_true]
 by_cases h1 : a = d <;> by_cases h2 : b = e <;> by_cases h3 : c = f <;> simp [h1, h2, h3]
theorem neq_kid (w : World) (a b c d e f : Int) : (binOp .neq 100 (.agg #[.int .i64 a, .int .u16 b, .int .i64 c]) (.agg #[.int .i64 d, .int .u16 e, .int .i64 f])).run Tryz.prog w = .ok (.bool (!eqKid ⟨⟨a, b⟩, c⟩ ⟨⟨d, e⟩, f⟩)) w := by
 rw [run_neq_struct, run_kid]; rfl
end Go.Proofs.YtocekhckmpkbmaaGreat
namespace Go.Proofs.YtocekhckmpkbmaaGreat
open Go.RowKit
theorem num_one (x : UInt8) : num [x] = x.toNat := by simp [num]
theorem be_num : ∀ (n : Nat) (l : List UInt8), l.length = n → be n (num l) = l
 | 0, l, h => by rw [List.eq_nil_of_length_eq_zero h]; rfl
 | n + 1, l, h => by
   have hne : l ≠ [] := fun e => by rw [e] at h; cases h
   obtain ⟨m, b, rfl⟩ : ∃ m b, l = m ++ [b] := ⟨l.dropLast, l.getLast hne, (List.dropLast_concat_getLast hne).symm⟩; have hm : m.length = n := by simpa using h
   rw [num_snoc]; show be n ((num m * 256 + b.toNat) / 256) ++ [UInt8.ofNat (num m * 256 + b.toNat)] = _; have hb := b.toNat_lt; have h1 : (num m * 256 + b.toNat) / 256 = num m := by omega
   have h2 : UInt8.ofNat (num m * 256 + b.toNat) = b := by apply UInt8.toNat_inj.1; rw [UInt8.toNat_ofNat']; omega
   rw [h1, be_num n m hm, h2]
theorem one_of {l : List UInt8} (h : l.length = 1) : [UInt8.ofNat (num l)] = l := by
 have := be_num 1 l h; simpa [be] using this
theorem next_ok {s : St} {k : Int} (hk : 0 ≤ k) (h : (s.next k).e = 0) : s.e = 0 ∧ k ≤ s.l.length ∧ s.next k = ⟨s.l.drop k.toNat, 0⟩ ∧ s.num k = num (s.l.take k.toNat) ∧ s.raw k = s.l.take k.toNat := by
 unfold St.next St.num St.raw nextL nextE numV rawL at *; simp only at h
 by_cases g : gOk k s.l s.e = true
 · rw [if_pos g, if_pos g, if_pos g, if_pos g]; have g' := g; unfold gOk at g'; simp at g'; exact ⟨g'.1.1, g'.2, rfl, rfl, rfl⟩
 · rw [if_neg g] at h
   split at h
   · rw [if_neg (by omega)] at h; cases h
   · rename_i hne; exact absurd h hne
theorem takelen {l : List UInt8} {k : Nat} (h : k ≤ l.length) : (l.take k).length = k := by rw [List.length_take]; omega
theorem u64_wrapped (x : Nat) (h : x < 18446744073709551616) : u64 (IntKind.i64.wrap (x : Int)) = x := by
 unfold u64; rw [IntKind.wrap_i64]; omega
theorem keyS_ok {s : St} (h : (keyS s).e = 0) : s.e = 0 ∧ 3 ≤ s.l.length ∧ keyS s = ⟨s.l.drop 3, 0⟩ ∧ encKey (keyD s) = s.l.take 3 := by
 obtain ⟨a1, a2, a3, a4, _⟩ := next_ok (s := s.next 1) (k := 2) (by decide) h; obtain ⟨b1, b2, b3, b4, _⟩ := next_ok (s := s) (k := 1) (by decide) a1; rw [b3] at a2 a3 a4; have b2' : 1 ≤ s.l.length := by omega
 have a2' : 2 ≤ (s.l.drop 1).length := by have : (2 : Int) ≤ ((s.l.drop 1).length : Int) := a2; omega
 have hl : 3 ≤ s.l.length := by rw [List.length_drop] at a2'; omega
 refine ⟨b1, hl, ?_, ?_⟩
 · have e : keyS s = (s.next 1).next 2 := rfl; rw [e, b3, a3]; show (⟨(s.l.drop 1).drop 2, 0⟩ : St) = _; rw [List.drop_drop]
 · have e1 : (keyD s).t = num (s.l.take 1) := b4; have e2 : (keyD s).id = num ((s.l.drop 1).take 2) := by show (s.next 1).num 2 = _; rw [b3]; exact a4
   unfold encKey; rw [e1, e2, Int.toNat_natCast, Int.toNat_natCast, be_num 2 _ (takelen a2')]; have h1 := one_of (takelen b2')
   have h3 : s.l.take 3 = s.l.take 1 ++ (s.l.drop 1).take 2 := by rw [show 3 = 1 + 2 from rfl, List.take_add]
   rw [h3]
   conv => rhs; rw [← h1]
   rfl
theorem chkRowC_zero {r : RowD} (h1 : tabB r.key.t = true) (h2 : r.note.size ≤ 8) : chkRowC r = 0 := if_pos ⟨h1, h2⟩
theorem rowP_sound {s s' : St} {r : RowD} (h : rowP s = (r, 0, s')) : s.e = 0 ∧ s'.e = 0 ∧ chkRowC r = 0 ∧ s.l = encRow r ++ s'.l := by
 have hv := (rowP_ok h).2; unfold rowP at h
 split at h
 · split at h
   · rename_i hl8
     split at h
     · rename_i he
       simp only [Prod.mk.injEq] at h; obtain ⟨hr, _, hs'⟩ := h; have hz0 : 0 ≤ lenS s := (numV1 ((keyS s).next 8).l ((keyS s).next 8).e).1; obtain ⟨d1, d2, d3, _, d5⟩ := next_ok hz0 he; obtain ⟨c1, c2, c3, c4, _⟩ := next_ok (s := (keyS s).next 8) (k := 1) (by decide) d1; obtain ⟨b1, b2, b3, b4, _⟩ := next_ok (s := keyS s) (k := 8) (by decide) c1; obtain ⟨a1, a2, a3, a4⟩ := keyS_ok b1; rw [a3] at b2 b3 b4
       have hT : lenT s = ⟨((s.l.drop 3).drop 8).drop 1, 0⟩ := by show ((keyS s).next 8).next 1 = _; rw [c3, a3, b3]; rfl
       have hZ : lenS s = num (((s.l.drop 3).drop 8).take 1) := by show ((keyS s).next 8).num 1 = _; rw [c4, a3, b3]; rfl
       have hV : valS s = IntKind.i64.wrap (num ((s.l.drop 3).take 8)) := by show IntKind.i64.wrap ((keyS s).num 8) = _; rw [a3, b4]; rfl
       rw [a3, b3] at c2; rw [hT] at d2 d3 d5; obtain ⟨zn, hzn⟩ : ∃ z : Nat, lenS s = z := ⟨(lenS s).toNat, by omega⟩
       have hB2 : 8 ≤ (s.l.drop 3).length := by have : (8 : Int) ≤ ((s.l.drop 3).length : Int) := b2; omega
       have hC2 : 1 ≤ ((s.l.drop 3).drop 8).length := by have : (1 : Int) ≤ (((s.l.drop 3).drop 8).length : Int) := c2; omega
       have hD2 : zn ≤ (((s.l.drop 3).drop 8).drop 1).length := by rw [hzn] at d2; have : (zn : Int) ≤ ((((s.l.drop 3).drop 8).drop 1).length : Int) := d2; omega
       have hnote : (lenT s).raw (lenS s) = (((s.l.drop 3).drop 8).drop 1).take zn := by rw [hT, d5, hzn]; rfl
       have hs2 : s' = ⟨(((s.l.drop 3).drop 8).drop 1).drop zn, 0⟩ := by rw [← hs', hT, d3, hzn]; rfl
       refine ⟨a1, by rw [hs2], chkRowC_zero hv.1 hv.2, ?_⟩; rw [hs2, ← hr]; show s.l = (((encKey (keyD s) ++ be 8 (u64 (valS s))) ++ [UInt8.ofNat ((lenT s).raw (lenS s)).toArray.size]) ++ ((lenT s).raw (lenS s)).toArray.toList) ++ _; rw [a4, hV, u64_wrapped _ (by have := num_lt ((s.l.drop 3).take 8); rw [takelen hB2] at this; omega), be_num 8 _ (takelen hB2), hnote, List.size_toArray, takelen hD2]
       have hb1 : [UInt8.ofNat zn] = ((s.l.drop 3).drop 8).take 1 := by
        rw [← one_of (takelen hC2)]; congr 2; have : (zn : Int) = (num (((s.l.drop 3).drop 8).take 1) : Int) := by rw [← hzn, hZ]
        omega
       rw [hb1, List.append_assoc, List.append_assoc, List.append_assoc, List.take_append_drop, List.take_append_drop, List.take_append_drop, List.take_append_drop]
     · rename_i he
       simp only [Prod.mk.injEq] at h; exact absurd h.2.1 he
   · simp at h
 · simp at h
theorem encRows_cons (r : RowD) (L : List RowD) : encRows (r :: L) = encRow r ++ encRows L := by simp [encRows]
theorem encKids_cons (r : KidD) (L : List KidD) : encKids (r :: L) = encKid r ++ encKids L := by simp [encKids]
theorem takeR_sound {b : List UInt8} {r : RowD} {n : Int} (h : TakeR b r n 0) : chkRowC r = 0 ∧ RowOk r ∧ n = (encRow r).length ∧ (encRow r).length ≤ b.length ∧ encRow r = b.take (encRow r).length := by
 obtain ⟨c1, er1, s', hc, ⟨hne, _, _, he⟩ | ⟨rfl, rfl, hn, _⟩⟩ := h
 · exact absurd he.symm hne
 · obtain ⟨_, _, hg, hl⟩ := rowP_sound hc; have hl' : b.take 20 = encRow r ++ s'.l := hl; have hlen : (b.take 20).length = (encRow r).length + s'.l.length := by rw [hl', List.length_append]
   have h82 : (b.take 20).length ≤ 20 ∧ (b.take 20).length ≤ b.length := by rw [List.length_take]; omega
   refine ⟨hg, (rowP_ok hc).1, by omega, by omega, ?_⟩; have h3 : (b.take 20).take (encRow r).length = encRow r := by rw [hl', List.take_left]
   rw [List.take_take] at h3; rw [Nat.min_eq_left (by omega)] at h3; exact h3.symm
end Go.Proofs.YtocekhckmpkbmaaGreat
