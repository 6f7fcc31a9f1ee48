/- Content and Row of codec. -/
import Derived.Test.YtcniolmihpkmmaaKTk
namespace Go.Proofs.Ytcniolmihpkmmaa
open Go.RowKit

def encRows (L : List RowD) : List UInt8 := L.flatMap encRow
def encKids (L : List KidD) : List UInt8 := L.flatMap encKid
def encC (c : ContD) : List UInt8 := if c.kind = 1 then [1] ++ ([UInt8.ofNat c.rows.length] ++ encRows c.rows) else if c.kind = 2 then [2] ++ ([UInt8.ofNat c.kids.length] ++ encKids c.kids) else [0]
theorem encRow_len (r : RowD) : (encRow r).length = 12 + r.note.size := by
  unfold encRow
  rw [List.length_append, List.length_append, List.length_append, encKey_len, length_be, List.length_singleton, Array.length_toList]
  rfl
theorem encKid_len (k : KidD) : (encKid k).length = 4 := by
  unfold encKid
  rw [List.length_append, encKey_len, List.length_singleton]
theorem encRows_step {L : List RowD} {k : Nat} {r : RowD} (h : L[k]? = some r) : encRows (L.take (k + 1)) = encRows (L.take k) ++ encRow r := by
  unfold encRows
  rw [List.take_add_one, h, List.flatMap_append]
  simp
theorem encKids_step {L : List KidD} {k : Nat} {r : KidD} (h : L[k]? = some r) : encKids (L.take (k + 1)) = encKids (L.take k) ++ encKid r := by
  unfold encKids
  rw [List.take_add_one, h, List.flatMap_append]
  simp
theorem fitsR_ok {L : List RowD} {r : RowD} (h : fitsR L r = true) : 0 ≤ r.key.t ∧ r.key.t < 3 ∧ r.note.size ≤ 8 := by
  unfold fitsR at h
  rw [Bool.and_eq_true, decide_eq_true_eq] at h
  have h1 := h.1
  unfold chkRowC at h1
  split at h1
  · rename_i hh
    have := hh.1
    unfold tabB at this
    simp at this
    exact ⟨this.1, this.2, hh.2⟩
  · cases h1
theorem fitsK_ok {L : List KidD} {r : KidD} (h : fitsK L r = true) : 0 ≤ r.least.t ∧ r.least.t < 3 ∧ 1 ≤ r.page ∧ r.page < 64 := by
  unfold fitsK tabB at h
  simp at h
  exact ⟨h.1.1.1, h.1.1.2, h.1.2.1, h.1.2.2⟩
theorem encRows_len {L : List RowD} (h : ∀ r ∈ L, r.note.size ≤ 8) : (encRows L).length ≤ 20 * L.length := by
  induction L with
  | nil => simp [encRows]
  | cons a l ih =>
    have h1 := h a (List.mem_cons_self ..)
    have h2 := ih (fun r hr => h r (List.mem_cons_of_mem _ hr))
    have e : encRows (a :: l) = encRow a ++ encRows l := by simp [encRows]
    rw [e, List.length_append, encRow_len, List.length_cons]
    omega
theorem encKids_len (L : List KidD) : (encKids L).length = 4 * L.length := by
  induction L with
  | nil => simp [encKids]
  | cons a l ih =>
    have e : encKids (a :: l) = encKid a ++ encKids l := by simp [encKids]
    rw [e, List.length_append, encKid_len, List.length_cons, ih]
    omega
def CtPost (c : ContD) (w : World) (e : Ending) (w' : World) : Prop :=
  ∃ q n cp er, e = .returned (.tuple #[.slice q n cp, .int .i64 er]) ∧ ((er = 0 ∧ GoodC c ∧ Own w' w.heap.size (.slice q n cp) (encC c)) ∨ (er = 160 ∧ ¬ GoodC c ∧ n = 0 ∧ q = none ∧ cp = 0)) ∧ Below w.heap.size w w'

set_option maxRecDepth 100000 in
set_option maxHeartbeats 2000000 in
theorem row_any (t id v : Int) (s : ByteArray) (w : World) (hok : RowOk ⟨⟨t, id⟩, v, s⟩) :
    Calls Try.prog 18 #[.agg #[.int .i64 t, .int .u16 id, .int .i64 v, .string s]] w (fun e w' => ∃ q n cp er, e = .returned (.tuple #[.slice q n cp, .int .i64 er]) ∧ ((er = 0 ∧ chkRowC ⟨⟨t, id⟩, v, s⟩ = 0 ∧ Own w' w.heap.size (.slice q n cp) (encRow ⟨⟨t, id⟩, v, s⟩)) ∨ (er = 151 ∧ chkRowC ⟨⟨t, id⟩, v, s⟩ = 151 ∧ n = 0)) ∧ Below w.heap.size w w') := by
  obtain ⟨W, hW⟩ : ∃ W, w.alloc (.cells #[.int .i64 t, .int .u16 id, .int .i64 v, .string s] 42) = W := ⟨_, rfl⟩
  have hbx := Lib.hid (one_box (xs := [.int .i64 t, .int .u16 id, .int .i64 v, .string s]) hW)
  have hs2 := sizeRow t id v s
  have hck := Lib.hid (checkRow_any t id v s W hok.note)
  have hid0 := hok.key.id
  obtain ⟨x, hx⟩ : ∃ x, chkRowC ⟨⟨t, id⟩, v, s⟩ = x := ⟨_, rfl⟩
  rw [hx] at hck
  have hx' := Lib.hid hx
  have hor := chkRowC_or ⟨⟨t, id⟩, v, s⟩
  rw [hx] at hor
  have hf : x = 0 → 0 ≤ t ∧ t < 3 ∧ s.size ≤ 8 := fun h0 => fitsR_ok (L := []) (r := ⟨⟨t, id⟩, v, s⟩) (by unfold fitsR; rw [hx, h0]; rfl)
  have hi0 : 0 ≤ id := hid0.1
  have hi1 : id < 65536 := hid0.2
  clear hx hok hid0
  rcases hor with rfl | rfl
  · obtain ⟨t0, t1, h8⟩ := hf rfl
    clear hf
    go_enter Try.func18, Try.ntmps18
    go_wp2_with (first
      | (with_reducible refine wpList_load_at rfl 42 (.tmp 1) rfl Try.underlying42 rfl hs2 rfl hbx.out.2.1.all ?_))
    clear hW
    refine hck.out.mono ?_
    clear hck
    rintro e w1 ⟨rfl, hb1⟩
    have hd := Lib.hid (hbx.out.1.trans (hb1.mono hbx.out.1.size))
    have b1 := Lib.hid (hbx.out.2.1.below hb1 (Nat.le_refl _))
    clear hb1
    go_wp2_with (first
      | (with_reducible refine wpList_load_at rfl 42 (.tmp 1) rfl Try.underlying42 rfl hs2 rfl b1.out.all ?_))
    refine (rowBytes_any t id v s w1 t0 (by omega) hi0 hi1 h8).mono ?_
    rintro e w2 ⟨q, cp, rfl, ho, hb2⟩
    have ho' := Lib.hid ho
    have hd2 := Lib.hid (hd.out.trans (hb2.mono hd.out.size))
    clear ho hb2
    go_wp2
    go_ret2
    exact ⟨q, _, cp, 0, rfl, .inl ⟨rfl, hx'.out, ho'.out.mono hd.out.size⟩, hd2.out⟩
  · go_enter Try.func18, Try.ntmps18
    go_wp2_with (first
      | (with_reducible refine wpList_load_at rfl 42 (.tmp 1) rfl Try.underlying42 rfl hs2 rfl hbx.out.2.1.all ?_))
    clear hW
    refine hck.out.mono ?_
    clear hck
    rintro e w1 ⟨rfl, hb1⟩
    have hd := Lib.hid (hbx.out.1.trans (hb1.mono hbx.out.1.size))
    clear hb1 hf
    go_wp2
    go_ret2
    exact ⟨none, 0, 0, 151, rfl, .inr ⟨rfl, hx'.out, rfl⟩, hd.out⟩

set_option maxRecDepth 100000 in
set_option maxHeartbeats 4000000 in
theorem contentN (k : Int) (rq : Option Addr) (rn rc : Nat) (kq : Option Addr) (kn kc : Nat) (rows : List RowD) (kids : List KidD) (w : World) (h : ContOn w k rq rn rc kq kn kc ⟨k, rows, kids⟩) (h0 : k ≠ 0) (h1 : k ≠ 1) (h2 : k ≠ 2) :
    Calls Try.prog 13 #[.agg #[.int .i64 k, .slice rq rn rc, .slice kq kn kc]] w (CtPost ⟨k, rows, kids⟩ w) := by
  obtain ⟨W, hW⟩ : ∃ W, w.alloc (.cells #[.int .i64 k, .slice rq rn rc, .slice kq kn kc] 27) = W := ⟨_, rfl⟩
  have hbx := Lib.hid (one_box (xs := [.int .i64 k, .slice rq rn rc, .slice kq kn kc]) hW)
  have hs2 := sizeCont (.int .i64 k) (.slice rq rn rc) (.slice kq kn kc)
  have hon := Lib.hid (h.below hbx.out.1 (Nat.le_refl _))
  clear h
  go_enter Try.func13, Try.ntmps13
  go_wp2_with (first
    | (with_reducible refine wpList_load_at rfl 27 (.tmp 1) rfl Try.underlying27 rfl hs2 rfl hbx.out.2.1.all ?_))
  clear hW
  refine (check_any k rq rn rc kq kn kc ⟨k, rows, kids⟩ W hon.out).mono ?_
  rintro e w1 ⟨x, rfl, hx, hb1⟩
  have hd := Lib.hid hb1
  have hup := Lib.hid (hbx.out.1.trans (hb1.mono hbx.out.1.size))
  have d0 := (hbx.out.2.1.below hb1 (Nat.le_refl _)).cell 0 rfl
  have d1 := (hbx.out.2.1.below hb1 (Nat.le_refl _)).cell 1 rfl
  have d2 := (hbx.out.2.1.below hb1 (Nat.le_refl _)).cell 2 rfl
  clear hb1
  rcases hx with ⟨rfl, hgood⟩ | ⟨rfl, hbad⟩
  · have hgood' := Lib.hid hgood
    clear hgood
    exact absurd hgood'.out (goodN h0 h1 h2)
  · have hbad' := Lib.hid hbad
    clear hbad d0 d1 d2
    go_wp2
    go_ret2
    exact ⟨none, 0, 0, 160, rfl, .inr ⟨rfl, hbad'.out, rfl, rfl, rfl⟩, hup.out⟩

set_option maxRecDepth 100000 in
set_option maxHeartbeats 4000000 in
theorem content0 (rq : Option Addr) (rn rc : Nat) (kq : Option Addr) (kn kc : Nat) (rows : List RowD) (kids : List KidD) (w : World) (h : ContOn w 0 rq rn rc kq kn kc ⟨0, rows, kids⟩) :
    Calls Try.prog 13 #[.agg #[.int .i64 0, .slice rq rn rc, .slice kq kn kc]] w (CtPost ⟨0, rows, kids⟩ w) := by
  obtain ⟨W, hW⟩ : ∃ W, w.alloc (.cells #[.int .i64 0, .slice rq rn rc, .slice kq kn kc] 27) = W := ⟨_, rfl⟩
  have hbx := Lib.hid (one_box (xs := [.int .i64 0, .slice rq rn rc, .slice kq kn kc]) hW)
  have hs2 := sizeCont (.int .i64 0) (.slice rq rn rc) (.slice kq kn kc)
  have hon := Lib.hid (h.below hbx.out.1 (Nat.le_refl _))
  clear h
  go_enter Try.func13, Try.ntmps13
  go_wp2_with (first
    | (with_reducible refine wpList_load_at rfl 27 (.tmp 1) rfl Try.underlying27 rfl hs2 rfl hbx.out.2.1.all ?_))
  clear hW
  refine (check_any 0 rq rn rc kq kn kc ⟨0, rows, kids⟩ W hon.out).mono ?_
  rintro e w1 ⟨x, rfl, hx, hb1⟩
  have hd := Lib.hid hb1
  have hup := Lib.hid (hbx.out.1.trans (hb1.mono hbx.out.1.size))
  have d0 := (hbx.out.2.1.below hb1 (Nat.le_refl _)).cell 0 rfl
  have d1 := (hbx.out.2.1.below hb1 (Nat.le_refl _)).cell 1 rfl
  have d2 := (hbx.out.2.1.below hb1 (Nat.le_refl _)).cell 2 rfl
  clear hb1
  rcases hx with ⟨rfl, hgood⟩ | ⟨rfl, hbad⟩
  · have hgood' := Lib.hid hgood
    clear hgood
    obtain ⟨W2, hW2⟩ : ∃ W2, w1.alloc (.cells #[.int .u8 0] 5) = W2 := ⟨_, rfl⟩
    have hb2 := Lib.hid (one_box (xs := [.int .u8 0]) hW2)
    have hm2 : Hid (Row 5 W2 w1.heap.size [0]) := by have h := made1 w1 0; rw [show ((0 : UInt8).toNat : Int) = 0 from rfl, hW2] at h; exact h
    have hown2 : Hid (Own W2 W.heap.size (.slice (some ⟨w1.heap.size, 0, none⟩) 1 1) [0]) := hm2.out.own hd.out.size (by unfold maxLen; decide)
    have hd2 := Lib.hid (hd.out.trans (hb2.out.1.mono hd.out.size))
    clear d1 d2
    have d0' := cell_keeps hb2.out.1 (Nat.le_refl _) d0
    go_wp2
    go_ret2
    exact ⟨_, 1, 1, 0, rfl, .inl ⟨rfl, hgood'.out, hown2.out.mono hbx.out.1.size⟩, hbx.out.1.trans (hd2.out.mono hbx.out.1.size)⟩
  · have hbad' := Lib.hid hbad
    clear hbad d0 d1 d2
    go_wp2
    go_ret2
    exact ⟨none, 0, 0, 160, rfl, .inr ⟨rfl, hbad'.out, rfl, rfl, rfl⟩, hup.out⟩

set_option maxRecDepth 100000 in
set_option maxHeartbeats 4000000 in
theorem content1 (rq : Option Addr) (rn rc : Nat) (kq : Option Addr) (kn kc : Nat) (rows : List RowD) (kids : List KidD) (w : World) (h : ContOn w 1 rq rn rc kq kn kc ⟨1, rows, kids⟩) :
    Calls Try.prog 13 #[.agg #[.int .i64 1, .slice rq rn rc, .slice kq kn kc]] w (CtPost ⟨1, rows, kids⟩ w) := by
  obtain ⟨W, hW⟩ : ∃ W, w.alloc (.cells #[.int .i64 1, .slice rq rn rc, .slice kq kn kc] 27) = W := ⟨_, rfl⟩
  have hbx := Lib.hid (one_box (xs := [.int .i64 1, .slice rq rn rc, .slice kq kn kc]) hW)
  have hs2 := sizeCont (.int .i64 1) (.slice rq rn rc) (.slice kq kn kc)
  have hon := Lib.hid (h.below hbx.out.1 (Nat.le_refl _))
  clear h
  go_enter Try.func13, Try.ntmps13
  go_wp2_with (first
    | (with_reducible refine wpList_load_at rfl 27 (.tmp 1) rfl Try.underlying27 rfl hs2 rfl hbx.out.2.1.all ?_))
  clear hW
  refine (check_any 1 rq rn rc kq kn kc ⟨1, rows, kids⟩ W hon.out).mono ?_
  rintro e w1 ⟨x, rfl, hx, hb1⟩
  have hd := Lib.hid hb1
  have hup := Lib.hid (hbx.out.1.trans (hb1.mono hbx.out.1.size))
  have d0 := (hbx.out.2.1.below hb1 (Nat.le_refl _)).cell 0 rfl
  have d1 := (hbx.out.2.1.below hb1 (Nat.le_refl _)).cell 1 rfl
  have d2 := (hbx.out.2.1.below hb1 (Nat.le_refl _)).cell 2 rfl
  clear hb1
  rcases hx with ⟨rfl, hgood⟩ | ⟨rfl, hbad⟩
  · have hgood' := Lib.hid hgood
    clear hgood
    obtain ⟨W2, hW2⟩ : ∃ W2, w1.alloc (.cells #[.int .u8 1] 5) = W2 := ⟨_, rfl⟩
    have hb2 := Lib.hid (one_box (xs := [.int .u8 1]) hW2)
    have hm2 : Hid (Row 5 W2 w1.heap.size [1]) := by have h := made1 w1 1; rw [show ((1 : UInt8).toNat : Int) = 1 from rfl, hW2] at h; exact h
    have hown2 : Hid (Own W2 W.heap.size (.slice (some ⟨w1.heap.size, 0, none⟩) 1 1) [1]) := hm2.out.own hd.out.size (by unfold maxLen; decide)
    have hd2 := Lib.hid (hd.out.trans (hb2.out.1.mono hd.out.size))
    have hG := Lib.hid ((good1 rfl).1 hgood'.out)
    have hLn : Hid (rows.length = rn) := hon.out.rows.len
    have hn4 : rn ≤ 4 := by rw [← hLn.out]; exact hG.out.1.len
    have e1 := cell_keeps hb2.out.1 (Nat.le_refl _) d1
    have e0 := cell_keeps hb2.out.1 (Nat.le_refl _) d0
    have hxn : Hid (((UInt8.ofNat rn).toNat : Int) = rn) := by show _ = _; simp; omega
    obtain ⟨W3, hW3⟩ : ∃ W3, W2.alloc (.cells #[.int .u8 rn] 5) = W3 := ⟨_, rfl⟩
    have hb3 := Lib.hid (one_box (xs := [.int .u8 rn]) hW3)
    have hm3 : Hid (Row 5 W3 W2.heap.size [UInt8.ofNat rn]) := by have h := made1 W2 (UInt8.ofNat rn); rw [hxn.out, hW3] at h; exact h
    have hown3 := Lib.hid (hown2.out.below hb3.out.1)
    have hd3 := Lib.hid (hd2.out.trans (hb3.out.1.mono hd2.out.size))
    have hsz3 := Lib.hid hd3.out.size
    go_wp2_with (first
      | (at_builtin
         refine wpList_append_bytes rfl (.tmp 23) (.tmp 28) rfl rfl rfl hown3.out (hm3.out.holds 1) (by decide) hsz3.out ?_
         intro q4 c4 w4 h4 hg4
         have ho4 := Lib.hid h4
         have hd4 := Lib.hid (hown3.out.up hg4 hd3.out (Nat.le_refl _))
         have f1 := (hbx.out.2.1.below hd4.out (Nat.le_refl _)).cell 1 rfl
         clear h4 hg4))
    clear hW2 hW3 e0 e1 f1 d0 d1 d2
    have hr0 : Hid (Own w4 W.heap.size (.slice q4 2 c4) (([1] ++ [UInt8.ofNat rn]) ++ encRows (rows.take 0)) ∧ Below W.heap.size W w4) := ⟨by have h := ho4.out; rw [show encRows (rows.take 0) = [] from rfl, List.append_nil]; exact h, hd4.out⟩
    go_loopw [5, 33] (fun v5 v33 wr => ∃ (k : Nat) (q0 : Option Addr) (n0 cap0 : Nat), k ≤ rn ∧ v33 = .int .i64 k ∧ v5 = .slice q0 n0 cap0 ∧ Hid (Own wr W.heap.size (.slice q0 n0 cap0) (([1] ++ [UInt8.ofNat rn]) ++ encRows (rows.take k)) ∧ Below W.heap.size W wr)) (fun _ v33 _ => rn - (RowKit.intOf v33).toNat)
    case atStart => exact ⟨0, q4, 2, c4, Nat.zero_le _, rfl, rfl, hr0⟩
    case round =>
      obtain ⟨k, q0, n0, cap0, hk, rfl, rfl, hrl⟩ := hrel
      have hcut : (encRows (rows.take k)).length ≤ 20 * k := by have h := encRows_len (L := rows.take k) (fun r hr => by obtain ⟨i, hi⟩ := List.mem_iff_getElem?.1 (List.mem_of_mem_take hr); exact (fitsR_ok (hG.out.1.fits i r hi)).2.2); rw [List.length_take] at h; omega
      have hn0 : n0 ≤ 2 + 20 * k := by
        have h := holds_len hrl.out.1.holds.1
        rw [List.length_append] at h
        simp at h
        omega
      clear hcut
      by_cases hlt : k < rn
      · obtain ⟨A, ⟨⟨t, id⟩, v, s⟩, hqA, hx, hok, hcA⟩ := (hon.out.rows.below hrl.out.2 (Nat.le_refl _)).at hlt
        subst hqA
        have hcell : Hid (∀ j x, ([.int .i64 t, .int .u16 id, .int .i64 v, .string s] : List Value)[j]? = some x → wr.cell? ((A.add (k * 4)).add j) = some x) := hcA
        have hsz := sizeRow t id v s
        have hx' := Lib.hid hx
        have hfit := fitsR_ok (hG.out.1.fits k _ hx)
        obtain ⟨t0, t1, h8⟩ := hfit
        have hidd := hok.key.id
        have hi0 : 0 ≤ id := hidd.1
        have hi1 : id < 65536 := hidd.2
        have hst := Lib.hid (encRows_step hx)
        obtain ⟨WA, hWA⟩ : ∃ W', wr.alloc (.cells #[.int .i64 t, .int .u16 id, .int .i64 v, .string s] 42) = W' := ⟨_, rfl⟩
        have hbA := Lib.hid (one_box (xs := [.int .i64 t, .int .u16 id, .int .i64 v, .string s]) hWA)
        have hdA := Lib.hid (hrl.out.2.trans (hbA.out.1.mono hrl.out.2.size))
        have hownA := Lib.hid (hrl.out.1.below hbA.out.1)
        clear hx hok hcA hidd
        go_wp2_with (first
          | (with_reducible refine wpList_load_at rfl 42 (.tmp 35) rfl Try.underlying42 rfl hsz rfl hcell.out ?_)
          | (with_reducible refine wpList_load_at rfl 42 (.tmp 7) rfl Try.underlying42 rfl hsz rfl hbA.out.2.1.all ?_))
        clear hWA
        refine (rowBytes_any t id v s WA t0 (by omega) hi0 hi1 h8).mono ?_
        rintro e w5 ⟨q5, c5, rfl, ho5, hb5⟩
        have ho5' := Lib.hid ho5
        have hown5 := Lib.hid (hownA.out.below hb5)
        have hd5 := Lib.hid (hdA.out.trans (hb5.mono hdA.out.size))
        have hsz5 := Lib.hid hd5.out.size
        clear ho5 hb5
        go_wp2_with (first
          | (at_builtin
             refine wpList_append_bytes rfl (.tmp 37) (.tmp 39) rfl rfl rfl hown5.out ho5'.out.holds.1 (by omega) hsz5.out ?_
             intro q6 c6 w6 h6 hg6
             have hnew : Hid (Own w6 W.heap.size (.slice q6 (n0 + (12 + s.size)) c6) (([1] ++ [UInt8.ofNat rn]) ++ encRows (rows.take (k + 1))) ∧ Below W.heap.size W w6) := ⟨by rw [hst.out, ← List.append_assoc]; exact h6, hown5.out.up hg6 hd5.out (Nat.le_refl _)⟩
             clear h6 hg6))
        go_roundw
        case rel => exact ⟨k + 1, q6, n0 + (12 + s.size), c6, by omega, by go_num, rfl, hnew⟩
        case measure => simp [RowKit.intOf]; omega
      · obtain rfl : rn = k := by omega
        have hfin : Hid (Own wr W.heap.size (.slice q0 n0 cap0) (encC ⟨1, rows, kids⟩)) := by
          have h := hrl.out.1
          rw [List.take_of_length_le (by rw [hLn.out]; exact Nat.le_refl _)] at h
          have e : encC ⟨1, rows, kids⟩ = ([1] ++ [UInt8.ofNat rn]) ++ encRows rows := by
            rw [← hLn.out]
            rfl
          show Own _ _ _ _
          rw [e]
          exact h
        go_wp2
        go_ret2
        exact ⟨q0, n0, cap0, 0, rfl, .inl ⟨rfl, hgood'.out, hfin.out.mono hbx.out.1.size⟩, hbx.out.1.trans (hrl.out.2.mono hbx.out.1.size)⟩
  · have hbad' := Lib.hid hbad
    clear hbad d0 d1 d2
    go_wp2
    go_ret2
    exact ⟨none, 0, 0, 160, rfl, .inr ⟨rfl, hbad'.out, rfl, rfl, rfl⟩, hup.out⟩

set_option maxRecDepth 100000 in
set_option maxHeartbeats 4000000 in
theorem content2 (rq : Option Addr) (rn rc : Nat) (kq : Option Addr) (kn kc : Nat) (rows : List RowD) (kids : List KidD) (w : World) (h : ContOn w 2 rq rn rc kq kn kc ⟨2, rows, kids⟩) :
    Calls Try.prog 13 #[.agg #[.int .i64 2, .slice rq rn rc, .slice kq kn kc]] w (CtPost ⟨2, rows, kids⟩ w) := by
  obtain ⟨W, hW⟩ : ∃ W, w.alloc (.cells #[.int .i64 2, .slice rq rn rc, .slice kq kn kc] 27) = W := ⟨_, rfl⟩
  have hbx := Lib.hid (one_box (xs := [.int .i64 2, .slice rq rn rc, .slice kq kn kc]) hW)
  have hs2 := sizeCont (.int .i64 2) (.slice rq rn rc) (.slice kq kn kc)
  have hon := Lib.hid (h.below hbx.out.1 (Nat.le_refl _))
  clear h
  go_enter Try.func13, Try.ntmps13
  go_wp2_with (first
    | (with_reducible refine wpList_load_at rfl 27 (.tmp 1) rfl Try.underlying27 rfl hs2 rfl hbx.out.2.1.all ?_))
  clear hW
  refine (check_any 2 rq rn rc kq kn kc ⟨2, rows, kids⟩ W hon.out).mono ?_
  rintro e w1 ⟨x, rfl, hx, hb1⟩
  have hd := Lib.hid hb1
  have hup := Lib.hid (hbx.out.1.trans (hb1.mono hbx.out.1.size))
  have d0 := (hbx.out.2.1.below hb1 (Nat.le_refl _)).cell 0 rfl
  have d1 := (hbx.out.2.1.below hb1 (Nat.le_refl _)).cell 1 rfl
  have d2 := (hbx.out.2.1.below hb1 (Nat.le_refl _)).cell 2 rfl
  clear hb1
  rcases hx with ⟨rfl, hgood⟩ | ⟨rfl, hbad⟩
  · have hgood' := Lib.hid hgood
    clear hgood
    obtain ⟨W2, hW2⟩ : ∃ W2, w1.alloc (.cells #[.int .u8 2] 5) = W2 := ⟨_, rfl⟩
    have hb2 := Lib.hid (one_box (xs := [.int .u8 2]) hW2)
    have hm2 : Hid (Row 5 W2 w1.heap.size [2]) := by have h := made1 w1 2; rw [show ((2 : UInt8).toNat : Int) = 2 from rfl, hW2] at h; exact h
    have hown2 : Hid (Own W2 W.heap.size (.slice (some ⟨w1.heap.size, 0, none⟩) 1 1) [2]) := hm2.out.own hd.out.size (by unfold maxLen; decide)
    have hd2 := Lib.hid (hd.out.trans (hb2.out.1.mono hd.out.size))
    have hG := Lib.hid ((good2 rfl).1 hgood'.out)
    have hLn : Hid (kids.length = kn) := hon.out.kids.len
    have hn4 : kn ≤ 4 := by rw [← hLn.out]; exact hG.out.1.len
    have e1 := cell_keeps hb2.out.1 (Nat.le_refl _) d2
    have e0 := cell_keeps hb2.out.1 (Nat.le_refl _) d0
    have hxn : Hid (((UInt8.ofNat kn).toNat : Int) = kn) := by show _ = _; simp; omega
    obtain ⟨W3, hW3⟩ : ∃ W3, W2.alloc (.cells #[.int .u8 kn] 5) = W3 := ⟨_, rfl⟩
    have hb3 := Lib.hid (one_box (xs := [.int .u8 kn]) hW3)
    have hm3 : Hid (Row 5 W3 W2.heap.size [UInt8.ofNat kn]) := by have h := made1 W2 (UInt8.ofNat kn); rw [hxn.out, hW3] at h; exact h
    have hown3 := Lib.hid (hown2.out.below hb3.out.1)
    have hd3 := Lib.hid (hd2.out.trans (hb3.out.1.mono hd2.out.size))
    have hsz3 := Lib.hid hd3.out.size
    go_wp2_with (first
      | (at_builtin
         refine wpList_append_bytes rfl (.tmp 44) (.tmp 49) rfl rfl rfl hown3.out (hm3.out.holds 1) (by decide) hsz3.out ?_
         intro q4 c4 w4 h4 hg4
         have ho4 := Lib.hid h4
         have hd4 := Lib.hid (hown3.out.up hg4 hd3.out (Nat.le_refl _))
         have f1 := (hbx.out.2.1.below hd4.out (Nat.le_refl _)).cell 2 rfl
         clear h4 hg4))
    clear hW2 hW3 e0 e1 f1 d0 d1 d2
    have hr0 : Hid (Own w4 W.heap.size (.slice q4 2 c4) (([2] ++ [UInt8.ofNat kn]) ++ encKids (kids.take 0)) ∧ Below W.heap.size W w4) := ⟨by have h := ho4.out; rw [show encKids (kids.take 0) = [] from rfl, List.append_nil]; exact h, hd4.out⟩
    go_loopw [5, 54] (fun v5 v54 wr => ∃ (k : Nat) (q0 : Option Addr) (n0 cap0 : Nat), k ≤ kn ∧ v54 = .int .i64 k ∧ v5 = .slice q0 n0 cap0 ∧ Hid (Own wr W.heap.size (.slice q0 n0 cap0) (([2] ++ [UInt8.ofNat kn]) ++ encKids (kids.take k)) ∧ Below W.heap.size W wr)) (fun _ v54 _ => kn - (RowKit.intOf v54).toNat)
    case atStart => exact ⟨0, q4, 2, c4, Nat.zero_le _, rfl, rfl, hr0⟩
    case round =>
      obtain ⟨k, q0, n0, cap0, hk, rfl, rfl, hrl⟩ := hrel
      have hcut : (encKids (kids.take k)).length ≤ 20 * k := by have h := encKids_len (kids.take k); rw [List.length_take] at h; omega
      have hn0 : n0 ≤ 2 + 20 * k := by
        have h := holds_len hrl.out.1.holds.1
        rw [List.length_append] at h
        simp at h
        omega
      clear hcut
      by_cases hlt : k < kn
      · obtain ⟨A, ⟨⟨t, id⟩, v⟩, hqA, hx, hok, hcA⟩ := (hon.out.kids.below hrl.out.2 (Nat.le_refl _)).at hlt
        subst hqA
        have hcell : Hid (∀ j x, ([.int .i64 t, .int .u16 id, .int .i64 v] : List Value)[j]? = some x → wr.cell? ((A.add (k * 3)).add j) = some x) := hcA
        have hsz := sizeKid t id v
        have hx' := Lib.hid hx
        have hfit := fitsK_ok (hG.out.1.fits k _ hx)
        obtain ⟨t0, t1, p0, p1⟩ := hfit
        have hidd := hok.key.id
        have hi0 : 0 ≤ id := hidd.1
        have hi1 : id < 65536 := hidd.2
        have hst := Lib.hid (encKids_step hx)
        obtain ⟨WA, hWA⟩ : ∃ W', wr.alloc (.cells #[.int .i64 t, .int .u16 id, .int .i64 v] 56) = W' := ⟨_, rfl⟩
        have hbA := Lib.hid (one_box (xs := [.int .i64 t, .int .u16 id, .int .i64 v]) hWA)
        have hdA := Lib.hid (hrl.out.2.trans (hbA.out.1.mono hrl.out.2.size))
        have hownA := Lib.hid (hrl.out.1.below hbA.out.1)
        clear hx hok hcA hidd
        go_wp2_with (first
          | (with_reducible refine wpList_load_at rfl 56 (.tmp 56) rfl Try.underlying56 rfl hsz rfl hcell.out ?_)
          | (with_reducible refine wpList_load_at rfl 56 (.tmp 9) rfl Try.underlying56 rfl hsz rfl hbA.out.2.1.all ?_))
        clear hWA
        refine (kidBytes_any t id v WA t0 (by omega) hi0 hi1 (by omega) (by omega)).mono ?_
        rintro e w5 ⟨q5, c5, rfl, ho5, hb5⟩
        have ho5' := Lib.hid ho5
        have hown5 := Lib.hid (hownA.out.below hb5)
        have hd5 := Lib.hid (hdA.out.trans (hb5.mono hdA.out.size))
        have hsz5 := Lib.hid hd5.out.size
        clear ho5 hb5
        go_wp2_with (first
          | (at_builtin
             refine wpList_append_bytes rfl (.tmp 58) (.tmp 60) rfl rfl rfl hown5.out ho5'.out.holds.1 (by omega) hsz5.out ?_
             intro q6 c6 w6 h6 hg6
             have hnew : Hid (Own w6 W.heap.size (.slice q6 (n0 + 4) c6) (([2] ++ [UInt8.ofNat kn]) ++ encKids (kids.take (k + 1))) ∧ Below W.heap.size W w6) := ⟨by rw [hst.out, ← List.append_assoc]; exact h6, hown5.out.up hg6 hd5.out (Nat.le_refl _)⟩
             clear h6 hg6))
        go_roundw
        case rel => exact ⟨k + 1, q6, n0 + 4, c6, by omega, by go_num, rfl, hnew⟩
        case measure => simp [RowKit.intOf]; omega
      · obtain rfl : kn = k := by omega
        have hfin : Hid (Own wr W.heap.size (.slice q0 n0 cap0) (encC ⟨2, rows, kids⟩)) := by
          have h := hrl.out.1
          rw [List.take_of_length_le (by rw [hLn.out]; exact Nat.le_refl _)] at h
          have e : encC ⟨2, rows, kids⟩ = ([2] ++ [UInt8.ofNat kn]) ++ encKids kids := by
            rw [← hLn.out]
            rfl
          show Own _ _ _ _
          rw [e]
          exact h
        go_wp2
        go_ret2
        exact ⟨q0, n0, cap0, 0, rfl, .inl ⟨rfl, hgood'.out, hfin.out.mono hbx.out.1.size⟩, hbx.out.1.trans (hrl.out.2.mono hbx.out.1.size)⟩
  · have hbad' := Lib.hid hbad
    clear hbad d0 d1 d2
    go_wp2
    go_ret2
    exact ⟨none, 0, 0, 160, rfl, .inr ⟨rfl, hbad'.out, rfl, rfl, rfl⟩, hup.out⟩

theorem content_any (k : Int) (rq : Option Addr) (rn rc : Nat) (kq : Option Addr) (kn kc : Nat) (c : ContD) (w : World) (h : ContOn w k rq rn rc kq kn kc c) :
    Calls Try.prog 13 #[.agg #[.int .i64 k, .slice rq rn rc, .slice kq kn kc]] w (CtPost c w) := by
  obtain ⟨ck, rows, kids⟩ := c
  obtain rfl : k = ck := h.kind
  by_cases h0 : k = 0
  · subst h0; exact content0 rq rn rc kq kn kc rows kids w h
  · by_cases h1 : k = 1
    · subst h1; exact content1 rq rn rc kq kn kc rows kids w h
    · by_cases h2 : k = 2
      · subst h2; exact content2 rq rn rc kq kn kc rows kids w h
      · exact contentN k rq rn rc kq kn kc rows kids w h h0 h1 h2
end Go.Proofs.Ytcniolmihpkmmaa
