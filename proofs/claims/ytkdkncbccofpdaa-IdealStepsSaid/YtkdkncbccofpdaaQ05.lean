/- Parts of the proof: Put of row; Find of row; over of the laws on rows, and Of of row and of the document; Same of row, slices.Equal of rows, and Same of the document -/
import Derived.Test.YtkdkncbccofpdaaQ04
namespace Go.Proofs.Ytkdkncbccofpdaa
open Go.RowKit
def posK (l : List RowD) (k : KeyD) : Nat := (l.takeWhile fun x => decide (cmpK x.key k < 0)).length
theorem posK_place {l : List RowD} {k : KeyD} {j : Nat} (h : Place l k j) : posK l k = j := by
 have h1 : ∀ x ∈ l.take j, decide (cmpK x.key k < 0) = true := fun x hx => by
  obtain ⟨i, hi⟩ := List.mem_iff_getElem?.1 hx
  rw [List.getElem?_take] at hi
  split at hi
  · exact decide_eq_true (h.lo i x ‹_› hi)
  · cases hi
 have h2 : (l.drop j).takeWhile (fun x => decide (cmpK x.key k < 0)) = [] := by
  cases hd : l.drop j with
  | nil => rfl
  | cons a t =>
    have ha : l[j]? = some a := by rw [← Nat.add_zero j, ← List.getElem?_drop, hd]; rfl
    have := h.hi j a (Nat.le_refl _) ha
    rw [List.takeWhile_cons, if_neg (by simp; omega)]
 unfold posK
 rw [← List.take_append_drop j l, List.takeWhile_append_of_pos h1, h2, List.append_nil, List.length_take]
 exact Nat.min_eq_left h.le
/-- a list with a row, whose key stands there or not -/
def putL (l : List RowD) (r : RowD) : List RowD := if atB l r.key (posK l r.key) = true then l.take (posK l r.key) ++ r :: l.drop (posK l r.key + 1) else l.take (posK l r.key) ++ r :: l.drop (posK l r.key)
def putE (bs : List BdD) (l : List RowD) (r : RowD) : Int := if chkList bs l = 0 then (if rowE bs r = 0 then (if atB l r.key (posK l r.key) = false ∧ l.length = 60 then 6 else 0) else rowE bs r) else chkList bs l
def putR (bs : List BdD) (l : List RowD) (r : RowD) : List RowD := if putE bs l r = 0 then putL l r else []
theorem chkList_zero {bs : List BdD} {l : List RowD} (h : chkList bs l = 0) : okS bs = true ∧ okL bs l = true := by
 unfold chkList at h
 split at h
 · split at h
   · exact ⟨‹_›, ‹_›⟩
   · cases h
 · cases h
theorem atB_lt {l : List RowD} {k : KeyD} {j : Nat} (h : atB l k j = true) : j < l.length := by
 rcases Nat.lt_or_ge j l.length with hl | hl
 · exact hl
 · rw [atB_none hl] at h; cases h
theorem Boxed.key {w : World} {g : Nat} {a b c d : Value} (h : Boxed w g [a, b, c, d]) : ∀ j x, ([a, b] : List Value)[j]? = some x → w.cell? ((⟨g, 0, none⟩ : Addr).add j) = some x := fun j x hj => h j x (by
 match j, hj with
 | 0, hj => exact hj
 | 1, hj => exact hj
 | j + 2, hj => simp at hj)
def PutPost (bs : List BdD) (l : List RowD) (r : RowD) (w : World) (e : Ending) (w' : World) : Prop :=
 ∃ q' m' c', e = .returned (.tuple #[.slice q' m' c', .int .i64 (putE bs l r)]) ∧ RowsOn w' q' m' c' (putR bs l r) ∧ Below w.heap.size w w' ∧ OwnR 68 w' 0 (.slice q' m' c') (putR bs l r)
theorem ret_si {q : Option Addr} {n c : Nat} {a b : Int} (h : a = b) : Ending.returned (.tuple #[.slice q n c, .int .i64 a]) = .returned (.tuple #[.slice q n c, .int .i64 b]) := by rw [h]
set_option maxRecDepth 100000 in
set_option maxHeartbeats 2000000 in
theorem put_any (q : Option Addr) (n c : Nat) (bs : List BdD) (lq : Option Addr) (ln lc : Nat) (l : List RowD) (t id v : Int) (s : ByteArray) (w : World) (h : SchOn w q n c bs) (hr : RowsOn w lq ln lc l) (hok : RowOk ⟨⟨t, id⟩, v, s⟩) :
 Calls Try.prog 88 #[.agg #[.slice q n c], .slice lq ln lc, .agg #[.int .i64 t, .int .u16 id, .int .i64 v, .string s]] w (PutPost bs l ⟨⟨t, id⟩, v, s⟩ w) := by
 obtain ⟨W, hW⟩ : ∃ W, (w.alloc (.cells #[.slice q n c] 24)).alloc (.cells #[.int .i64 t, .int .u16 id, .int .i64 v, .string s] 68) = W := ⟨_, rfl⟩
 have hbx := Lib.hid (two_boxes (xs := [.slice q n c]) (ys := [.int .i64 t, .int .u16 id, .int .i64 v, .string s]) hW)
 have hs1 := sizeSch q n c
 have hs2 := sizeRow t id v s
 have hs3 := sizeKey t id
 have e1 := Lib.hid hbx.out.2.1
 have hsc := Lib.hid (h.below hbx.out.1 (Nat.le_refl _))
 have hrr := Lib.hid (hr.below hbx.out.1 (Nat.le_refl _))
 have hok' := Lib.hid hok
 have hcl := Lib.hid (checkList_any q n c bs lq ln lc l W hsc.out hrr.out)
 obtain ⟨eL, hL⟩ : ∃ x, chkList bs l = x := ⟨_, rfl⟩
 rw [hL] at hcl
 have hL' := Lib.hid hL
 clear h hr hok hL
 by_cases hz : eL = 0
 · subst hz
   obtain ⟨eR, hR⟩ : ∃ x, rowE bs ⟨⟨t, id⟩, v, s⟩ = x := ⟨_, rfl⟩
   have hR' := Lib.hid hR
   clear hR
   have hll := Lib.hid hrr.out.len
   have hns := Lib.hid (chkList_zero hL'.out).2
   have hn60 : ln ≤ 60 := by rw [← hll.out]; exact ((okL_iff bs l).1 hns.out).1
   by_cases hz2 : eR = 0
   · subst hz2
     obtain ⟨B, hBv⟩ : ∃ B, atB l ⟨t, id⟩ (posK l ⟨t, id⟩) = B := ⟨_, rfl⟩
     have hBv' := Lib.hid hBv
     clear hBv
     cases B with
     | true =>
       have hE : putE bs l ⟨⟨t, id⟩, v, s⟩ = 0 := by unfold putE; rw [if_pos hL'.out, if_pos hR'.out, if_neg]; rw [hBv'.out]; simp
       have hE' := Lib.hid hE
       clear hE
       go_enter Try.func88, Try.ntmps88
       go_wp2_with (first
        | (with_reducible refine wpList_load_at rfl 24 (.tmp 3) rfl Try.underlying24 rfl hs1 rfl e1.out.all ?_)
        | (go_at_call 28; refine hcl.out.mono ?_; rintro e w1 ⟨rfl, hb1⟩; have hb2 := Lib.hid hb1; have hb := Lib.hid (hbx.out.1.trans (hb1.mono hbx.out.1.size)); have f1 := Lib.hid (hbx.out.2.1.below hb1 (Nat.le_refl _)); have f2 := Lib.hid (hbx.out.2.2.1.below hb1 (Nat.le_refl _)); clear hb1)
        | (with_reducible refine wpList_load_at rfl 24 (.tmp 3) rfl Try.underlying24 rfl hs1 rfl f1.out.all ?_)
        | (with_reducible refine wpList_load_at rfl 68 (.tmp 5) rfl Try.underlying68 rfl hs2 rfl f2.out.all ?_)
        | (go_at_call 53
           refine (must3_any q n c bs t id v s _ _ ((hsc.out.below hb2.out (Nat.le_refl _)).below ((Below.refl _ _).alloc (Nat.le_refl _) _) (Nat.le_refl _)) hok'.out.note (Boxed.made w1 [fnV 54, fnV 55, fnV 56])).mono ?_
           rintro e w2 ⟨rfl, hb3⟩
           rw [hR'.out]
           have hb3' := Lib.hid (((Below.refl w1.heap.size w1).alloc (Nat.le_refl _) (.cells #[fnV 54, fnV 55, fnV 56] 102)).trans (hb3.mono (by simp)))
           have hb4 := Lib.hid (hb.out.trans (hb3'.out.mono hb.out.size))
           have g2 := Lib.hid (f2.out.below hb3'.out (Nat.le_refl _))
           have g3 := Lib.hid (g2.out.key)
           have hr2 := Lib.hid ((hrr.out.below hb2.out (Nat.le_refl _)).below hb3'.out (Nat.le_refl _))
           clear hb3)
        | (with_reducible refine wpList_load_at rfl 28 (.tmp 27) rfl Try.underlying28 rfl hs3 rfl g3.out ?_)
        | (go_at_call 94
           refine (search_any lq _ lc l t id w2 hr2.out (okL_rising hns.out) (by omega)).mono ?_
           rintro e w3 ⟨j, rfl, hp, hb5⟩
           have hj := Lib.hid (posK_place hp)
           have hjl := Lib.hid hp.le
           have hb6 := Lib.hid (hb4.out.trans (hb5.mono hb4.out.size))
           have k2 := Lib.hid (g2.out.below hb5 (Nat.le_refl _))
           have hr3 := Lib.hid (hr2.out.below hb5 (Nat.le_refl _))
           have hAt := Lib.hid (show atB l ⟨t, id⟩ j = true by rw [← hj.out]; exact hBv'.out)
           rw [hAt.out]
           have hjb : j ≤ 60 := by have := hjl.out; rw [hll.out] at this; omega
           clear hp hb5)
        | (with_reducible refine wpList_load_at rfl 68 (.tmp 5) rfl Try.underlying68 rfl hs2 rfl k2.out.all ?_)
        | (go_at_call 95
           refine (spliced_set lq ln lc j _ l ⟨⟨t, id⟩, v, s⟩ _ (hr3.out.below ((Below.refl _ _).alloc (Nat.le_refl _) _) (Nat.le_refl _)) (by have h := atB_lt hAt.out; rw [hll.out] at h; exact h) (by omega) (RowV.made w3 [.int .i64 t, .int .u16 id, .int .i64 v, .string s]) hok'.out).mono ?_
           rintro e w4 ⟨q4, c4, rfl, h7, h8, h9⟩
           have hr7 := Lib.hid h7
           have ho7 := Lib.hid (OwnR.mono h9 (Nat.zero_le _))
           have hb8 := Lib.hid (hb6.out.trans ((((Below.refl w3.heap.size w3).alloc (Nat.le_refl _) _).trans (h8.mono (by simp))).mono hb6.out.size))
           clear h7 h8 h9))
       go_ret2
       have e7 : putR bs l ⟨⟨t, id⟩, v, s⟩ = l.take j ++ ⟨⟨t, id⟩, v, s⟩ :: l.drop (j + 1) := by
        unfold putR putL
        rw [if_pos hE'.out, if_pos hBv'.out, hj.out]
       refine ⟨_, _, _, ret_si hE'.out.symm, ?_, hb8.out, ?_⟩
       · rw [e7]; exact hr7.out
       · rw [e7]; exact ho7.out
     | false =>
       by_cases h60 : ln = 60
       · have hE : putE bs l ⟨⟨t, id⟩, v, s⟩ = 6 := by unfold putE; rw [if_pos hL'.out, if_pos hR'.out, if_pos]; exact ⟨hBv'.out, hll.out.trans h60⟩
         have hE' := Lib.hid hE
         clear hE
         subst h60
         go_enter Try.func88, Try.ntmps88
         go_wp2_with (first
          | (with_reducible refine wpList_load_at rfl 24 (.tmp 3) rfl Try.underlying24 rfl hs1 rfl e1.out.all ?_)
          | (go_at_call 28; refine hcl.out.mono ?_; rintro e w1 ⟨rfl, hb1⟩; have hb2 := Lib.hid hb1; have hb := Lib.hid (hbx.out.1.trans (hb1.mono hbx.out.1.size)); have f1 := Lib.hid (hbx.out.2.1.below hb1 (Nat.le_refl _)); have f2 := Lib.hid (hbx.out.2.2.1.below hb1 (Nat.le_refl _)); clear hb1)
          | (with_reducible refine wpList_load_at rfl 24 (.tmp 3) rfl Try.underlying24 rfl hs1 rfl f1.out.all ?_)
          | (with_reducible refine wpList_load_at rfl 68 (.tmp 5) rfl Try.underlying68 rfl hs2 rfl f2.out.all ?_)
          | (go_at_call 53
             refine (must3_any q n c bs t id v s _ _ ((hsc.out.below hb2.out (Nat.le_refl _)).below ((Below.refl _ _).alloc (Nat.le_refl _) _) (Nat.le_refl _)) hok'.out.note (Boxed.made w1 [fnV 54, fnV 55, fnV 56])).mono ?_
             rintro e w2 ⟨rfl, hb3⟩
             rw [hR'.out]
             have hb3' := Lib.hid (((Below.refl w1.heap.size w1).alloc (Nat.le_refl _) (.cells #[fnV 54, fnV 55, fnV 56] 102)).trans (hb3.mono (by simp)))
             have hb4 := Lib.hid (hb.out.trans (hb3'.out.mono hb.out.size))
             have g2 := Lib.hid (f2.out.below hb3'.out (Nat.le_refl _))
             have g3 := Lib.hid (g2.out.key)
             have hr2 := Lib.hid ((hrr.out.below hb2.out (Nat.le_refl _)).below hb3'.out (Nat.le_refl _))
             clear hb3)
          | (with_reducible refine wpList_load_at rfl 28 (.tmp 27) rfl Try.underlying28 rfl hs3 rfl g3.out ?_)
          | (go_at_call 94
             refine (search_any lq _ lc l t id w2 hr2.out (okL_rising hns.out) (by omega)).mono ?_
             rintro e w3 ⟨j, rfl, hp, hb5⟩
             have hj := Lib.hid (posK_place hp)
             have hjl := Lib.hid hp.le
             have hb6 := Lib.hid (hb4.out.trans (hb5.mono hb4.out.size))
             have k2 := Lib.hid (g2.out.below hb5 (Nat.le_refl _))
             have hr3 := Lib.hid (hr2.out.below hb5 (Nat.le_refl _))
             have hAt := Lib.hid (show atB l ⟨t, id⟩ j = false by rw [← hj.out]; exact hBv'.out)
             rw [hAt.out]
             have hjb : j ≤ 60 := by have := hjl.out; rw [hll.out] at this; omega
             clear hp hb5)
          | (with_reducible refine wpList_load_at rfl 68 (.tmp 5) rfl Try.underlying68 rfl hs2 rfl k2.out.all ?_))
         go_ret2
         rw [show PutPost bs l ⟨⟨t, id⟩, v, s⟩ w = fun e w' => ∃ q' m' c', e = .returned (.tuple #[.slice q' m' c', .int .i64 (putE bs l ⟨⟨t, id⟩, v, s⟩)]) ∧ RowsOn w' q' m' c' [] ∧ Below w.heap.size w w' ∧ OwnR 68 w' 0 (.slice q' m' c') [] by unfold PutPost; rw [show putR bs l ⟨⟨t, id⟩, v, s⟩ = [] by unfold putR; rw [hE'.out, if_neg (by decide)]]]
         exact ⟨_, _, _, ret_si hE'.out.symm, RowsOn.none_ _, hb6.out, OwnR.nil _ _ _⟩
       · have hE : putE bs l ⟨⟨t, id⟩, v, s⟩ = 0 := by unfold putE; rw [if_pos hL'.out, if_pos hR'.out, if_neg]; rintro ⟨_, h⟩; exact h60 (hll.out.symm.trans h)
         have hE' := Lib.hid hE
         clear hE
         have h60' : ¬ (ln : Int) = 60 := by omega
         go_enter Try.func88, Try.ntmps88
         go_wp2_with (first
          | (with_reducible refine wpList_load_at rfl 24 (.tmp 3) rfl Try.underlying24 rfl hs1 rfl e1.out.all ?_)
          | (go_at_call 28; refine hcl.out.mono ?_; rintro e w1 ⟨rfl, hb1⟩; have hb2 := Lib.hid hb1; have hb := Lib.hid (hbx.out.1.trans (hb1.mono hbx.out.1.size)); have f1 := Lib.hid (hbx.out.2.1.below hb1 (Nat.le_refl _)); have f2 := Lib.hid (hbx.out.2.2.1.below hb1 (Nat.le_refl _)); clear hb1)
          | (with_reducible refine wpList_load_at rfl 24 (.tmp 3) rfl Try.underlying24 rfl hs1 rfl f1.out.all ?_)
          | (with_reducible refine wpList_load_at rfl 68 (.tmp 5) rfl Try.underlying68 rfl hs2 rfl f2.out.all ?_)
          | (go_at_call 53
             refine (must3_any q n c bs t id v s _ _ ((hsc.out.below hb2.out (Nat.le_refl _)).below ((Below.refl _ _).alloc (Nat.le_refl _) _) (Nat.le_refl _)) hok'.out.note (Boxed.made w1 [fnV 54, fnV 55, fnV 56])).mono ?_
             rintro e w2 ⟨rfl, hb3⟩
             rw [hR'.out]
             have hb3' := Lib.hid (((Below.refl w1.heap.size w1).alloc (Nat.le_refl _) (.cells #[fnV 54, fnV 55, fnV 56] 102)).trans (hb3.mono (by simp)))
             have hb4 := Lib.hid (hb.out.trans (hb3'.out.mono hb.out.size))
             have g2 := Lib.hid (f2.out.below hb3'.out (Nat.le_refl _))
             have g3 := Lib.hid (g2.out.key)
             have hr2 := Lib.hid ((hrr.out.below hb2.out (Nat.le_refl _)).below hb3'.out (Nat.le_refl _))
             clear hb3)
          | (with_reducible refine wpList_load_at rfl 28 (.tmp 27) rfl Try.underlying28 rfl hs3 rfl g3.out ?_)
          | (go_at_call 94
             refine (search_any lq _ lc l t id w2 hr2.out (okL_rising hns.out) (by omega)).mono ?_
             rintro e w3 ⟨j, rfl, hp, hb5⟩
             have hj := Lib.hid (posK_place hp)
             have hjl := Lib.hid hp.le
             have hb6 := Lib.hid (hb4.out.trans (hb5.mono hb4.out.size))
             have k2 := Lib.hid (g2.out.below hb5 (Nat.le_refl _))
             have hr3 := Lib.hid (hr2.out.below hb5 (Nat.le_refl _))
             have hAt := Lib.hid (show atB l ⟨t, id⟩ j = false by rw [← hj.out]; exact hBv'.out)
             rw [hAt.out]
             have hjb : j ≤ 60 := by have := hjl.out; rw [hll.out] at this; omega
             clear hp hb5)
          | (with_reducible refine wpList_load_at rfl 68 (.tmp 5) rfl Try.underlying68 rfl hs2 rfl k2.out.all ?_)
          | (go_at_call 95
             refine (spliced_ins lq ln lc j _ l ⟨⟨t, id⟩, v, s⟩ _ (hr3.out.below ((Below.refl _ _).alloc (Nat.le_refl _) _) (Nat.le_refl _)) (by have := hjl.out; rw [hll.out] at this; exact this) (by omega) (RowV.made w3 [.int .i64 t, .int .u16 id, .int .i64 v, .string s]) hok'.out).mono ?_
             rintro e w4 ⟨q4, c4, rfl, h7, h8, h9⟩
             have hr7 := Lib.hid h7
             have ho7 := Lib.hid (OwnR.mono h9 (Nat.zero_le _))
             have hb8 := Lib.hid (hb6.out.trans ((((Below.refl w3.heap.size w3).alloc (Nat.le_refl _) _).trans (h8.mono (by simp))).mono hb6.out.size))
             clear h7 h8 h9))
         go_ret2
         have e7 : putR bs l ⟨⟨t, id⟩, v, s⟩ = l.take j ++ ⟨⟨t, id⟩, v, s⟩ :: l.drop j := by
          unfold putR putL
          rw [if_pos hE'.out, if_neg (by rw [hBv'.out]; simp), hj.out]
         refine ⟨_, _, _, ret_si hE'.out.symm, ?_, hb8.out, ?_⟩
         · rw [e7]; exact hr7.out
         · rw [e7]; exact ho7.out
   · have hE : putE bs l ⟨⟨t, id⟩, v, s⟩ = eR := by unfold putE; rw [if_pos hL'.out, hR'.out, if_neg hz2]
     have hE' := Lib.hid hE
     clear hE
     go_enter Try.func88, Try.ntmps88
     go_wp2_with (first
      | (with_reducible refine wpList_load_at rfl 24 (.tmp 3) rfl Try.underlying24 rfl hs1 rfl e1.out.all ?_)
      | (go_at_call 28; refine hcl.out.mono ?_; rintro e w1 ⟨rfl, hb1⟩; have hb2 := Lib.hid hb1; have hb := Lib.hid (hbx.out.1.trans (hb1.mono hbx.out.1.size)); have f1 := Lib.hid (hbx.out.2.1.below hb1 (Nat.le_refl _)); have f2 := Lib.hid (hbx.out.2.2.1.below hb1 (Nat.le_refl _)); clear hb1)
      | (with_reducible refine wpList_load_at rfl 24 (.tmp 3) rfl Try.underlying24 rfl hs1 rfl f1.out.all ?_)
      | (with_reducible refine wpList_load_at rfl 68 (.tmp 5) rfl Try.underlying68 rfl hs2 rfl f2.out.all ?_)
      | (go_at_call 53
         refine (must3_any q n c bs t id v s _ _ ((hsc.out.below hb2.out (Nat.le_refl _)).below ((Below.refl _ _).alloc (Nat.le_refl _) _) (Nat.le_refl _)) hok'.out.note (Boxed.made w1 [fnV 54, fnV 55, fnV 56])).mono ?_
         rintro e w2 ⟨rfl, hb3⟩
         rw [hR'.out]
         have hb4 := Lib.hid (hb.out.trans ((((Below.refl w1.heap.size w1).alloc (Nat.le_refl _) _).trans (hb3.mono (by simp))).mono hb.out.size))
         clear hb3))
     go_ret2
     exact ⟨_, _, _, ret_si hE'.out.symm, (by rw [show putR bs l ⟨⟨t, id⟩, v, s⟩ = [] by unfold putR; rw [hE'.out, if_neg hz2]]; exact RowsOn.none_ _), hb4.out, (by rw [show putR bs l ⟨⟨t, id⟩, v, s⟩ = [] by unfold putR; rw [hE'.out, if_neg hz2]]; exact OwnR.nil _ _ _)⟩
 · have hE : putE bs l ⟨⟨t, id⟩, v, s⟩ = eL := by unfold putE; rw [hL'.out, if_neg hz]
   have hE' := Lib.hid hE
   clear hE
   go_enter Try.func88, Try.ntmps88
   go_wp2_with (first
    | (with_reducible refine wpList_load_at rfl 24 (.tmp 3) rfl Try.underlying24 rfl hs1 rfl e1.out.all ?_)
    | (go_at_call 28; refine hcl.out.mono ?_; rintro e w1 ⟨rfl, hb1⟩; have hb := Lib.hid (hbx.out.1.trans (hb1.mono hbx.out.1.size)); clear hb1))
   go_ret2
   exact ⟨_, _, _, ret_si hE'.out.symm, (by rw [show putR bs l ⟨⟨t, id⟩, v, s⟩ = [] by unfold putR; rw [hE'.out, if_neg hz]]; exact RowsOn.none_ _), hb.out, (by rw [show putR bs l ⟨⟨t, id⟩, v, s⟩ = [] by unfold putR; rw [hE'.out, if_neg hz]]; exact OwnR.nil _ _ _)⟩
end Go.Proofs.Ytkdkncbccofpdaa
namespace Go.Proofs.Ytkdkncbccofpdaa
open Go.RowKit
def findK (l : List RowD) (k : KeyD) : Option Nat := l.findIdx? fun r => eqK r.key k
theorem findK_some {l : List RowD} {k : KeyD} {i : Nat} {r : RowD} (hi : l[i]? = some r) (hr : eqK r.key k = true) (hlt : ∀ (j : Nat) (x : RowD), j < i → l[j]? = some x → eqK x.key k = false) : findK l k = some i := by
 unfold findK
 have hl := (List.getElem?_eq_some_iff.1 hi).1
 rw [List.findIdx?_eq_some_iff_getElem]
 refine ⟨hl, ?_, fun j hj => ?_⟩
 · rw [(List.getElem?_eq_some_iff.1 hi).2]; exact hr
 · have := hlt j _ hj (List.getElem?_eq_getElem (by omega))
   simp [this]
theorem findK_none {l : List RowD} {k : KeyD} (h : ∀ (j : Nat) (x : RowD), l[j]? = some x → eqK x.key k = false) : findK l k = none := by
 unfold findK
 rw [List.findIdx?_eq_none_iff]
 intro x hx
 obtain ⟨j, hj⟩ := List.mem_iff_getElem?.1 hx
 exact h j x hj
def findN (l : List RowD) (k : KeyD) : Int := match findK l k with | some i => i | none => 0
def findB (l : List RowD) (k : KeyD) : Bool := (findK l k).isSome
def FndRel (W wr : World) (l : List RowD) (k : KeyD) (n : Nat) : Prop := Below W.heap.size W wr ∧ ∀ i r, i < n → l[i]? = some r → eqK r.key k = false
theorem eqK_false {a b c d : Int} (h : ¬ (a = c ∧ b = d)) : eqK ⟨a, b⟩ ⟨c, d⟩ = false := by
 unfold eqK
 rw [Bool.and_eq_false_iff]
 by_cases h1 : a = c
 · right; simp; exact fun h2 => h ⟨h1, h2⟩
 · left; simpa using h1
theorem ret_ib {a b : Int} {x y : Bool} (h : a = b) (h2 : x = y) : Ending.returned (.tuple #[.int .i64 a, .bool x]) = .returned (.tuple #[.int .i64 b, .bool y]) := by rw [h, h2]
set_option maxRecDepth 100000 in
set_option maxHeartbeats 2000000 in
theorem find_any (q : Option Addr) (n c : Nat) (l : List RowD) (t id : Int) (w : World) (hr : RowsOn w q n c l) (hn : n ≤ 4611686018427387904) :
 Calls Try.prog 31 #[.slice q n c, .agg #[.int .i64 t, .int .u16 id]] w (fun e w' => e = .returned (.tuple #[.int .i64 (findN l ⟨t, id⟩), .bool (findB l ⟨t, id⟩)]) ∧ Below w.heap.size w w') := by
 obtain ⟨W, hW⟩ : ∃ W, w.alloc (.cells #[.int .i64 t, .int .u16 id] 28) = W := ⟨_, rfl⟩
 have hbx := Lib.hid (one_box (xs := [.int .i64 t, .int .u16 id]) hW)
 have hs3 := sizeKey t id
 have hrr := Lib.hid (hr.below hbx.out.1 (Nat.le_refl _))
 have hll := Lib.hid hr.len
 clear hr
 have hr0 : Hid (FndRel W W l ⟨t, id⟩ 0) := ⟨Below.refl _ _, fun i r hi => by omega⟩
 go_enter Try.func31, Try.ntmps31
 go_wp2
 clear hW
 go_loopw [10] (fun v10 wr => ∃ k : Nat, k ≤ n ∧ v10 = .int .i64 k ∧ Hid (FndRel W wr l ⟨t, id⟩ k)) (fun v10 _ => n - (intOf v10).toNat)
 case atStart => exact ⟨0, Nat.zero_le _, rfl, hr0⟩
 case round =>
  obtain ⟨k, hk, rfl, hrl⟩ := hrel
  by_cases hlt : k < n
  · obtain ⟨a, ⟨⟨pt, pid⟩, pv, ps⟩, rfl, hx, hok, hc⟩ := (hrr.out.below hrl.out.1 (Nat.le_refl _)).at hlt
    have hcell : Hid (∀ j x, ([.int .i64 pt, .int .u16 pid, .int .i64 pv, .string ps] : List Value)[j]? = some x → wr.cell? ((a.add (k * 4)).add j) = some x) := hc
    have hx' := Lib.hid hx
    have hs2 := sizeRow pt pid pv ps
    have hs4 := sizeKey pt pid
    have hbw := Lib.hid hrl.out.1
    have f1 := Lib.hid (Boxed.made (T := 68) wr [.int .i64 pt, .int .u16 pid, .int .i64 pv, .string ps]).key
    have f2 := Lib.hid ((hbx.out.2.1.below hbw.out (Nat.le_refl _)).below ((Below.refl _ _).alloc (Nat.le_refl _) (.cells #[.int .i64 pt, .int .u16 pid, .int .i64 pv, .string ps] 68)) (Nat.le_refl _))
    have hb3 := Lib.hid (hbw.out.alloc hbw.out.size (.cells #[.int .i64 pt, .int .u16 pid, .int .i64 pv, .string ps] 68))
    clear hx hok hc
    by_cases he : pt = t ∧ pid = id
    · obtain ⟨rfl, rfl⟩ := he
      have hfk := Lib.hid (findK_some hx'.out (by simp [eqK]) (fun j x hj hxj => hrl.out.2 j x hj hxj))
      go_wp2_with (first
       | (with_reducible refine wpList_load_at rfl 68 (.tmp 13) rfl Try.underlying68 rfl hs2 rfl hcell.out ?_)
       | (with_reducible refine wpList_load_at rfl 28 (.tmp 15) rfl Try.underlying28 rfl hs4 rfl f1.out ?_)
       | (with_reducible refine wpList_load_at rfl 28 (.tmp 3) rfl Try.underlying28 rfl hs3 rfl f2.out.all ?_))
      go_ret2
      exact ⟨ret_ib (by unfold findN; rw [hfk.out]) (by unfold findB; rw [hfk.out]; rfl), hbx.out.1.trans (hb3.out.mono hbx.out.1.size)⟩
    · have hef := Lib.hid (eqK_false he)
      have hn1 : (pt == t && pid == id) = false := hef.out
      have hn2 : pt = t → (pid == id) = false := fun h => by simpa using fun h2 => he ⟨h, h2⟩
      by_cases h1 : pt = t
      · have h2 := hn2 h1
        subst h1
        have h3 : ¬ pid = id := by simpa using h2
        clear hn1 hn2 he
        go_wp2_with (first
         | (with_reducible refine wpList_load_at rfl 68 (.tmp 13) rfl Try.underlying68 rfl hs2 rfl hcell.out ?_)
         | (with_reducible refine wpList_load_at rfl 28 (.tmp 15) rfl Try.underlying28 rfl hs4 rfl f1.out ?_)
         | (with_reducible refine wpList_load_at rfl 28 (.tmp 3) rfl Try.underlying28 rfl hs3 rfl f2.out.all ?_))
        go_roundw
        case rel =>
         refine ⟨k + 1, by omega, by go_num, hb3.out, fun i r hi hr => ?_⟩
         rcases Nat.lt_or_ge i k with h | h
         · exact hrl.out.2 i r h hr
         · obtain rfl : i = k := by omega
           rw [hx'.out] at hr; cases hr; exact hef.out
        case measure => simp [intOf]; omega
      · have h2 : (pt == t) = false := by simpa using h1
        clear hn1 hn2 he
        go_wp2_with (first
         | (with_reducible refine wpList_load_at rfl 68 (.tmp 13) rfl Try.underlying68 rfl hs2 rfl hcell.out ?_)
         | (with_reducible refine wpList_load_at rfl 28 (.tmp 15) rfl Try.underlying28 rfl hs4 rfl f1.out ?_)
         | (with_reducible refine wpList_load_at rfl 28 (.tmp 3) rfl Try.underlying28 rfl hs3 rfl f2.out.all ?_))
        go_roundw
        case rel =>
         refine ⟨k + 1, by omega, by go_num, hb3.out, fun i r hi hr => ?_⟩
         rcases Nat.lt_or_ge i k with h | h
         · exact hrl.out.2 i r h hr
         · obtain rfl : i = k := by omega
           rw [hx'.out] at hr; cases hr; exact hef.out
        case measure => simp [intOf]; omega
  · obtain rfl : n = k := by omega
    have hfk := Lib.hid (findK_none (l := l) (k := ⟨t, id⟩) fun j x hj => hrl.out.2 j x (by have := (List.getElem?_eq_some_iff.1 hj).1; rw [hll.out] at this; exact this) hj)
    go_wp2
    go_ret2
    exact ⟨ret_ib (by unfold findN; rw [hfk.out]) (by unfold findB; rw [hfk.out]; rfl), hbx.out.1.trans (hrl.out.1.mono hbx.out.1.size)⟩
end Go.Proofs.Ytkdkncbccofpdaa
namespace Go.Proofs.Ytkdkncbccofpdaa
open Go.RowKit
theorem below_step {W u v : World} (h2 : Below u.heap.size u v) (h : Below W.heap.size W u) : Below W.heap.size W v := h.trans (h2.mono h.size)
def OverPost (w : World) (n ln : Nat) (e : Ending) (w' : World) : Prop := ∃ b, e = .returned (.bool b) ∧ (b = false → n ≤ 20 ∧ ln ≤ 100) ∧ Below w.heap.size w w'
def ofL (l : List RowD) (t : Int) : List RowD := l.filter fun r => r.key.t == t
theorem ofL_ok {l : List RowD} {t : Int} (h : ∀ r ∈ l, RowOk r) : ∀ r ∈ ofL l t, RowOk r := fun r hr => h r (List.mem_filter.1 hr).1
theorem ofL_step {l : List RowD} {t : Int} {k : Nat} {r : RowD} (h : l[k]? = some r) : ofL (l.take (k + 1)) t = if (r.key.t == t) = true then ofL (l.take k) t ++ [r] else ofL (l.take k) t := by
 unfold ofL
 rw [List.take_add_one, h, List.filter_append]
 by_cases hk : (r.key.t == t) = true
 · rw [if_pos hk]; simp [hk]
 · rw [if_neg hk]; simp [hk]
theorem ofL_len (l : List RowD) (t : Int) (k : Nat) : (ofL (l.take k) t).length ≤ k := Nat.le_trans (List.length_filter_le _ _) (by rw [List.length_take]; omega)
def RowsPost (w : World) (L : List RowD) (e : Ending) (w' : World) : Prop := ∃ q' m' c', e = .returned (.slice q' m' c') ∧ OwnR 68 w' w.heap.size (.slice q' m' c') L ∧ RowsOn w' q' m' c' L ∧ Below w.heap.size w w'
def OfRel (w wr : World) (l : List RowD) (t : Int) (k : Nat) (v : Value) : Prop := Below w.heap.size w wr ∧ OwnR 68 wr w.heap.size v (ofL (l.take k) t)
theorem OfRel.hit {w wr W2 w' : World} {l : List RowD} {t : Int} {k : Nat} {q0 q' : Option Addr} {n0 c0 c' : Nat} {r : RowD} (h : OfRel w wr l t k (.slice q0 n0 c0)) (hx : l[k]? = some r) (hk : (r.key.t == t) = true) (hb : Below wr.heap.size wr W2)
 (ho : OwnR 68 w' w.heap.size (.slice q' (n0 + 1) c') (ofL (l.take k) t ++ [r])) (hg : W2.grownBy w' (q0.map (·.block))) : OfRel w w' l t (k + 1) (.slice q' (n0 + 1) c') := by
 refine ⟨?_, by rw [ofL_step hx, if_pos hk]; exact ho⟩
 have h2 := h.1.trans (hb.mono h.1.size)
 exact h2.trans (grown_belowN hg h2.size (fun j hj => by
  cases q0 with
  | none => cases hj
  | some a => cases hj; exact (h.2.far a rfl).1))
theorem OfRel.miss {w wr W2 : World} {l : List RowD} {t : Int} {k : Nat} {q0 : Option Addr} {n0 c0 : Nat} {r : RowD} (h : OfRel w wr l t k (.slice q0 n0 c0)) (hx : l[k]? = some r) (hk : ¬ (r.key.t == t) = true) (hb : Below wr.heap.size wr W2) : OfRel w W2 l t (k + 1) (.slice q0 n0 c0) :=
 ⟨h.1.trans (hb.mono h.1.size), by rw [ofL_step hx, if_neg hk]; exact h.2.below hb⟩
set_option maxRecDepth 100000 in
set_option maxHeartbeats 2000000 in
theorem of_any (q : Option Addr) (n c : Nat) (l : List RowD) (t : Int) (w : World) (hr : RowsOn w q n c l) (hn : n ≤ 1000000) :
 Calls Try.prog 84 #[.slice q n c, .int .i64 t] w (RowsPost w (ofL l t)) := by
 have hrr := Lib.hid hr
 have hll := Lib.hid hr.len
 clear hr
 have hr0 : Hid (OfRel w w l t 0 (.slice none 0 0)) := ⟨Below.refl _ _, OwnR.nil _ _ _⟩
 go_enter Try.func84, Try.ntmps84
 go_wp2
 go_loopw [5, 10] (fun v5 v10 wr => ∃ (k : Nat) (q0 : Option Addr) (n0 c0 : Nat), k ≤ n ∧ v10 = .int .i64 k ∧ v5 = .slice q0 n0 c0 ∧ Hid (OfRel w wr l t k (.slice q0 n0 c0))) (fun _ v10 _ => n - (intOf v10).toNat)
 case atStart => exact ⟨0, none, 0, 0, Nat.zero_le _, rfl, rfl, hr0⟩
 case round =>
  obtain ⟨k, q0, n0, c0, hk, rfl, rfl, hrl⟩ := hrel
  by_cases hlt : k < n
  · obtain ⟨a, ⟨⟨pt, pid⟩, pv, ps⟩, rfl, hx, hok, hc⟩ := (hrr.out.below hrl.out.1 (Nat.le_refl _)).at hlt
    have hcell : Hid (∀ j x, ([.int .i64 pt, .int .u16 pid, .int .i64 pv, .string ps] : List Value)[j]? = some x → wr.cell? ((a.add (k * 4)).add j) = some x) := hc
    have hx' := Lib.hid hx
    have hok' := Lib.hid hok
    have hs2 := sizeRow pt pid pv ps
    have f1 := Lib.hid (Boxed.made (T := 68) wr [.int .i64 pt, .int .u16 pid, .int .i64 pv, .string ps])
    have hn0 : n0 ≤ k := by rw [hrl.out.2.len]; exact ofL_len l t k
    clear hx hok hc
    by_cases he : pt = t
    · obtain rfl : t = pt := he.symm
      clear he
      obtain ⟨W2, hW2⟩ : ∃ W2, (wr.alloc (.cells #[.int .i64 t, .int .u16 pid, .int .i64 pv, .string ps] 68)).alloc (.cells #[.int .i64 t, .int .u16 pid, .int .i64 pv, .string ps] 68) = W2 := ⟨_, rfl⟩
      have hb2 := Lib.hid (two_boxes (xs := [.int .i64 t, .int .u16 pid, .int .i64 pv, .string ps]) (ys := [.int .i64 t, .int .u16 pid, .int .i64 pv, .string ps]) hW2)
      have hrow : Hid (RowsOn W2 (some ⟨wr.heap.size + 1, 0, none⟩) 1 1 [⟨⟨t, pid⟩, pv, ps⟩]) := by
       have h0 := RowV.made (T := 68) (wr.alloc (.cells #[.int .i64 t, .int .u16 pid, .int .i64 pv, .string ps] 68)) [.int .i64 t, .int .u16 pid, .int .i64 pv, .string ps]
       have h1 : RowV 68 W2 (wr.heap.size + 1) [.int .i64 t, .int .u16 pid, .int .i64 pv, .string ps] := by rw [← hW2]; simpa using h0
       exact RowV.rows1 (r := ⟨⟨t, pid⟩, pv, ps⟩) h1 hok'.out
      have hown := Lib.hid (hrl.out.2.below hb2.out.1)
      have hsz : Hid (w.heap.size ≤ W2.heap.size) := Nat.le_trans hrl.out.1.size hb2.out.1.size
      have h40 : Hid ((n0 + 1) * 40 ≤ 140737488355328) := by show _ ≤ _; omega
      have h41 : Hid (n0 + 1 ≤ 140737488355328) := by show _ ≤ _; omega
      go_wp2_with (first
       | (with_reducible refine wpList_load_at rfl 68 (.tmp 12) rfl Try.underlying68 rfl hs2 rfl hcell.out ?_)
       | (with_reducible refine wpList_load_at rfl 68 (.tmp 7) rfl Try.underlying68 rfl hs2 rfl f1.out.all ?_)
       | (at_builtin
          refine wpList_append_r Try.underlying25 infoRow rfl rfl (.tmp 19) (.tmp 21) rfl rfl rfl hown.out hrow.out h40.out h41.out hsz.out ?_
          intro q' c' w' h1 h2 h3
          have hnew := Lib.hid (hrl.out.hit hx'.out (by simp) hb2.out.1 h1 h2)
          clear h1 h2 h3))
      go_roundw
      case rel => exact ⟨k + 1, q', n0 + 1, c', by omega, by go_num, rfl, hnew⟩
      case measure => simp [intOf]; omega
    · have he2 : (pt == t) = false := by simpa using he
      have hnew := Lib.hid (hrl.out.miss hx'.out (by simpa using he) ((Below.refl _ _).alloc (Nat.le_refl _) (.cells #[.int .i64 pt, .int .u16 pid, .int .i64 pv, .string ps] 68)))
      go_wp2_with (first
       | (with_reducible refine wpList_load_at rfl 68 (.tmp 12) rfl Try.underlying68 rfl hs2 rfl hcell.out ?_))
      go_roundw
      case rel => exact ⟨k + 1, q0, n0, c0, by omega, by go_num, rfl, hnew⟩
      case measure => simp [intOf]; omega
  · obtain rfl : n = k := by omega
    have ho := hrl.out.2
    rw [List.take_of_length_le (by rw [hll.out]; exact Nat.le_refl _)] at ho
    have ho' := Lib.hid ho
    clear ho
    go_wp2
    go_ret
    exact ⟨q0, n0, c0, rfl, ho'.out, ho'.out.reads (ofL_ok hrr.out.ok), hrl.out.1⟩
end Go.Proofs.Ytkdkncbccofpdaa
namespace Go.Proofs.Ytkdkncbccofpdaa
open Go.RowKit
def eqR (a b : RowD) : Bool := a.key.t == b.key.t && (a.key.id == b.key.id && (a.val == b.val && a.note.toList == b.note.toList))
theorem bytes_inj {a b : ByteArray} (h : a.toList = b.toList) : a = b := by
 rw [ByteArray.toList_eq, ByteArray.toList_eq] at h
 cases a; cases b
 simp at h
 rw [h]
theorem eqR_iff {a b : RowD} : eqR a b = true ↔ a = b := by
 unfold eqR
 constructor
 · intro h
   simp only [Bool.and_eq_true, beq_iff_eq] at h
   obtain ⟨h1, h2, h3, h4⟩ := h
   obtain ⟨⟨at_, ai⟩, av, an⟩ := a
   obtain ⟨⟨bt, bi⟩, bv, bn⟩ := b
   simp only at h1 h2 h3 h4
   subst h1 h2 h3
   rw [bytes_inj h4]
 · rintro rfl; simp
def sameL : List RowD → List RowD → Bool
 | [], [] => true
 | a :: l, b :: m => eqR a b && sameL l m
 | _, _ => false
theorem sameL_iff : ∀ {l m : List RowD}, sameL l m = true ↔ l = m
 | [], [] => by simp [sameL]
 | [], b :: m => by simp [sameL]
 | a :: l, [] => by simp [sameL]
 | a :: l, b :: m => by simp only [sameL, Bool.and_eq_true, eqR_iff, sameL_iff, List.cons.injEq]
theorem sameL_of {l m : List RowD} {n : Nat} (h1 : l.length = n) (h2 : m.length = n) (h : ∀ i a b, i < n → l[i]? = some a → m[i]? = some b → eqR a b = true) : sameL l m = true := by
 rw [sameL_iff]
 apply List.ext_getElem?
 intro i
 by_cases hi : i < n
 · have e1 : l[i]? = some (l[i]'(by omega)) := List.getElem?_eq_getElem (by omega)
   have e2 : m[i]? = some (m[i]'(by omega)) := List.getElem?_eq_getElem (by omega)
   rw [e1, e2, eqR_iff.1 (h i _ _ hi e1 e2)]
 · rw [List.getElem?_eq_none (by omega), List.getElem?_eq_none (by omega)]
theorem sameL_ne {l m : List RowD} (h : l.length ≠ m.length) : sameL l m = false := by
 cases hs : sameL l m with
 | false => rfl
 | true => exact absurd (congrArg List.length (sameL_iff.1 hs)) h
theorem sameL_at {l m : List RowD} {i : Nat} {a b : RowD} (h1 : l[i]? = some a) (h2 : m[i]? = some b) (h : eqR a b = false) : sameL l m = false := by
 cases hs : sameL l m with
 | false => rfl
 | true =>
   rw [sameL_iff.1 hs, h2] at h1
   cases h1
   rw [eqR_iff.2 rfl] at h; cases h
theorem equal_key (w : World) (a b c d : Int) : (Op.equalIn 9999 28 (.agg #[.int .i64 a, .int .u16 b]) (.agg #[.int .i64 c, .int .u16 d])).run Try.prog w = .ok (a == c && b == d) w := by
 have hS : Try.prog.underlying 28 = some (.struct (Try.prog.fieldsOf 28)) := by kernel_rfl
 have hp : Try.prog.stoodInHeld 28 = false := by kernel_rfl
 have u3 := Try.underlying3
 have u4 := Try.underlying26
 have a3 := Try.isAgg3
 have a4 := Try.isAgg26
 have z3 := Try.sizeOf3
 have z4 := Try.sizeOf26
 rw [show (9999 : Nat) = 9998 + 1 from rfl, run_equalIn_agg w 9998 28 _ _ hS hp]
 simp only [Program.fieldsOf, Try.underlying28]
 clear hS hp
 go_simp
 by_cases h1 : a = c <;> by_cases h2 : b = d <;> simp [h1, h2]
theorem neq_row (w : World) (a b c : Int) (s : ByteArray) (d e f : Int) (u : ByteArray) : (binOp .neq 68 (.agg #[.int .i64 a, .int .u16 b, .int .i64 c, .string s]) (.agg #[.int .i64 d, .int .u16 e, .int .i64 f, .string u])).run Try.prog w = .ok (.bool (!eqR ⟨⟨a, b⟩, c, s⟩ ⟨⟨d, e⟩, f, u⟩)) w := by
 have hS : Try.prog.underlying 68 = some (.struct (Try.prog.fieldsOf 68)) := by kernel_rfl
 have hp : Try.prog.stoodInHeld 68 = false := by kernel_rfl
 have u3 := Try.underlying2
 have u4 := Try.underlying9
 have a3 := Try.isAgg2
 have a4 := Try.isAgg9
 have a5 := Try.isAgg28
 have z3 := Try.sizeOf2
 have z4 := Try.sizeOf9
 have z5 := Try.sizeOf28
 have hk := fun w => equal_key w a b d e
 rw [run_neq_struct, show (10000 : Nat) = 9999 + 1 from rfl, run_equalIn_agg w 9999 68 _ _ hS hp]
 simp only [Program.fieldsOf, Try.underlying68]
 clear hS hp
 unfold eqR
 have hv : ∀ w : World, (Op.equalIn 9999 2 (.int .i64 c) (.int .i64 f)).run Try.prog w = .ok (c == f) w := fun w => run_equalIn_int w 9998 2 .i64 .i64 c f u3
 have hs : ∀ w : World, (Op.equalIn 9999 9 (.string s) (.string u)).run Try.prog w = .ok (s.toList == u.toList) w := fun w => run_equalIn_string w 9998 9 s u u4
 have x1 : (#[Value.int .i64 a, .int .u16 b, .int .i64 c, .string s].extract 0 2) = #[Value.int .i64 a, .int .u16 b] := rfl
 have x2 : (#[Value.int .i64 d, .int .u16 e, .int .i64 f, .string u].extract 0 2) = #[Value.int .i64 d, .int .u16 e] := rfl
 have t1 : (#[Value.int .i64 a, .int .u16 b, .int .i64 c, .string s])[2]? = some (.int .i64 c) := rfl
 have t2 : (#[Value.int .i64 d, .int .u16 e, .int .i64 f, .string u])[2]? = some (.int .i64 f) := rfl
 have t3 : (#[Value.int .i64 a, .int .u16 b, .int .i64 c, .string s])[3]? = some (.string s) := rfl
 have t4 : (#[Value.int .i64 d, .int .u16 e, .int .i64 f, .string u])[3]? = some (.string u) := rfl
 have n1 : ("Key" : String) ≠ "_" := by decide
 have n2 : ("Val" : String) ≠ "_" := by decide
 have n3 : ("Note" : String) ≠ "_" := by decide
 simp only [Op.eqFields, part, a5, z5, a3, a4, hk, hv, hs, x1, x2, t1, t2, t3, t4, if_pos n1, if_pos n2, if_pos n3, Sem.run_bind, Sem.run_ite, Sem.run_pure, Result.andThen_ok, Nat.zero_add, Bool.false_eq_true, if_false, if_true]
 generalize (s.toList == u.toList) = g
 by_cases h1 : a = d <;> by_cases h2 : b = e <;> by_cases h3 : c = f <;> simp [h1, h2, h3]
 cases g <;> rfl
set_option maxRecDepth 100000 in
set_option maxHeartbeats 2000000 in
theorem refSame_any (q1 : Option Addr) (n1 c1 : Nat) (l : List RowD) (q2 : Option Addr) (n2 c2 : Nat) (m : List RowD) (w : World) (h1 : RowsOn w q1 n1 c1 l) (h2 : RowsOn w q2 n2 c2 m) :
 Calls Try.prog 13 #[.slice q1 n1 c1, .slice q2 n2 c2] w (fun e w' => e = .returned (.bool (sameL l m)) ∧ Below w.heap.size w w') := by
 have k1 := Nat.le_trans h1.le h1.cap
 have k2 := Nat.le_trans h2.le h2.cap
 unfold maxLen at k1 k2
 have g1 := Lib.hid h1
 have g2 := Lib.hid h2
 clear h1 h2
 by_cases hn : n1 = n2
 · subst hn
   have hT : Hid ((∀ i a b, i < n1 → l[i]? = some a → m[i]? = some b → eqR a b = true) → sameL l m = true) := fun h => sameL_of g1.out.len g2.out.len h
   have hF : Hid (∀ i a b, l[i]? = some a → m[i]? = some b → eqR a b = false → sameL l m = false) := fun i a b ha hb h => sameL_at ha hb h
   obtain ⟨E, hE⟩ : ∃ E, sameL l m = E := ⟨_, rfl⟩
   rw [hE] at hT hF ⊢
   clear hE
   go_enter Try.func13, Try.ntmps13
   go_wp2
   go_loopw [5] (fun v5 wr => ∃ k : Nat, k ≤ n1 ∧ v5 = .int .i64 k ∧ Hid (Below w.heap.size w wr) ∧ Hid (∀ i a b, i < k → l[i]? = some a → m[i]? = some b → eqR a b = true)) (fun v5 _ => n1 - (intOf v5).toNat)
   case atStart => exact ⟨0, Nat.zero_le _, rfl, (show Below _ _ _ from Below.refl _ _), fun i a b hi => by omega⟩
   case round =>
    obtain ⟨k, hk, rfl, hb, hp⟩ := hrel
    by_cases hlt : k < n1
    · obtain ⟨A, ⟨⟨at_, ai⟩, av, as_⟩, hqA, hx, hokA, hcA⟩ := (g1.out.below hb.out (Nat.le_refl _)).at hlt
      obtain ⟨B, ⟨⟨bt, bi⟩, bv, bs⟩, hqB, hy, hokB, hcB⟩ := (g2.out.below hb.out (Nat.le_refl _)).at hlt
      subst hqA
      subst hqB
      have p0 : wr.cell? (A.add (k * 4)) = some (.int .i64 at_) := by have h := hcA 0 _ rfl; rwa [add0] at h
      have p1 : wr.cell? ⟨(A.add (k * 4)).block, (A.add (k * 4)).off + 1, none⟩ = some (.int .u16 ai) := hcA 1 _ rfl
      have p2 : wr.cell? ⟨(A.add (k * 4)).block, (A.add (k * 4)).off + 2, none⟩ = some (.int .i64 av) := hcA 2 _ rfl
      have p3 : wr.cell? ⟨(A.add (k * 4)).block, (A.add (k * 4)).off + 3, none⟩ = some (.string as_) := hcA 3 _ rfl
      have q0 : wr.cell? (B.add (k * 4)) = some (.int .i64 bt) := by have h := hcB 0 _ rfl; rwa [add0] at h
      have q1 : wr.cell? ⟨(B.add (k * 4)).block, (B.add (k * 4)).off + 1, none⟩ = some (.int .u16 bi) := hcB 1 _ rfl
      have q2 : wr.cell? ⟨(B.add (k * 4)).block, (B.add (k * 4)).off + 2, none⟩ = some (.int .i64 bv) := hcB 2 _ rfl
      have q3 : wr.cell? ⟨(B.add (k * 4)).block, (B.add (k * 4)).off + 3, none⟩ = some (.string bs) := hcB 3 _ rfl
      have hx' := Lib.hid hx
      have hy' := Lib.hid hy
      have i0 : (0 : Int) ≤ k := by omega
      have i1 : (k : Int) < n1 := by omega
      clear hx hy hokA hokB hcA hcB
      have hne := fun u => neq_row u at_ ai av as_ bt bi bv bs
      obtain ⟨b, hbv⟩ : ∃ b, eqR ⟨⟨at_, ai⟩, av, as_⟩ ⟨⟨bt, bi⟩, bv, bs⟩ = b := ⟨_, rfl⟩
      rw [hbv] at hne
      have hbv' := Lib.hid hbv
      clear hbv
      cases b with
      | true =>
        go_wp2
        go_quiet (fail)
        clear hne p0 p1 p2 p3 q0 q1 q2 q3
        go_wp2
        go_roundw
        case rel =>
         refine ⟨k + 1, by omega, by go_num, (show Below _ _ _ from hb.out.trans ((below_drewN _ _).mono hb.out.size)), fun i a b hi ha hb2 => ?_⟩
         rcases Nat.lt_or_ge i k with h | h
         · exact hp.out i a b h ha hb2
         · obtain rfl : i = k := by omega
           rw [hx'.out] at ha; rw [hy'.out] at hb2
           cases ha; cases hb2
           exact hbv'.out
        case measure => simp [intOf]; omega
      | false =>
        go_wp2
        go_quiet (fail)
        clear hne p0 p1 p2 p3 q0 q1 q2 q3
        go_wp2
        go_ret
        exact ⟨by rw [hF.out k _ _ hx'.out hy'.out hbv'.out]; rfl, hb.out.trans ((below_drewN _ _).mono hb.out.size)⟩
    · obtain rfl : n1 = k := by omega
      go_wp2
      go_ret
      exact ⟨by rw [hT.out hp.out]; rfl, hb.out⟩
 · have hs : sameL l m = false := sameL_ne (by rw [g1.out.len, g2.out.len]; exact hn)
   rw [hs]
   clear hs
   have hn1 : ¬ (n1 : Int) = n2 := by omega
   have hn2 : decide (n1 = n2) = false := decide_eq_false hn
   go_enter Try.func13, Try.ntmps13
   go_wp2
   go_ret
   exact ⟨rfl, Below.refl _ _⟩
end Go.Proofs.Ytkdkncbccofpdaa
