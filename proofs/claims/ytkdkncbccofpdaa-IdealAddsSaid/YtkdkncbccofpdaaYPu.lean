/- Put of row. -/
import Derived.Test.YtkdkncbccofpdaaYPut
namespace Go.Proofs.Ytkdkncbccofpdaa
open Go.RowKit

def posK (l : List RowD) (k : KeyD) : Nat := (l.takeWhile fun x => decide (cmpK x.key k < 0)).length
theorem posK_place {l : List RowD} {k : KeyD} {j : Nat} (h : Place l k j) : posK l k = j := by
  have h1 : ∀ x ∈ l.take j, decide (cmpK x.key k < 0) = true := fun x hx => by
    obtain ⟨i, hi⟩ := List.mem_iff_getElem?.1 hx
    rw [List.getElem?_take] at hi
    split at hi
    · exact decide_eq_true (h.lo i x ‹_› hi)
    · cases hi
  have h2 : (l.drop j).takeWhile (fun x => decide (cmpK x.key k < 0)) = [] := by
    cases hd : l.drop j with
    | nil => rfl
    | cons a t =>
      have ha : l[j]? = some a := by rw [← Nat.add_zero j, ← List.getElem?_drop, hd]; rfl
      have := h.hi j a (Nat.le_refl _) ha
      rw [List.takeWhile_cons, if_neg (by simp; omega)]
  unfold posK
  rw [← List.take_append_drop j l, List.takeWhile_append_of_pos h1, h2, List.append_nil, List.length_take]
  exact Nat.min_eq_left h.le
/-- a list with a row, whose key stands there or not -/
def putL (l : List RowD) (r : RowD) : List RowD := if atB l r.key (posK l r.key) = true then l.take (posK l r.key) ++ r :: l.drop (posK l r.key + 1) else l.take (posK l r.key) ++ r :: l.drop (posK l r.key)
def putE (bs : List BdD) (l : List RowD) (r : RowD) : Int := if chkList bs l = 0 then (if rowE bs r = 0 then (if atB l r.key (posK l r.key) = false ∧ l.length = 60 then 6 else 0) else rowE bs r) else chkList bs l
def putR (bs : List BdD) (l : List RowD) (r : RowD) : List RowD := if putE bs l r = 0 then putL l r else []

theorem chkList_zero {bs : List BdD} {l : List RowD} (h : chkList bs l = 0) : okS bs = true ∧ okL bs l = true := by
  unfold chkList at h
  split at h
  · split at h
    · exact ⟨‹_›, ‹_›⟩
    · cases h
  · cases h

theorem atB_lt {l : List RowD} {k : KeyD} {j : Nat} (h : atB l k j = true) : j < l.length := by
  rcases Nat.lt_or_ge j l.length with hl | hl
  · exact hl
  · rw [atB_none hl] at h; cases h
theorem Boxed.key {w : World} {g : Nat} {a b c d : Value} (h : Boxed w g [a, b, c, d]) : ∀ j x, ([a, b] : List Value)[j]? = some x → w.cell? ((⟨g, 0, none⟩ : Addr).add j) = some x := fun j x hj => h j x (by
  match j, hj with
  | 0, hj => exact hj
  | 1, hj => exact hj
  | j + 2, hj => simp at hj)

def PutPost (bs : List BdD) (l : List RowD) (r : RowD) (w : World) (e : Ending) (w' : World) : Prop :=
  ∃ q' m' c', e = .returned (.tuple #[.slice q' m' c', .int .i64 (putE bs l r)]) ∧ RowsOn w' q' m' c' (putR bs l r) ∧ Below w.heap.size w w' ∧ OwnR 68 w' 0 (.slice q' m' c') (putR bs l r)

theorem ret_si {q : Option Addr} {n c : Nat} {a b : Int} (h : a = b) : Ending.returned (.tuple #[.slice q n c, .int .i64 a]) = .returned (.tuple #[.slice q n c, .int .i64 b]) := by rw [h]

set_option maxRecDepth 100000 in
set_option maxHeartbeats 2000000 in
theorem put_any (q : Option Addr) (n c : Nat) (bs : List BdD) (lq : Option Addr) (ln lc : Nat) (l : List RowD) (t id v : Int) (s : ByteArray) (w : World) (h : SchOn w q n c bs) (hr : RowsOn w lq ln lc l) (hok : RowOk ⟨⟨t, id⟩, v, s⟩) :
    Calls Try.prog 88 #[.agg #[.slice q n c], .slice lq ln lc, .agg #[.int .i64 t, .int .u16 id, .int .i64 v, .string s]] w (PutPost bs l ⟨⟨t, id⟩, v, s⟩ w) := by
  obtain ⟨W, hW⟩ : ∃ W, (w.alloc (.cells #[.slice q n c] 24)).alloc (.cells #[.int .i64 t, .int .u16 id, .int .i64 v, .string s] 68) = W := ⟨_, rfl⟩
  have hbx := Lib.hid (two_boxes (xs := [.slice q n c]) (ys := [.int .i64 t, .int .u16 id, .int .i64 v, .string s]) hW)
  have hs1 := sizeSch q n c
  have hs2 := sizeRow t id v s
  have hs3 := sizeKey t id
  have e1 := Lib.hid hbx.out.2.1
  have hsc := Lib.hid (h.below hbx.out.1 (Nat.le_refl _))
  have hrr := Lib.hid (hr.below hbx.out.1 (Nat.le_refl _))
  have hok' := Lib.hid hok
  have hcl := Lib.hid (checkList_any q n c bs lq ln lc l W hsc.out hrr.out)
  obtain ⟨eL, hL⟩ : ∃ x, chkList bs l = x := ⟨_, rfl⟩
  rw [hL] at hcl
  have hL' := Lib.hid hL
  clear h hr hok hL
  by_cases hz : eL = 0
  · subst hz
    obtain ⟨eR, hR⟩ : ∃ x, rowE bs ⟨⟨t, id⟩, v, s⟩ = x := ⟨_, rfl⟩
    have hR' := Lib.hid hR
    clear hR
    have hll := Lib.hid hrr.out.len
    have hns := Lib.hid (chkList_zero hL'.out).2
    have hn60 : ln ≤ 60 := by rw [← hll.out]; exact ((okL_iff bs l).1 hns.out).1
    by_cases hz2 : eR = 0
    · subst hz2
      obtain ⟨B, hBv⟩ : ∃ B, atB l ⟨t, id⟩ (posK l ⟨t, id⟩) = B := ⟨_, rfl⟩
      have hBv' := Lib.hid hBv
      clear hBv
      cases B with
      | true =>
        have hE : putE bs l ⟨⟨t, id⟩, v, s⟩ = 0 := by unfold putE; rw [if_pos hL'.out, if_pos hR'.out, if_neg]; rw [hBv'.out]; simp
        have hE' := Lib.hid hE
        clear hE
        go_enter Try.func88, Try.ntmps88
        go_wp2_with (first
          | (with_reducible refine wpList_load_at rfl 24 (.tmp 3) rfl Try.underlying24 rfl hs1 rfl e1.out.all ?_)
          | (go_at_call 28; refine hcl.out.mono ?_; rintro e w1 ⟨rfl, hb1⟩; have hb2 := Lib.hid hb1; have hb := Lib.hid (hbx.out.1.trans (hb1.mono hbx.out.1.size)); have f1 := Lib.hid (hbx.out.2.1.below hb1 (Nat.le_refl _)); have f2 := Lib.hid (hbx.out.2.2.1.below hb1 (Nat.le_refl _)); clear hb1)
          | (with_reducible refine wpList_load_at rfl 24 (.tmp 3) rfl Try.underlying24 rfl hs1 rfl f1.out.all ?_)
          | (with_reducible refine wpList_load_at rfl 68 (.tmp 5) rfl Try.underlying68 rfl hs2 rfl f2.out.all ?_)
          | (go_at_call 53
             refine (must3_any q n c bs t id v s _ _ ((hsc.out.below hb2.out (Nat.le_refl _)).below ((Below.refl _ _).alloc (Nat.le_refl _) _) (Nat.le_refl _)) hok'.out.note (Boxed.made w1 [fnV 54, fnV 55, fnV 56])).mono ?_
             rintro e w2 ⟨rfl, hb3⟩
             rw [hR'.out]
             have hb3' := Lib.hid (((Below.refl w1.heap.size w1).alloc (Nat.le_refl _) (.cells #[fnV 54, fnV 55, fnV 56] 102)).trans (hb3.mono (by simp)))
             have hb4 := Lib.hid (hb.out.trans (hb3'.out.mono hb.out.size))
             have g2 := Lib.hid (f2.out.below hb3'.out (Nat.le_refl _))
             have g3 := Lib.hid (g2.out.key)
             have hr2 := Lib.hid ((hrr.out.below hb2.out (Nat.le_refl _)).below hb3'.out (Nat.le_refl _))
             clear hb3)
          | (with_reducible refine wpList_load_at rfl 28 (.tmp 27) rfl Try.underlying28 rfl hs3 rfl g3.out ?_)
          | (go_at_call 94
             refine (search_any lq _ lc l t id w2 hr2.out (okL_rising hns.out) (by omega)).mono ?_
             rintro e w3 ⟨j, rfl, hp, hb5⟩
             have hj := Lib.hid (posK_place hp)
             have hjl := Lib.hid hp.le
             have hb6 := Lib.hid (hb4.out.trans (hb5.mono hb4.out.size))
             have k2 := Lib.hid (g2.out.below hb5 (Nat.le_refl _))
             have hr3 := Lib.hid (hr2.out.below hb5 (Nat.le_refl _))
             have hAt := Lib.hid (show atB l ⟨t, id⟩ j = true by rw [← hj.out]; exact hBv'.out)
             rw [hAt.out]
             have hjb : j ≤ 60 := by have := hjl.out; rw [hll.out] at this; omega
             clear hp hb5)
          | (with_reducible refine wpList_load_at rfl 68 (.tmp 5) rfl Try.underlying68 rfl hs2 rfl k2.out.all ?_)
          | (go_at_call 95
             refine (spliced_set lq ln lc j _ l ⟨⟨t, id⟩, v, s⟩ _ (hr3.out.below ((Below.refl _ _).alloc (Nat.le_refl _) _) (Nat.le_refl _)) (by have h := atB_lt hAt.out; rw [hll.out] at h; exact h) (by omega) (RowV.made w3 [.int .i64 t, .int .u16 id, .int .i64 v, .string s]) hok'.out).mono ?_
             rintro e w4 ⟨q4, c4, rfl, h7, h8, h9⟩
             have hr7 := Lib.hid h7
             have ho7 := Lib.hid (OwnR.mono h9 (Nat.zero_le _))
             have hb8 := Lib.hid (hb6.out.trans ((((Below.refl w3.heap.size w3).alloc (Nat.le_refl _) _).trans (h8.mono (by simp))).mono hb6.out.size))
             clear h7 h8 h9))
        go_ret2
        have e7 : putR bs l ⟨⟨t, id⟩, v, s⟩ = l.take j ++ ⟨⟨t, id⟩, v, s⟩ :: l.drop (j + 1) := by
          unfold putR putL
          rw [if_pos hE'.out, if_pos hBv'.out, hj.out]
        refine ⟨_, _, _, ret_si hE'.out.symm, ?_, hb8.out, ?_⟩
        · rw [e7]; exact hr7.out
        · rw [e7]; exact ho7.out
      | false =>
        by_cases h60 : ln = 60
        · have hE : putE bs l ⟨⟨t, id⟩, v, s⟩ = 6 := by unfold putE; rw [if_pos hL'.out, if_pos hR'.out, if_pos]; exact ⟨hBv'.out, hll.out.trans h60⟩
          have hE' := Lib.hid hE
          clear hE
          subst h60
          go_enter Try.func88, Try.ntmps88
          go_wp2_with (first
            | (with_reducible refine wpList_load_at rfl 24 (.tmp 3) rfl Try.underlying24 rfl hs1 rfl e1.out.all ?_)
            | (go_at_call 28; refine hcl.out.mono ?_; rintro e w1 ⟨rfl, hb1⟩; have hb2 := Lib.hid hb1; have hb := Lib.hid (hbx.out.1.trans (hb1.mono hbx.out.1.size)); have f1 := Lib.hid (hbx.out.2.1.below hb1 (Nat.le_refl _)); have f2 := Lib.hid (hbx.out.2.2.1.below hb1 (Nat.le_refl _)); clear hb1)
            | (with_reducible refine wpList_load_at rfl 24 (.tmp 3) rfl Try.underlying24 rfl hs1 rfl f1.out.all ?_)
            | (with_reducible refine wpList_load_at rfl 68 (.tmp 5) rfl Try.underlying68 rfl hs2 rfl f2.out.all ?_)
            | (go_at_call 53
               refine (must3_any q n c bs t id v s _ _ ((hsc.out.below hb2.out (Nat.le_refl _)).below ((Below.refl _ _).alloc (Nat.le_refl _) _) (Nat.le_refl _)) hok'.out.note (Boxed.made w1 [fnV 54, fnV 55, fnV 56])).mono ?_
               rintro e w2 ⟨rfl, hb3⟩
               rw [hR'.out]
               have hb3' := Lib.hid (((Below.refl w1.heap.size w1).alloc (Nat.le_refl _) (.cells #[fnV 54, fnV 55, fnV 56] 102)).trans (hb3.mono (by simp)))
               have hb4 := Lib.hid (hb.out.trans (hb3'.out.mono hb.out.size))
               have g2 := Lib.hid (f2.out.below hb3'.out (Nat.le_refl _))
               have g3 := Lib.hid (g2.out.key)
               have hr2 := Lib.hid ((hrr.out.below hb2.out (Nat.le_refl _)).below hb3'.out (Nat.le_refl _))
               clear hb3)
            | (with_reducible refine wpList_load_at rfl 28 (.tmp 27) rfl Try.underlying28 rfl hs3 rfl g3.out ?_)
            | (go_at_call 94
               refine (search_any lq _ lc l t id w2 hr2.out (okL_rising hns.out) (by omega)).mono ?_
               rintro e w3 ⟨j, rfl, hp, hb5⟩
               have hj := Lib.hid (posK_place hp)
               have hjl := Lib.hid hp.le
               have hb6 := Lib.hid (hb4.out.trans (hb5.mono hb4.out.size))
               have k2 := Lib.hid (g2.out.below hb5 (Nat.le_refl _))
               have hr3 := Lib.hid (hr2.out.below hb5 (Nat.le_refl _))
               have hAt := Lib.hid (show atB l ⟨t, id⟩ j = false by rw [← hj.out]; exact hBv'.out)
               rw [hAt.out]
               have hjb : j ≤ 60 := by have := hjl.out; rw [hll.out] at this; omega
               clear hp hb5)
            | (with_reducible refine wpList_load_at rfl 68 (.tmp 5) rfl Try.underlying68 rfl hs2 rfl k2.out.all ?_))
          go_ret2
          rw [show PutPost bs l ⟨⟨t, id⟩, v, s⟩ w = fun e w' => ∃ q' m' c', e = .returned (.tuple #[.slice q' m' c', .int .i64 (putE bs l ⟨⟨t, id⟩, v, s⟩)]) ∧ RowsOn w' q' m' c' [] ∧ Below w.heap.size w w' ∧ OwnR 68 w' 0 (.slice q' m' c') [] by unfold PutPost; rw [show putR bs l ⟨⟨t, id⟩, v, s⟩ = [] by unfold putR; rw [hE'.out, if_neg (by decide)]]]
          exact ⟨_, _, _, ret_si hE'.out.symm, RowsOn.none_ _, hb6.out, OwnR.nil _ _ _⟩
        · have hE : putE bs l ⟨⟨t, id⟩, v, s⟩ = 0 := by unfold putE; rw [if_pos hL'.out, if_pos hR'.out, if_neg]; rintro ⟨_, h⟩; exact h60 (hll.out.symm.trans h)
          have hE' := Lib.hid hE
          clear hE
          have h60' : ¬ (ln : Int) = 60 := by omega
          go_enter Try.func88, Try.ntmps88
          go_wp2_with (first
            | (with_reducible refine wpList_load_at rfl 24 (.tmp 3) rfl Try.underlying24 rfl hs1 rfl e1.out.all ?_)
            | (go_at_call 28; refine hcl.out.mono ?_; rintro e w1 ⟨rfl, hb1⟩; have hb2 := Lib.hid hb1; have hb := Lib.hid (hbx.out.1.trans (hb1.mono hbx.out.1.size)); have f1 := Lib.hid (hbx.out.2.1.below hb1 (Nat.le_refl _)); have f2 := Lib.hid (hbx.out.2.2.1.below hb1 (Nat.le_refl _)); clear hb1)
            | (with_reducible refine wpList_load_at rfl 24 (.tmp 3) rfl Try.underlying24 rfl hs1 rfl f1.out.all ?_)
            | (with_reducible refine wpList_load_at rfl 68 (.tmp 5) rfl Try.underlying68 rfl hs2 rfl f2.out.all ?_)
            | (go_at_call 53
               refine (must3_any q n c bs t id v s _ _ ((hsc.out.below hb2.out (Nat.le_refl _)).below ((Below.refl _ _).alloc (Nat.le_refl _) _) (Nat.le_refl _)) hok'.out.note (Boxed.made w1 [fnV 54, fnV 55, fnV 56])).mono ?_
               rintro e w2 ⟨rfl, hb3⟩
               rw [hR'.out]
               have hb3' := Lib.hid (((Below.refl w1.heap.size w1).alloc (Nat.le_refl _) (.cells #[fnV 54, fnV 55, fnV 56] 102)).trans (hb3.mono (by simp)))
               have hb4 := Lib.hid (hb.out.trans (hb3'.out.mono hb.out.size))
               have g2 := Lib.hid (f2.out.below hb3'.out (Nat.le_refl _))
               have g3 := Lib.hid (g2.out.key)
               have hr2 := Lib.hid ((hrr.out.below hb2.out (Nat.le_refl _)).below hb3'.out (Nat.le_refl _))
               clear hb3)
            | (with_reducible refine wpList_load_at rfl 28 (.tmp 27) rfl Try.underlying28 rfl hs3 rfl g3.out ?_)
            | (go_at_call 94
               refine (search_any lq _ lc l t id w2 hr2.out (okL_rising hns.out) (by omega)).mono ?_
               rintro e w3 ⟨j, rfl, hp, hb5⟩
               have hj := Lib.hid (posK_place hp)
               have hjl := Lib.hid hp.le
               have hb6 := Lib.hid (hb4.out.trans (hb5.mono hb4.out.size))
               have k2 := Lib.hid (g2.out.below hb5 (Nat.le_refl _))
               have hr3 := Lib.hid (hr2.out.below hb5 (Nat.le_refl _))
               have hAt := Lib.hid (show atB l ⟨t, id⟩ j = false by rw [← hj.out]; exact hBv'.out)
               rw [hAt.out]
               have hjb : j ≤ 60 := by have := hjl.out; rw [hll.out] at this; omega
               clear hp hb5)
            | (with_reducible refine wpList_load_at rfl 68 (.tmp 5) rfl Try.underlying68 rfl hs2 rfl k2.out.all ?_)
            | (go_at_call 95
               refine (spliced_ins lq ln lc j _ l ⟨⟨t, id⟩, v, s⟩ _ (hr3.out.below ((Below.refl _ _).alloc (Nat.le_refl _) _) (Nat.le_refl _)) (by have := hjl.out; rw [hll.out] at this; exact this) (by omega) (RowV.made w3 [.int .i64 t, .int .u16 id, .int .i64 v, .string s]) hok'.out).mono ?_
               rintro e w4 ⟨q4, c4, rfl, h7, h8, h9⟩
               have hr7 := Lib.hid h7
               have ho7 := Lib.hid (OwnR.mono h9 (Nat.zero_le _))
               have hb8 := Lib.hid (hb6.out.trans ((((Below.refl w3.heap.size w3).alloc (Nat.le_refl _) _).trans (h8.mono (by simp))).mono hb6.out.size))
               clear h7 h8 h9))
          go_ret2
          have e7 : putR bs l ⟨⟨t, id⟩, v, s⟩ = l.take j ++ ⟨⟨t, id⟩, v, s⟩ :: l.drop j := by
            unfold putR putL
            rw [if_pos hE'.out, if_neg (by rw [hBv'.out]; simp), hj.out]
          refine ⟨_, _, _, ret_si hE'.out.symm, ?_, hb8.out, ?_⟩
          · rw [e7]; exact hr7.out
          · rw [e7]; exact ho7.out
    · have hE : putE bs l ⟨⟨t, id⟩, v, s⟩ = eR := by unfold putE; rw [if_pos hL'.out, hR'.out, if_neg hz2]
      have hE' := Lib.hid hE
      clear hE
      go_enter Try.func88, Try.ntmps88
      go_wp2_with (first
        | (with_reducible refine wpList_load_at rfl 24 (.tmp 3) rfl Try.underlying24 rfl hs1 rfl e1.out.all ?_)
        | (go_at_call 28; refine hcl.out.mono ?_; rintro e w1 ⟨rfl, hb1⟩; have hb2 := Lib.hid hb1; have hb := Lib.hid (hbx.out.1.trans (hb1.mono hbx.out.1.size)); have f1 := Lib.hid (hbx.out.2.1.below hb1 (Nat.le_refl _)); have f2 := Lib.hid (hbx.out.2.2.1.below hb1 (Nat.le_refl _)); clear hb1)
        | (with_reducible refine wpList_load_at rfl 24 (.tmp 3) rfl Try.underlying24 rfl hs1 rfl f1.out.all ?_)
        | (with_reducible refine wpList_load_at rfl 68 (.tmp 5) rfl Try.underlying68 rfl hs2 rfl f2.out.all ?_)
        | (go_at_call 53
           refine (must3_any q n c bs t id v s _ _ ((hsc.out.below hb2.out (Nat.le_refl _)).below ((Below.refl _ _).alloc (Nat.le_refl _) _) (Nat.le_refl _)) hok'.out.note (Boxed.made w1 [fnV 54, fnV 55, fnV 56])).mono ?_
           rintro e w2 ⟨rfl, hb3⟩
           rw [hR'.out]
           have hb4 := Lib.hid (hb.out.trans ((((Below.refl w1.heap.size w1).alloc (Nat.le_refl _) _).trans (hb3.mono (by simp))).mono hb.out.size))
           clear hb3))
      go_ret2
      exact ⟨_, _, _, ret_si hE'.out.symm, (by rw [show putR bs l ⟨⟨t, id⟩, v, s⟩ = [] by unfold putR; rw [hE'.out, if_neg hz2]]; exact RowsOn.none_ _), hb4.out, (by rw [show putR bs l ⟨⟨t, id⟩, v, s⟩ = [] by unfold putR; rw [hE'.out, if_neg hz2]]; exact OwnR.nil _ _ _)⟩
  · have hE : putE bs l ⟨⟨t, id⟩, v, s⟩ = eL := by unfold putE; rw [hL'.out, if_neg hz]
    have hE' := Lib.hid hE
    clear hE
    go_enter Try.func88, Try.ntmps88
    go_wp2_with (first
        | (with_reducible refine wpList_load_at rfl 24 (.tmp 3) rfl Try.underlying24 rfl hs1 rfl e1.out.all ?_)
        | (go_at_call 28; refine hcl.out.mono ?_; rintro e w1 ⟨rfl, hb1⟩; have hb := Lib.hid (hbx.out.1.trans (hb1.mono hbx.out.1.size)); clear hb1))
    go_ret2
    exact ⟨_, _, _, ret_si hE'.out.symm, (by rw [show putR bs l ⟨⟨t, id⟩, v, s⟩ = [] by unfold putR; rw [hE'.out, if_neg hz]]; exact RowsOn.none_ _), hb.out, (by rw [show putR bs l ⟨⟨t, id⟩, v, s⟩ = [] by unfold putR; rw [hE'.out, if_neg hz]]; exact OwnR.nil _ _ _)⟩
end Go.Proofs.Ytkdkncbccofpdaa
