/- wakes of the laws on records. -/
import Derived.Test.YtocekhckmpkbmaaGreatQ22
import Derived.Test.YtocekhckmpkbmaaGreatQ23
namespace Go.Proofs.YtocekhckmpkbmaaGreat
open Go.RowKit
theorem i64_c {x : Int} (h : -9223372036854775808 ≤ x ∧ x < 9223372036854775808) : I64 x := h
theorem u64_c {x : Int} (h : 0 ≤ x ∧ x < 18446744073709551616) : U64 x := h
def wkS : StepD := ⟨1, ⟨⟨0, 3⟩, 0, ⟨#[]⟩⟩, -2⟩
def wkR : RecD := ⟨4, 5, 7, 4, 1, [], [wkS], 0, [], []⟩
theorem wk_stp : stpB wkS = true := by
 unfold stpB
 rw [Bool.and_eq_true]
 exact ⟨by decide, by rw [if_pos (show wkS.kind = 1 from rfl)]; exact eqR_iff.2 rfl⟩
theorem wk_may : mayB wkR = true := by
 unfold mayB headB
 rw [kindB4 (r := wkR) rfl, (sameRec_iff (othersD wkR) zRec).2 rfl]
 have hs : stpsB wkR.steps = true := by
  unfold stpsB
  simp only [Bool.and_eq_true, decide_eq_true_eq]
  exact ⟨by decide, by decide, List.all_eq_true.2 (fun s hs => by rw [List.mem_singleton.1 hs]; exact wk_stp)⟩
 rw [hs]
 decide
theorem z_may : mayB zRec = false := by
 unfold mayB headB
 rfl
theorem wk_len : (encRec wkR).length = 42 := by
 have e : (encRec wkR).length = 21 + (encRest wkR).length := by unfold encRec; simp only [List.length_append, length_be]
 have e2 : encRest wkR = be 8 1 ++ (be 1 (u64 1) ++ ((be 1 (u64 1) ++ (be 1 (u64 0) ++ (be 2 (u64 3) ++ be 8 (u64 (-2))))))) := by
  unfold encRest wkR wkS encL encStep
  simp
 rw [e, e2]
 simp only [List.length_append, length_be]
theorem wk_res : resN wkR = 3 := by
 have e : (encRec (undD wkR [])).length = 30 := by
  have e : (encRec (undD wkR [])).length = 21 + (encRest (undD wkR [])).length := by unfold encRec; simp only [List.length_append, length_be]
  have e2 : encRest (undD wkR []) = be 8 0 ++ (be 1 (u64 0) ++ []) := by
   unfold encRest undD encL
   simp
  rw [e, e2]
  simp only [List.length_append, length_be, List.length_nil]
 have hc : chgs wkR.steps = 1 := by decide
 unfold resN
 rw [if_neg (by decide), if_neg (by decide), if_pos (show wkR.kind = 4 from rfl), e, hc]
 rfl
theorem wk_kind : (t0R (encRec wkR)).nm 1 = 4 := by
 unfold encRec
 simp only [List.append_assoc]
 exact (n1_back (x := 4) (by decide) (by decide)).2
theorem dec_of {r r' : RecD} {er : Int} (hm : mayB r = true) (hok : DOk r) (h : DecR (encRec r) r' er) : r' = r ∧ er = 0 := by
 rcases h with ⟨rfl, h1, _⟩ | ⟨_, _, r2, good, h1, h2⟩
 · have h3 := read_back hm hok [] (by rw [List.append_nil]; exact h1)
   exact ⟨h3.1, rfl⟩
 · obtain ⟨rfl, rfl⟩ := read_back hm hok [] (by rw [List.append_nil]; exact h1)
   have := h2 rfl
   rw [hm] at this
   cases this
set_option maxRecDepth 100000 in
set_option maxHeartbeats 8000000 in
theorem wakes_any (w : World) : Calls Tryz.prog 10 #[] w (fun e w' => e = .returned (.bool true) ∧ Below w.heap.size w w') := by
 obtain ⟨w1, hw1⟩ : ∃ y, w.alloc (.cells #[.int .i64 1, .int .i64 0, .int .u16 3, .int .i64 0, .string ⟨#[]⟩, .int .i64 (-2)] 70) = y := ⟨_, rfl⟩
 have hb1 : Below w.heap.size w w1 := by rw [← hw1]; exact (Below.refl _ _).alloc (Nat.le_refl _) _
 have hro1 : RowV 70 w1 w.heap.size (Cel.cells wkS) := by rw [← hw1]; exact RowV.made w _
 obtain ⟨wz, hwz⟩ : ∃ y, w1.alloc (.cells #[.int .i64 0, .int .u64 0, .int .i64 0, .int .u64 0, .int .u64 0, .slice none 0 0, .slice none 0 0, .int .i64 0, .slice none 0 0, .slice none 0 0] 30) = y := ⟨_, rfl⟩
 have hbz : Below w1.heap.size w1 wz := by rw [← hwz]; exact (Below.refl _ _).alloc (Nat.le_refl _) _
 have hz : Hid (RowV 30 wz w1.heap.size [.int .i64 0, .int .u64 0, .int .i64 0, .int .u64 0, .int .u64 0, .slice none 0 0, .slice none 0 0, .int .i64 0, .slice none 0 0, .slice none 0 0]) := by show RowV _ _ _ _; rw [← hwz]; exact RowV.made w1 _
 have hslz := Lib.hid ((OwnS.single hro1).reads.below hbz (Nat.le_refl _))
 have hdz := Lib.hid (hb1.trans (hbz.mono hb1.size))
 have hlt1 : Hid (w.heap.size < w1.heap.size) := hro1.lt
 have zr : (Tryz.prog.info? 30).map (·.size) = some ([.int .i64 4, .int .u64 5, .int .i64 7, .int .u64 4, .int .u64 1, .slice none 0 0, .slice (some ⟨w.heap.size, 0, none⟩) 1 1, .int .i64 0, .slice none 0 0, .slice none 0 0] : List Value).length := sizeRec ⟨4, 5, 7, 4, 1, none, 0, 0, some ⟨w.heap.size, 0, none⟩, 1, 1, 0, none, 0, 0, none, 0, 0⟩
 have rone : ∀ x ∈ ([.int .i64 4, .int .u64 5, .int .i64 7, .int .u64 4, .int .u64 1, .slice none 0 0, .slice (some ⟨w.heap.size, 0, none⟩) 1 1, .int .i64 0, .slice none 0 0, .slice none 0 0] : List Value), x.oneCell' = true := one_all rfl
 clear hb1 hro1 hbz
 go_enter Tryz.func10, Tryz.ntmps10
 go_wp2_with (first
  | ((with_reducible refine wpList_store_at rfl 30 (.tmp 1) (.tmp 14) rfl (o := 0) (vs := [.int .i64 4, .int .u64 5, .int .i64 7, .int .u64 4, .int .u64 1, .slice none 0 0, .slice (some ⟨w.heap.size, 0, none⟩) 1 1, .int .i64 0, .slice none 0 0, .slice none 0 0]) rfl rfl hz.out zr (Nat.le_refl _) rone ?_)
     intro w2 h9 hg9
     have hr2 : Hid (RowV 30 w2 w1.heap.size [.int .i64 4, .int .u64 5, .int .i64 7, .int .u64 4, .int .u64 1, .slice none 0 0, .slice (some ⟨w.heap.size, 0, none⟩) 1 1, .int .i64 0, .slice none 0 0, .slice none 0 0]) := h9
     have g2 := Lib.hid hg9
     clear h9 hg9)
  | (with_reducible refine wpList_load_at rfl 30 (.tmp 1) rfl Tryz.underlying30 rfl zr rfl hr2.out.boxed.all ?_))
 clear hw1 hwz
 have hsl : SlOn w2 (some ⟨w.heap.size, 0, none⟩) 1 1 [wkS] := hslz.out.gr g2.out (fun a ha => by cases ha; have h1 := hlt1.out; simp only; omega)
 have hbx : Hid (Below w.heap.size w w2 ∧ Boxed w2 w1.heap.size [.int .i64 4, .int .u64 5, .int .i64 7, .int .u64 4, .int .u64 1, .slice none 0 0, .slice (some ⟨w.heap.size, 0, none⟩) 1 1, .int .i64 0, .slice none 0 0, .slice none 0 0]) := ⟨hdz.out.trans (grown_belowN g2.out hdz.out.size (fun k e => by cases e; exact Nat.le_of_lt hlt1.out)), hr2.out.boxed⟩
 have hon : Hid (RecV.On ⟨4, 5, 7, 4, 1, none, 0, 0, some ⟨w.heap.size, 0, none⟩, 1, 1, 0, none, 0, 0, none, 0, 0⟩ w2 [] wkR) :=
  ⟨rfl, rfl, rfl, rfl, rfl, rfl, ⟨i64_c (by decide), u64_c (by decide), i64_c (by decide), u64_c (by decide), u64_c (by decide), i64_c (by decide)⟩, ImgsOn.none_ _, hsl, SlOn.none_ _, SlOn.none_ _, (fun s h => by rw [List.mem_singleton.1 h]; exact ⟨i64_c (by decide), ⟨⟨i64_c (by decide), by decide⟩, i64_c (by decide), Nat.zero_le _⟩, i64_c (by decide)⟩), (fun s h => by cases h), (fun s h => by cases h)⟩
 have hd2 := Lib.hid hbx.out.1
 have hlt2 := Lib.hid hr2.out.lt
 clear hsl
 refine (encode_any _ [] wkR w2 hon.out rfl).mono ?_
 rintro e w3 ⟨q, n, c, er, rfl, hor, hb3⟩
 rcases hor with ⟨rfl, _, hown⟩ | ⟨_, hb, _⟩
 rotate_left
 · rw [wk_may] at hb; cases hb
 obtain rfl : n = 42 := (holds_len hown.holds.1).trans wk_len
 have hown := Lib.hid hown
 have hb3 := Lib.hid hb3
 have hdec := Lib.hid (decode_any q 42 c (encRec wkR) w3 hown.out.holds.1 hown.out.holds.2.1 (by decide) (fun a ha _ => (hown.out.holds.2.2 a ha).2) wk_kind)
 go_wp2_with fail
 refine hdec.out.mono ?_
 clear hdec
 rintro e w4 ⟨⟨kind, lsn, txn, prev, next, iq, im, ic, sq, sn, sc, nextTxn, tq, tn, tc, dq, dn, dc⟩, V, r', er, rfl, hon4, hdr, hb4⟩
 obtain ⟨rfl, rfl⟩ := dec_of wk_may hon.out.ok hdr
 have hon4 := Lib.hid hon4
 have h24 := Lib.hid (hb3.out.trans (hb4.mono hb3.out.size))
 clear hb4 hdr hown hb3
 obtain ⟨w5, hw5⟩ : ∃ y, w4.alloc (.cells #[.int .i64 kind, .int .u64 lsn, .int .i64 txn, .int .u64 prev, .int .u64 next, .slice iq im ic, .slice sq sn sc, .int .i64 nextTxn, .slice tq tn tc, .slice dq dn dc] 30) = y := ⟨_, rfl⟩
 have hby := Lib.hid (one_box (xs := [.int .i64 kind, .int .u64 lsn, .int .i64 txn, .int .u64 prev, .int .u64 next, .slice iq im ic, .slice sq sn sc, .int .i64 nextTxn, .slice tq tn tc, .slice dq dn dc]) hw5)
 have hon5 := Lib.hid (hon4.out w5 (fun k _ h2 => hby.out.1.block k h2))
 have h25 := Lib.hid (h24.out.trans (hby.out.1.mono h24.out.size))
 have zr2 : (Tryz.prog.info? 30).map (·.size) = some ([.int .i64 kind, .int .u64 lsn, .int .i64 txn, .int .u64 prev, .int .u64 next, .slice iq im ic, .slice sq sn sc, .int .i64 nextTxn, .slice tq tn tc, .slice dq dn dc] : List Value).length := sizeRec ⟨kind, lsn, txn, prev, next, iq, im, ic, sq, sn, sc, nextTxn, tq, tn, tc, dq, dn, dc⟩
 go_wp2_with (first
  | (with_reducible refine wpList_load_at rfl 30 (.tmp 1) rfl Tryz.underlying30 rfl zr rfl (hbx.out.2.below h25.out (Nat.le_refl _)).all ?_))
 clear hw5
 refine (cost_any _ [] wkR w5 (hon.out.below h25.out (Nat.le_refl _)) rfl).mono ?_
 rintro e w6 ⟨n6, er, rfl, hor, hb6⟩
 rcases hor with ⟨rfl, _, hn6⟩ | ⟨_, hb, _⟩
 rotate_left
 · rw [wk_may] at hb; cases hb
 rw [wk_len] at hn6
 have hn6 : n6 = 1 := hn6
 subst hn6
 have h26 := Lib.hid (h25.out.trans (hb6.mono h25.out.size))
 have h56 := Lib.hid hb6
 clear hb6
 go_wp2_with (first
  | (with_reducible refine wpList_load_at rfl 30 (.tmp 1) rfl Tryz.underlying30 rfl zr rfl (hbx.out.2.below h26.out (Nat.le_refl _)).all ?_))
 refine (reserve_any _ [] wkR w6 (hon.out.below h26.out (Nat.le_refl _)) rfl).mono ?_
 rintro e w7 ⟨n7, er, rfl, hor, hb7⟩
 rcases hor with ⟨rfl, _, hn7⟩ | ⟨_, hb, _⟩
 rotate_left
 · rw [wk_may] at hb; cases hb
 rw [wk_res] at hn7
 subst hn7
 have h27 := Lib.hid (h26.out.trans (hb7.mono h26.out.size))
 have h57 := Lib.hid (h56.out.trans (hb7.mono h56.out.size))
 clear hb7
 have hsm := sameRec_any ⟨kind, lsn, txn, prev, next, iq, im, ic, sq, sn, sc, nextTxn, tq, tn, tc, dq, dn, dc⟩ _ V [] wkR wkR w7 (hon5.out.below h57.out (Nat.le_refl _)) (hon.out.below h27.out (Nat.le_refl _))
 rw [(sameRec_iff wkR wkR).2 rfl] at hsm
 have hsm := Lib.hid hsm
 go_wp2_with (first
  | ((with_reducible refine wpList_load_g ?_ 30 (.tmp 4) rfl Tryz.underlying30 rfl zr2 rfl (hby.out.2.1.below h57.out (Nat.le_refl _)).all ?_); exact rfl)
  | ((with_reducible refine wpList_load_g ?_ 30 (.tmp 1) rfl Tryz.underlying30 rfl zr rfl (hbx.out.2.below h27.out (Nat.le_refl _)).all ?_); exact rfl))
 refine hsm.out.mono ?_
 clear hsm
 rintro e w8 ⟨rfl, hb8⟩
 have h28 := Lib.hid (h27.out.trans (hb8.mono h27.out.size))
 clear hb8
 have hun := undoable_any ⟨4, 5, 7, 4, 1, none, 0, 0, some ⟨w.heap.size, 0, none⟩, 1, 1, 0, none, 0, 0, none, 0, 0⟩ [] wkR w8 (hon.out.below h28.out (Nat.le_refl _))
 rw [show (mayB wkR && (wkR.kind == 2 || wkR.kind == 4)) = true by rw [wk_may]; rfl] at hun
 have hun := Lib.hid hun
 go_wp2_with (first
  | ((with_reducible refine wpList_load_g ?_ 30 (.tmp 1) rfl Tryz.underlying30 rfl zr rfl (hbx.out.2.below h28.out (Nat.le_refl _)).all ?_); exact rfl))
 refine hun.out.mono ?_
 clear hun
 rintro e w9 ⟨rfl, hb9⟩
 have h29 := Lib.hid (h28.out.trans (hb9.mono h28.out.size))
 clear hb9
 have hck := checkRec_any ⟨0, 0, 0, 0, 0, none, 0, 0, none, 0, 0, 0, none, 0, 0, none, 0, 0⟩ [] zRec w9 (zero_on w9)
 rw [show chkRec zRec = 220 by unfold chkRec; rw [z_may]; rfl] at hck
 have hck := Lib.hid hck
 go_wp2_with fail
 refine hck.out.mono ?_
 clear hck
 rintro e w10 ⟨rfl, hb10⟩
 have h30 := Lib.hid (h29.out.trans (hb10.mono h29.out.size))
 clear hb10
 go_wp2
 go_ret
 exact ⟨rfl, hd2.out.trans (h30.out.mono hd2.out.size)⟩
end Go.Proofs.YtocekhckmpkbmaaGreat
