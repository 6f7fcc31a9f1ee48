/- RowChanges: for every schema, list of rows and row the law returns true, and its arguments read as they did. No condition. -/
import Derived.Test.YtcnkelpnoahapaaYCm
import Derived.Test.YtcnkelpnoahapaaYRfe
namespace Go.Proofs.Ytcnkelpnoahapaa
open Go.ChangeShapes Go.WideShapes Go.ChangeAt Go.RowKit

theorem eq_row (w : World) (r : RowD) : (binOp .eql 38 (.agg #[.int .i64 r.key.t, .int .u16 r.key.id, .int .i64 r.val, .string r.note]) (.agg #[.int .i64 r.key.t, .int .u16 r.key.id, .int .i64 r.val, .string r.note])).run Try.prog w = .ok (.bool true) w := by
  have h := neq_row w r.key.t r.key.id r.val r.note r.key.t r.key.id r.val r.note
  rw [run_neq_struct] at h
  rw [run_eql_struct]
  rw [eqR_iff.2 rfl] at h
  revert h
  generalize (Op.equalIn 10000 38 _ _).run Try.prog w = x
  intro h
  cases x with
  | ok b w' => cases b <;> simp_all [Result.andThen]
  | _ => simp_all [Result.andThen]
theorem OwnR.empty {T : TypeId} (w : World) : OwnR T (w.alloc (.cells #[] T)) w.heap.size (.slice (some ⟨w.heap.size, 0, none⟩) 0 0) [] :=
  ⟨rfl, .inr ⟨_, 0, #[], rfl, Nat.le_refl _, heap_alloc_new w _, Nat.le_refl _, Nat.zero_le _, rfl, rfl⟩⟩

theorem six {R K z E F : Int} {ln : Nat} (h1 : (R = 0 ∧ z < 0 ∧ ln = 60 ∧ E = 6) ∨ (¬ (R = 0 ∧ z < 0 ∧ ln = 60) ∧ E = R)) (h2 : (K = 0 ∧ z < 0 ∧ F = 4) ∨ (¬ (K = 0 ∧ z < 0) ∧ F = K)) (h3 : K ≠ 0 → R ≠ 0) :
    (K ≠ 0 ∧ R ≠ 0 ∧ E = R ∧ F = K) ∨ (K = 0 ∧ R ≠ 0 ∧ z < 0 ∧ E = R ∧ F = 4) ∨ (K = 0 ∧ R ≠ 0 ∧ ¬ z < 0 ∧ E = R ∧ F = 0) ∨ (K = 0 ∧ R = 0 ∧ z < 0 ∧ ln = 60 ∧ E = 6 ∧ F = 4) ∨ (K = 0 ∧ R = 0 ∧ z < 0 ∧ ln ≠ 60 ∧ E = 0 ∧ F = 4) ∨ (K = 0 ∧ R = 0 ∧ ¬ z < 0 ∧ E = 0 ∧ F = 0) := by
  by_cases a : K = 0 <;> by_cases b : R = 0 <;> by_cases c : z < 0 <;> by_cases d : ln = 60 <;> simp [a, b, c, d] at h1 h2 h3 ⊢ <;> simp_all

set_option maxRecDepth 100000 in
set_option maxHeartbeats 8000000 in
theorem changes_any (q : Option Addr) (n c : Nat) (bs : List BdD) (lq : Option Addr) (ln lc : Nat) (l : List RowD) (t id v : Int) (s : ByteArray) (w : World) (h : SchOn w q n c bs) (hr : RowsOn w lq ln lc l) (hok : RowOk ⟨⟨t, id⟩, v, s⟩) :
    Calls Try.prog 5 #[.agg #[.slice q n c], .slice lq ln lc, .agg #[.int .i64 t, .int .u16 id, .int .i64 v, .string s]] w (fun e w' => e = .returned (.bool true) ∧ Below w.heap.size w w') := by
  obtain ⟨W, hW⟩ : ∃ W, (w.alloc (.cells #[.slice q n c] 24)).alloc (.cells #[.int .i64 t, .int .u16 id, .int .i64 v, .string s] 38) = W := ⟨_, rfl⟩
  have hbx := Lib.hid (two_boxes (xs := [.slice q n c]) (ys := [.int .i64 t, .int .u16 id, .int .i64 v, .string s]) hW)
  have hs1 := sizeSch q n c
  have hs2 := sizeRow t id v s
  have hs3 := sizeKey t id
  have hnm := Nat.le_trans h.le h.cap
  have hsc := Lib.hid (h.below hbx.out.1 (Nat.le_refl _))
  have hrr := Lib.hid (hr.below hbx.out.1 (Nat.le_refl _))
  have hrow := Lib.hid hok
  have hsl := Lib.hid h.len
  have hsz := hok.note
  unfold maxLen at hsz
  clear h hr hok
  go_enter Try.func5, Try.ntmps5
  go_wp2_with fail
  refine (wakes_any _).mono ?_
  rintro e w1 ⟨rfl, hb1⟩
  have hd1 := Lib.hid hb1
  have e1 := Lib.hid (hbx.out.2.1.below hb1 (Nat.le_refl _))
  have f1 := Lib.hid (hbx.out.2.2.1.below hb1 (Nat.le_refl _))
  clear hb1
  go_wp2_with (first
    | (with_reducible refine wpList_load_at rfl 24 (.tmp 3) rfl Try.underlying24 rfl hs1 rfl e1.out.all ?_))
  refine (over_any q n c lq ln lc l w1 hnm (hrr.out.below hd1.out (Nat.le_refl _))).mono ?_
  rintro e w2 ⟨b, rfl, hbd, hb2⟩
  have hbd' := Lib.hid hbd
  have hd2 := Lib.hid (hd1.out.trans (hb2.mono hd1.out.size))
  have e2 := Lib.hid (e1.out.below hb2 (Nat.le_refl _))
  have f2 := Lib.hid (f1.out.below hb2 (Nat.le_refl _))
  have n2 := f2.out.cell 3 rfl
  clear hbd hb2 hW
  cases b with
  | true =>
    clear n2
    go_wp2
    go_ret
    exact ⟨rfl, hbx.out.1.trans (hd2.out.mono hbx.out.1.size)⟩
  | false =>
    have hl100 : ln ≤ 100 := (hbd'.out rfl).2
    by_cases hlong : 100 < s.size
    · go_wp2
      go_ret
      exact ⟨rfl, hbx.out.1.trans (hd2.out.mono hbx.out.1.size)⟩
    · obtain ⟨W3, hW3⟩ : ∃ W3, w2.alloc (.cells #[] 38) = W3 := ⟨_, rfl⟩
      have hb3 : Hid (Below w2.heap.size w2 W3) := by rw [← hW3]; exact (Below.refl _ _).alloc (Nat.le_refl _) _
      have hown : Hid (OwnR 38 W3 w2.heap.size (.slice (some ⟨w2.heap.size, 0, none⟩) 0 0) []) := by rw [← hW3]; exact OwnR.empty w2
      have hr3 := Lib.hid ((hrr.out.below hd2.out (Nat.le_refl _)).below hb3.out (Nat.le_refl _))
      have h40 : Hid ((0 + ln) * 40 ≤ 140737488355328) := by show _ ≤ _; omega
      have h41 : Hid (0 + ln ≤ 140737488355328) := by show _ ≤ _; omega
      have hsz3 := Lib.hid hb3.out.size
      go_wp2_with (first
        | (at_builtin
           refine wpList_append_r Try.underlying25 infoRow rfl rfl (.tmp 27) (.tmp 28) rfl rfl rfl hown.out hr3.out h40.out h41.out hsz3.out ?_
           intro oq oc w4 h1 h2 h3
           rw [Nat.zero_add, List.nil_append] at h1
           have ho4 := Lib.hid h1
           have hb4 : Hid (Below w2.heap.size w2 w4) := hb3.out.trans (grown_belowN h2 hb3.out.size (fun j hj => by cases hj; exact Nat.le_refl _))
           rw [Nat.zero_add]
           clear h1 h2 h3
           have hd4 := Lib.hid (hd2.out.trans (hb4.out.mono hd2.out.size))
           have e4 := Lib.hid (e2.out.below hb4.out (Nat.le_refl _))
           have f4 := Lib.hid (f2.out.below hb4.out (Nat.le_refl _)))
        | (with_reducible refine wpList_load_at rfl 24 (.tmp 3) rfl Try.underlying24 rfl hs1 rfl e4.out.all ?_)
        | (with_reducible refine wpList_load_at rfl 38 (.tmp 5) rfl Try.underlying38 rfl hs2 rfl f4.out.all ?_))
      have ow4 := Lib.hid (ho4.out.reads hr3.out.ok)
      have rl4 := Lib.hid ((hrr.out.below hd2.out (Nat.le_refl _)).below hb4.out (Nat.le_refl _))
      have sc4 := Lib.hid (hsc.out.below hd4.out (Nat.le_refl _))
      refine (put_any q n c bs oq ln oc l t id v s w4 sc4.out ow4.out hrow.out).mono ?_
      rintro e w5 ⟨pq, pm, pc, rfl, hp5, hb5⟩
      obtain ⟨E, hE⟩ : ∃ x, putE bs l ⟨⟨t, id⟩, v, s⟩ = x := ⟨_, rfl⟩
      rw [hE]
      have hE' := Lib.hid hE
      have pp5 := Lib.hid hp5
      have hd5 := Lib.hid hb5
      have e5 := Lib.hid (e4.out.below hb5 (Nat.le_refl _))
      have f5 := Lib.hid (f4.out.below hb5 (Nat.le_refl _))
      have k5 := Lib.hid f5.out.key
      clear hE hp5 hb5
      go_wp2_with (first
        | (with_reducible refine wpList_load_at rfl 24 (.tmp 3) rfl Try.underlying24 rfl hs1 rfl e5.out.all ?_)
        | (with_reducible refine wpList_load_at rfl 28 (.tmp 40) rfl Try.underlying28 rfl hs3 rfl k5.out ?_))
      refine (take_any q n c bs oq ln oc l t id w5 (sc4.out.below hd5.out (Nat.le_refl _)) (ow4.out.below hd5.out (Nat.le_refl _))).mono ?_
      rintro e w6 ⟨tq, tm, tc, rfl, ht6, hb6⟩
      obtain ⟨F, hF⟩ : ∃ x, takeE bs l ⟨t, id⟩ = x := ⟨_, rfl⟩
      obtain ⟨xo, hxo⟩ : ∃ x, takeX bs l ⟨t, id⟩ = x := ⟨_, rfl⟩
      rw [hF, hxo]
      have hF' := Lib.hid hF
      have hxo' := Lib.hid hxo
      have tt6 := Lib.hid ht6
      have hd6 := Lib.hid (hd5.out.trans (hb6.mono hd5.out.size))
      have hd6p := Lib.hid hb6
      clear hF hxo ht6 hb6
      unfold rowV
      obtain ⟨⟨xt, xi⟩, xv, xs⟩ := xo
      obtain ⟨W7, hW7⟩ : ∃ W7, w6.alloc (.cells #[.int .i64 xt, .int .u16 xi, .int .i64 xv, .string xs] 38) = W7 := ⟨_, rfl⟩
      have hb7 := Lib.hid (one_box (xs := [.int .i64 xt, .int .u16 xi, .int .i64 xv, .string xs]) hW7)
      have hd7 := Lib.hid (hd6.out.trans (hb7.out.1.mono hd6.out.size))
      have hsm := Lib.hid (refSame_any oq ln oc l lq ln lc l W7 (ow4.out.below hd7.out (Nat.le_refl _)) (rl4.out.below hd7.out (Nat.le_refl _)))
      rw [show sameL l l = true from sameL_iff.2 rfl] at hsm
      go_wp2_with fail
      clear hW7
      refine hsm.out.mono ?_
      clear hsm
      rintro e w8 ⟨rfl, hb8⟩
      have hu8' := Lib.hid hb8
      have hd8 := Lib.hid (hd7.out.trans (hb8.mono hd7.out.size))
      have x8 := Lib.hid (hb7.out.2.1.below hb8 (Nat.le_refl _))
      have f8 := Lib.hid (f4.out.below hd8.out (Nat.le_refl _))
      have e8 := Lib.hid (e4.out.below hd8.out (Nat.le_refl _))
      have k8 := Lib.hid f8.out.key
      clear hb8
      go_wp2_with (first
        | (with_reducible refine wpList_load_at rfl 28 (.tmp 51) rfl Try.underlying28 rfl hs3 rfl k8.out ?_))
      refine (refFind_any lq ln lc l t id w8 (rl4.out.below hd8.out (Nat.le_refl _)) (by omega)).mono ?_
      rintro e w9 ⟨rfl, hb9⟩
      obtain ⟨z, hz⟩ : ∃ z, findAt l ⟨t, id⟩ = z := ⟨_, rfl⟩
      rw [hz]
      have hz' := Lib.hid hz
      have hd9 := Lib.hid (hd8.out.trans (hb9.mono hd8.out.size))
      have x9 := Lib.hid (x8.out.below hb9 (Nat.le_refl _))
      have f9 := Lib.hid (f8.out.below hb9 (Nat.le_refl _))
      have e9 := Lib.hid (e8.out.below hb9 (Nat.le_refl _))
      have rl9 := Lib.hid (rl4.out.below hd9.out (Nat.le_refl _))
      have hu8 := Lib.hid (hu8'.out.trans (hb9.mono hu8'.out.size))
      have hu89 := Lib.hid (hb7.out.1.trans (hu8.out.mono hb7.out.1.size))
      have tt9 := Lib.hid ((tt6.out.below hb7.out.1 (Nat.le_refl _)).below hu8.out (Nat.le_refl _))
      have hq9 := Lib.hid hb9
      clear hz hb9
      go_wp2_with (first
        | (with_reducible refine wpList_load_at rfl 24 (.tmp 3) rfl Try.underlying24 rfl hs1 rfl e9.out.all ?_))
      have pp9 := Lib.hid (pp5.out.below (hd6p.out.trans (hu89.out.mono hd6p.out.size)) (Nat.le_refl _))
      have sc9 := Lib.hid (sc4.out.below hd9.out (Nat.le_refl _))
      have hc0 := Lib.hid (fun (h : chkList bs l ≠ 0) => (⟨by rw [← hE'.out]; unfold putE; rw [if_neg h], by rw [← hF'.out]; unfold takeE; rw [if_neg h]⟩ : E = chkList bs l ∧ F = chkList bs l))
      refine (right_any q n c bs w9 sc9.out).mono ?_
      rintro e w10 ⟨rfl, hb10⟩
      have hdT := Lib.hid hb10
      have e10 := Lib.hid (e9.out.below hb10 (Nat.le_refl _))
      clear hb10
      by_cases hS : okS bs = true
      · rw [hS]
        have hS' := Lib.hid hS
        clear hS
        go_wp2_with (first
          | (with_reducible refine wpList_load_at rfl 24 (.tmp 3) rfl Try.underlying24 rfl hs1 rfl e10.out.all ?_))
        refine (rightList_any q n c bs lq ln lc l w10 (sc9.out.below hdT.out (Nat.le_refl _)) (rl9.out.below hdT.out (Nat.le_refl _))).mono ?_
        rintro e w11 ⟨rfl, hb11⟩
        have hdT2 := Lib.hid (hdT.out.trans (hb11.mono hdT.out.size))
        have e11 := Lib.hid (e10.out.below hb11 (Nat.le_refl _))
        have f11 := Lib.hid (f9.out.below hdT2.out (Nat.le_refl _))
        have k11 := Lib.hid f11.out.key
        clear hb11 hdT
        have hdT := hdT2
        clear hdT2
        by_cases hL : okL bs l = true
        · rw [hL]
          have hsay := Lib.hid (says_of (r := ⟨⟨t, id⟩, v, s⟩) (chk_zero hS'.out hL))
          clear hL
          rw [hE'.out, show takeE bs l (⟨⟨t, id⟩, v, s⟩ : RowD).key = F from hF'.out, show findAt l (⟨⟨t, id⟩, v, s⟩ : RowD).key = z from hz'.out] at hsay
          have hre := Lib.hid (fun u (hu : Below w11.heap.size w11 u) => rowError_any q n c bs t id v s u ((sc9.out.below hdT.out (Nat.le_refl _)).below hu (Nat.le_refl _)) hrow.out.note)
          have hke := Lib.hid (fun u => keyError_any q n c bs t id u hsl.out)
          have hno := Lib.hid hsay.out.no
          have hnot := Lib.hid hsay.out.not
          have htie := Lib.hid hsay.out.tie
          have hrng := hsay.out.range
          have hlen := rl9.out.len
          obtain ⟨R, hR⟩ : ∃ x, rowE bs ⟨⟨t, id⟩, v, s⟩ = x := ⟨_, rfl⟩
          obtain ⟨K, hK⟩ : ∃ x, keyE bs ⟨t, id⟩ = x := ⟨_, rfl⟩
          have hno2 : (R = 0 ∧ z < 0 ∧ ln = 60 ∧ E = 6) ∨ (¬ (R = 0 ∧ z < 0 ∧ ln = 60) ∧ E = R) := by have h := hno.out; rw [hR, hlen] at h; exact h
          have hnot2 : (K = 0 ∧ z < 0 ∧ F = 4) ∨ (¬ (K = 0 ∧ z < 0) ∧ F = K) := by have h := hnot.out; rw [show keyE bs (⟨⟨t, id⟩, v, s⟩ : RowD).key = K from hK] at h; exact h
          have htie2 : K ≠ 0 → R ≠ 0 := by have h := htie.out; rw [hR, show keyE bs (⟨⟨t, id⟩, v, s⟩ : RowD).key = K from hK] at h; exact h
          rw [hR] at hre
          rw [hK] at hke
          have hK' := Lib.hid hK
          clear hno hnot htie hR hK hlen
          have hput2 := Lib.hid hsay.out.put
          have hall : (K ≠ 0 ∧ R ≠ 0 ∧ E = R ∧ F = K) ∨ (K = 0 ∧ R ≠ 0 ∧ z < 0 ∧ E = R ∧ F = 4) ∨ (K = 0 ∧ R ≠ 0 ∧ ¬ z < 0 ∧ E = R ∧ F = 0) ∨ (K = 0 ∧ R = 0 ∧ z < 0 ∧ ln = 60 ∧ E = 6 ∧ F = 4) ∨ (K = 0 ∧ R = 0 ∧ z < 0 ∧ ln ≠ 60 ∧ E = 0 ∧ F = 4) ∨ (K = 0 ∧ R = 0 ∧ ¬ z < 0 ∧ E = 0 ∧ F = 0) := six hno2 hnot2 htie2
          clear hno2 hnot2 htie2
          rcases hall with ⟨h1, h2, h3, h4⟩ | ⟨h1, h2, h3, h4, h5⟩ | ⟨h1, h2, h3, h4, h5⟩ | ⟨h1, h2, h3, h4, h5, h6⟩ | ⟨h1, h2, h3, h4, h5, h6⟩ | ⟨h1, h2, h3, h4, h5⟩
          · have hK2 : K = 151 := by rw [← hK'.out] at h1 ⊢; exact keyE_ne h1
            subst h3 h4
            subst hK2
            have hEn := Lib.hid h2
            have hFn := Lib.hid h1
            go_wp2_with (first
              | (with_reducible refine wpList_load_at rfl 24 (.tmp 3) rfl Try.underlying24 rfl hs1 rfl e11.out.all ?_)
              | (with_reducible refine wpList_load_at rfl 38 (.tmp 5) rfl Try.underlying38 rfl hs2 rfl f11.out.all ?_)
              | (go_at_call 18; refine (hre.out _ (Below.refl _ _)).mono ?_; rintro e w12 ⟨rfl, hb12⟩; have hb12' := Lib.hid hb12; have e12 := Lib.hid (e11.out.below hb12 (Nat.le_refl _)); have k12 := Lib.hid (f11.out.below hb12 (Nat.le_refl _)).key; clear hb12)
              | (with_reducible refine wpList_load_at rfl 24 (.tmp 3) rfl Try.underlying24 rfl hs1 rfl e12.out.all ?_)
              | (with_reducible refine wpList_load_at rfl 28 (.tmp 69) rfl Try.underlying28 rfl hs3 rfl k12.out ?_))
            refine (hke.out _).mono ?_
            rintro e w13 ⟨rfl, hb13⟩
            have hdT2 := Lib.hid (hdT.out.trans ((hb12'.out.trans (hb13.mono hb12'.out.size)).mono hdT.out.size))
            clear hb13 hdT hke hre
            have hdT := hdT2
            clear hdT2
            have hpm : pm = 0 := by have h := pp5.out.len; rw [put_none hE'.out hEn.out] at h; exact h.symm
            subst hpm
            have hT0 := take_none hF'.out hFn.out
            have htm : tm = 0 := by have h := tt6.out.len; rw [hT0.1] at h; exact h.symm
            subst htm
            have hneq := fun u => neq_row u xt xi xv xs 0 0 0 ⟨#[]⟩
            rw [show eqR ⟨⟨xt, xi⟩, xv, xs⟩ ⟨⟨0, 0⟩, 0, ⟨#[]⟩⟩ = true from eqR_iff.2 (by rw [← hxo'.out, hT0.2]; rfl)] at hneq
            have hEq := hneq
            clear hneq hT0
            have y0 := (x9.out.below hdT.out (Nat.le_refl _)).cell 0 rfl
            have y1 := (x9.out.below hdT.out (Nat.le_refl _)).cell 1 rfl
            have y2 := (x9.out.below hdT.out (Nat.le_refl _)).cell 2 rfl
            have y3 := (x9.out.below hdT.out (Nat.le_refl _)).cell 3 rfl
            have hneq := hEq
            clear hEq
            go_wp2
            clear y0 y1 y2 y3
            go_quiet (fail)
            clear hneq
            go_wp2
            go_ret
            exact ⟨rfl, hbx.out.1.trans ((hd2.out.trans ((hb4.out.trans ((hd9.out.trans ((hdT.out.trans ((below_drewN _ _).mono hdT.out.size)).mono hd9.out.size)).mono hb4.out.size)).mono hd2.out.size)).mono hbx.out.1.size)⟩
          · subst h1 h4 h5
            have hEn := Lib.hid h2
            have hFn : Hid ((4 : Int) ≠ 0) := by show (4 : Int) ≠ 0; decide
            go_wp2_with (first
              | (with_reducible refine wpList_load_at rfl 24 (.tmp 3) rfl Try.underlying24 rfl hs1 rfl e11.out.all ?_)
              | (with_reducible refine wpList_load_at rfl 38 (.tmp 5) rfl Try.underlying38 rfl hs2 rfl f11.out.all ?_)
              | (go_at_call 18; refine (hre.out _ (Below.refl _ _)).mono ?_; rintro e w12 ⟨rfl, hb12⟩; have hb12' := Lib.hid hb12; have e12 := Lib.hid (e11.out.below hb12 (Nat.le_refl _)); have k12 := Lib.hid (f11.out.below hb12 (Nat.le_refl _)).key; clear hb12)
              | (with_reducible refine wpList_load_at rfl 24 (.tmp 3) rfl Try.underlying24 rfl hs1 rfl e12.out.all ?_)
              | (with_reducible refine wpList_load_at rfl 28 (.tmp 69) rfl Try.underlying28 rfl hs3 rfl k12.out ?_))
            refine (hke.out _).mono ?_
            rintro e w13 ⟨rfl, hb13⟩
            have hdT2 := Lib.hid (hdT.out.trans ((hb12'.out.trans (hb13.mono hb12'.out.size)).mono hdT.out.size))
            clear hb13 hdT hke hre
            have hdT := hdT2
            clear hdT2
            have hpm : pm = 0 := by have h := pp5.out.len; rw [put_none hE'.out hEn.out] at h; exact h.symm
            subst hpm
            have hT0 := take_none hF'.out hFn.out
            have htm : tm = 0 := by have h := tt6.out.len; rw [hT0.1] at h; exact h.symm
            subst htm
            have hneq := fun u => neq_row u xt xi xv xs 0 0 0 ⟨#[]⟩
            rw [show eqR ⟨⟨xt, xi⟩, xv, xs⟩ ⟨⟨0, 0⟩, 0, ⟨#[]⟩⟩ = true from eqR_iff.2 (by rw [← hxo'.out, hT0.2]; rfl)] at hneq
            have hEq := hneq
            clear hneq hT0
            have y0 := (x9.out.below hdT.out (Nat.le_refl _)).cell 0 rfl
            have y1 := (x9.out.below hdT.out (Nat.le_refl _)).cell 1 rfl
            have y2 := (x9.out.below hdT.out (Nat.le_refl _)).cell 2 rfl
            have y3 := (x9.out.below hdT.out (Nat.le_refl _)).cell 3 rfl
            have hneq := hEq
            clear hEq
            go_wp2
            clear y0 y1 y2 y3
            go_quiet (fail)
            clear hneq
            go_wp2
            go_ret
            exact ⟨rfl, hbx.out.1.trans ((hd2.out.trans ((hb4.out.trans ((hd9.out.trans ((hdT.out.trans ((below_drewN _ _).mono hdT.out.size)).mono hd9.out.size)).mono hb4.out.size)).mono hd2.out.size)).mono hbx.out.1.size)⟩
          · subst h1 h4 h5
            have hEn := Lib.hid h2
            go_wp2_with (first
              | (with_reducible refine wpList_load_at rfl 24 (.tmp 3) rfl Try.underlying24 rfl hs1 rfl e11.out.all ?_)
              | (with_reducible refine wpList_load_at rfl 38 (.tmp 5) rfl Try.underlying38 rfl hs2 rfl f11.out.all ?_)
              | (go_at_call 18; refine (hre.out _ (Below.refl _ _)).mono ?_; rintro e w12 ⟨rfl, hb12⟩; have hb12' := Lib.hid hb12; have e12 := Lib.hid (e11.out.below hb12 (Nat.le_refl _)); have k12 := Lib.hid (f11.out.below hb12 (Nat.le_refl _)).key; clear hb12)
              | (with_reducible refine wpList_load_at rfl 24 (.tmp 3) rfl Try.underlying24 rfl hs1 rfl e12.out.all ?_)
              | (with_reducible refine wpList_load_at rfl 28 (.tmp 69) rfl Try.underlying28 rfl hs3 rfl k12.out ?_))
            refine (hke.out _).mono ?_
            rintro e w13 ⟨rfl, hb13⟩
            have hdT2 := Lib.hid (hdT.out.trans ((hb12'.out.trans (hb13.mono hb12'.out.size)).mono hdT.out.size))
            clear hb13 hdT hke hre
            have hdT := hdT2
            clear hdT2
            have hpm : pm = 0 := by have h := pp5.out.len; rw [put_none hE'.out hEn.out] at h; exact h.symm
            subst hpm
            go_wp2
            obtain ⟨hto, hz0, hlz⟩ := hsay.out.take rfl
            obtain ⟨Z, rfl⟩ : ∃ Z : Nat, z = Z := ⟨z.toNat, by omega⟩
            have hlz' : l[Z]? = some (⟨⟨xt, xi⟩, xv, xs⟩ : RowD) := by rw [← hxo'.out]; simpa using hlz
            have hZl : Z < ln := by have h := (List.getElem?_eq_some_iff.1 hlz').1; rw [rl9.out.len] at h; exact h
            obtain ⟨A, x2, hqA, hx2, _, hc2⟩ := (rl9.out.below hdT.out (Nat.le_refl _)).at hZl
            subst hqA
            rw [hlz'] at hx2
            cases hx2
            have g0 : w13.cell? (A.add (Z * 4)) = some (.int .i64 xt) := by have h := hc2 0 _ rfl; rwa [add0] at h
            have g1 : w13.cell? ⟨(A.add (Z * 4)).block, (A.add (Z * 4)).off + 1, none⟩ = some (.int .u16 xi) := hc2 1 _ rfl
            have g2 : w13.cell? ⟨(A.add (Z * 4)).block, (A.add (Z * 4)).off + 2, none⟩ = some (.int .i64 xv) := hc2 2 _ rfl
            have g3 : w13.cell? ⟨(A.add (Z * 4)).block, (A.add (Z * 4)).off + 3, none⟩ = some (.string xs) := hc2 3 _ rfl
            have y0 := (x9.out.below hdT.out (Nat.le_refl _)).cell 0 rfl
            have y1 := (x9.out.below hdT.out (Nat.le_refl _)).cell 1 rfl
            have y2 := (x9.out.below hdT.out (Nat.le_refl _)).cell 2 rfl
            have y3 := (x9.out.below hdT.out (Nat.le_refl _)).cell 3 rfl
            have m0 := (f9.out.below hdT.out (Nat.le_refl _)).cell 0 rfl
            have m1 := (f9.out.below hdT.out (Nat.le_refl _)).cell 1 rfl
            have hwo := Lib.hid (fun u (hu : Below w13.heap.size w13 u) => without_any (some A) ln lc l t id u ((rl9.out.below hdT.out (Nat.le_refl _)).below hu (Nat.le_refl _)) (by omega))
            have hsw := Lib.hid (fun u (hu : Below w13.heap.size w13 u) a b c (hh : RowsOn u a b c (outL l ⟨t, id⟩)) => refSame_any tq tm tc (outL l ⟨t, id⟩) a b c (outL l ⟨t, id⟩) u (by have h := (tt9.out.below hdT.out (Nat.le_refl _)).below hu (Nat.le_refl _); rw [show takeL bs l ⟨t, id⟩ = outL l ⟨t, id⟩ from hto] at h; exact h) hh)
            rw [show sameL (outL l ⟨t, id⟩) (outL l ⟨t, id⟩) = true from sameL_iff.2 rfl] at hsw
            have heqr := fun u => eq_row u ⟨⟨xt, xi⟩, xv, xs⟩
            have i0 : (0 : Int) ≤ Z := by omega
            have i1 : (Z : Int) < ln := by omega
            clear hlz hlz' hc2 hto
            go_region_held3 (fun u => u.cell? ⟨w.heap.size + 1, 0, none⟩ = some (.int .i64 t) ∧ u.cell? ⟨w.heap.size + 1, 1, none⟩ = some (.int .u16 id) ∧ u.cell? ⟨w6.heap.size, 0, none⟩ = some (.int .i64 xt) ∧ u.cell? ⟨w6.heap.size, 1, none⟩ = some (.int .u16 xi) ∧ u.cell? ⟨w6.heap.size, 2, none⟩ = some (.int .i64 xv) ∧ u.cell? ⟨w6.heap.size, 3, none⟩ = some (.string xs) ∧ u.cell? (A.add (Z * 4)) = some (.int .i64 xt) ∧ u.cell? ⟨(A.add (Z * 4)).block, (A.add (Z * 4)).off + 1, none⟩ = some (.int .u16 xi) ∧ u.cell? ⟨(A.add (Z * 4)).block, (A.add (Z * 4)).off + 2, none⟩ = some (.int .i64 xv) ∧ u.cell? ⟨(A.add (Z * 4)).block, (A.add (Z * 4)).off + 3, none⟩ = some (.string xs) ∧ Below w13.heap.size w13 u)
              (first | exact ⟨m0, m1, y0, y1, y2, y3, g0, g1, g2, g3, below_drew _⟩ | (go_split_ands; exact ⟨cell_keeps hb6.out (Nat.le_refl _) (by assumption), cell_keeps hb6.out (Nat.le_refl _) (by assumption), cell_keeps hb6.out (Nat.le_refl _) (by assumption), cell_keeps hb6.out (Nat.le_refl _) (by assumption), cell_keeps hb6.out (Nat.le_refl _) (by assumption), cell_keeps hb6.out (Nat.le_refl _) (by assumption), cell_keeps hb6.out (Nat.le_refl _) (by assumption), cell_keeps hb6.out (Nat.le_refl _) (by assumption), cell_keeps hb6.out (Nat.le_refl _) (by assumption), cell_keeps hb6.out (Nat.le_refl _) (by assumption), below_step hb6.out (by assumption)⟩))
              (first
                | (go_at_call 32; refine (hwo.out _ (by go_split_ands; first | assumption | exact below_drew _)).mono ?_; rintro e u1 ⟨q1, n1, c1, rfl, _, hq1, hb6'⟩; have hb6 := Lib.hid hb6'; have hq2 := Lib.hid hq1; clear hb6' hq1)
                | (go_at_call 21; refine (hsw.out _ (by go_split_ands; assumption) _ _ _ hq2.out).mono ?_; rintro e u2 ⟨rfl, hb6'⟩; have hb6 := Lib.hid hb6'; clear hb6'))
            have hv9 : Hid (Below w13.heap.size w13 u2) := by
              show Below _ _ _
              go_split_ands
              assumption
            clear m0 m1 y0 y1 y2 y3 g0 g1 g2 g3 heqr
            go_wp2
            go_ret
            exact ⟨rfl, hbx.out.1.trans ((hd2.out.trans ((hb4.out.trans ((hd9.out.trans ((hdT.out.trans (hv9.out.mono hdT.out.size)).mono hd9.out.size)).mono hb4.out.size)).mono hd2.out.size)).mono hbx.out.1.size)⟩
          · subst h1 h2 h4 h5 h6
            have hEn : Hid ((6 : Int) ≠ 0) := by show (6 : Int) ≠ 0; decide
            have hFn : Hid ((4 : Int) ≠ 0) := by show (4 : Int) ≠ 0; decide
            go_wp2_with (first
              | (with_reducible refine wpList_load_at rfl 24 (.tmp 3) rfl Try.underlying24 rfl hs1 rfl e11.out.all ?_)
              | (with_reducible refine wpList_load_at rfl 38 (.tmp 5) rfl Try.underlying38 rfl hs2 rfl f11.out.all ?_)
              | (go_at_call 18; refine (hre.out _ (Below.refl _ _)).mono ?_; rintro e w12 ⟨rfl, hb12⟩; have hb12' := Lib.hid hb12; have e12 := Lib.hid (e11.out.below hb12 (Nat.le_refl _)); have k12 := Lib.hid (f11.out.below hb12 (Nat.le_refl _)).key; clear hb12)
              | (with_reducible refine wpList_load_at rfl 24 (.tmp 3) rfl Try.underlying24 rfl hs1 rfl e12.out.all ?_)
              | (with_reducible refine wpList_load_at rfl 28 (.tmp 69) rfl Try.underlying28 rfl hs3 rfl k12.out ?_))
            refine (hke.out _).mono ?_
            rintro e w13 ⟨rfl, hb13⟩
            have hdT2 := Lib.hid (hdT.out.trans ((hb12'.out.trans (hb13.mono hb12'.out.size)).mono hdT.out.size))
            clear hb13 hdT hke hre
            have hdT := hdT2
            clear hdT2
            have hpm : pm = 0 := by have h := pp5.out.len; rw [put_none hE'.out hEn.out] at h; exact h.symm
            subst hpm
            have hT0 := take_none hF'.out hFn.out
            have htm : tm = 0 := by have h := tt6.out.len; rw [hT0.1] at h; exact h.symm
            subst htm
            have hneq := fun u => neq_row u xt xi xv xs 0 0 0 ⟨#[]⟩
            rw [show eqR ⟨⟨xt, xi⟩, xv, xs⟩ ⟨⟨0, 0⟩, 0, ⟨#[]⟩⟩ = true from eqR_iff.2 (by rw [← hxo'.out, hT0.2]; rfl)] at hneq
            have hEq := hneq
            clear hneq hT0
            have y0 := (x9.out.below hdT.out (Nat.le_refl _)).cell 0 rfl
            have y1 := (x9.out.below hdT.out (Nat.le_refl _)).cell 1 rfl
            have y2 := (x9.out.below hdT.out (Nat.le_refl _)).cell 2 rfl
            have y3 := (x9.out.below hdT.out (Nat.le_refl _)).cell 3 rfl
            have hneq := hEq
            clear hEq
            go_wp2
            clear y0 y1 y2 y3
            go_quiet (fail)
            clear hneq
            go_wp2
            go_ret
            exact ⟨rfl, hbx.out.1.trans ((hd2.out.trans ((hb4.out.trans ((hd9.out.trans ((hdT.out.trans ((below_drewN _ _).mono hdT.out.size)).mono hd9.out.size)).mono hb4.out.size)).mono hd2.out.size)).mono hbx.out.1.size)⟩
          · subst h1 h2 h5 h6
            have h60 : ¬ (ln : Int) = 60 := by omega
            have hputw := Lib.hid (hput2.out rfl)
            have hFn : Hid ((4 : Int) ≠ 0) := by show (4 : Int) ≠ 0; decide
            go_wp2_with (first
              | (with_reducible refine wpList_load_at rfl 24 (.tmp 3) rfl Try.underlying24 rfl hs1 rfl e11.out.all ?_)
              | (with_reducible refine wpList_load_at rfl 38 (.tmp 5) rfl Try.underlying38 rfl hs2 rfl f11.out.all ?_)
              | (go_at_call 18; refine (hre.out _ (Below.refl _ _)).mono ?_; rintro e w12 ⟨rfl, hb12⟩; have hb12' := Lib.hid hb12; have e12 := Lib.hid (e11.out.below hb12 (Nat.le_refl _)); have k12 := Lib.hid (f11.out.below hb12 (Nat.le_refl _)).key; clear hb12)
              | (with_reducible refine wpList_load_at rfl 24 (.tmp 3) rfl Try.underlying24 rfl hs1 rfl e12.out.all ?_)
              | (with_reducible refine wpList_load_at rfl 28 (.tmp 69) rfl Try.underlying28 rfl hs3 rfl k12.out ?_))
            refine (hke.out _).mono ?_
            rintro e w13 ⟨rfl, hb13⟩
            have hdT2 := Lib.hid (hdT.out.trans ((hb12'.out.trans (hb13.mono hb12'.out.size)).mono hdT.out.size))
            clear hb13 hdT hke hre
            have hdT := hdT2
            clear hdT2
            have hT0 := take_none hF'.out hFn.out
            have htm : tm = 0 := by have h := tt6.out.len; rw [hT0.1] at h; exact h.symm
            subst htm
            have hneq := fun u => neq_row u xt xi xv xs 0 0 0 ⟨#[]⟩
            rw [show eqR ⟨⟨xt, xi⟩, xv, xs⟩ ⟨⟨0, 0⟩, 0, ⟨#[]⟩⟩ = true from eqR_iff.2 (by rw [← hxo'.out, hT0.2]; rfl)] at hneq
            have hEq := hneq
            clear hneq hT0
            have y0 := (x9.out.below hdT.out (Nat.le_refl _)).cell 0 rfl
            have y1 := (x9.out.below hdT.out (Nat.le_refl _)).cell 1 rfl
            have y2 := (x9.out.below hdT.out (Nat.le_refl _)).cell 2 rfl
            have y3 := (x9.out.below hdT.out (Nat.le_refl _)).cell 3 rfl
            have hneq := hEq
            clear hEq
            have m0 := (f9.out.below hdT.out (Nat.le_refl _)).cell 0 rfl
            have m1 := (f9.out.below hdT.out (Nat.le_refl _)).cell 1 rfl
            have m2 := (f9.out.below hdT.out (Nat.le_refl _)).cell 2 rfl
            have m3 := (f9.out.below hdT.out (Nat.le_refl _)).cell 3 rfl
            go_wp2_with fail
            refine (with_any lq ln lc l t id v s _ (rl9.out.below hdT.out (Nat.le_refl _)) (by omega) hrow.out).mono ?_
            rintro e v1 ⟨wq, wm, wc, rfl, _, hw1, hbv⟩
            have hdV := Lib.hid (hdT.out.trans (hbv.mono hdT.out.size))
            have hsmp := Lib.hid (refSame_any pq pm pc (putR bs l ⟨⟨t, id⟩, v, s⟩) wq wm wc (withL l ⟨⟨t, id⟩, v, s⟩) v1 (pp9.out.below hdV.out (Nat.le_refl _)) hw1)
            rw [hputw.out, show sameL (withL l ⟨⟨t, id⟩, v, s⟩) (withL l ⟨⟨t, id⟩, v, s⟩) = true from sameL_iff.2 rfl] at hsmp
            clear hw1 hbv m0 m1 m2 m3
            clear y0 y1 y2 y3
            go_wp2_with fail
            refine hsmp.out.mono ?_
            clear hsmp
            rintro e v2 ⟨rfl, hbv2⟩
            have hdU := Lib.hid (hdV.out.trans (hbv2.mono hdV.out.size))
            clear hbv2
            go_wp2
            go_quiet (fail)
            clear hneq
            go_wp2
            go_ret
            exact ⟨rfl, hbx.out.1.trans ((hd2.out.trans ((hb4.out.trans ((hd9.out.trans ((hdU.out.trans ((below_drewN _ _).mono hdU.out.size)).mono hd9.out.size)).mono hb4.out.size)).mono hd2.out.size)).mono hbx.out.1.size)⟩
          · subst h1 h2 h4 h5
            have hputw := Lib.hid (hput2.out rfl)
            go_wp2_with (first
              | (with_reducible refine wpList_load_at rfl 24 (.tmp 3) rfl Try.underlying24 rfl hs1 rfl e11.out.all ?_)
              | (with_reducible refine wpList_load_at rfl 38 (.tmp 5) rfl Try.underlying38 rfl hs2 rfl f11.out.all ?_)
              | (go_at_call 18; refine (hre.out _ (Below.refl _ _)).mono ?_; rintro e w12 ⟨rfl, hb12⟩; have hb12' := Lib.hid hb12; have e12 := Lib.hid (e11.out.below hb12 (Nat.le_refl _)); have k12 := Lib.hid (f11.out.below hb12 (Nat.le_refl _)).key; clear hb12)
              | (with_reducible refine wpList_load_at rfl 24 (.tmp 3) rfl Try.underlying24 rfl hs1 rfl e12.out.all ?_)
              | (with_reducible refine wpList_load_at rfl 28 (.tmp 69) rfl Try.underlying28 rfl hs3 rfl k12.out ?_))
            refine (hke.out _).mono ?_
            rintro e w13 ⟨rfl, hb13⟩
            have hdT2 := Lib.hid (hdT.out.trans ((hb12'.out.trans (hb13.mono hb12'.out.size)).mono hdT.out.size))
            clear hb13 hdT hke hre
            have hdT := hdT2
            clear hdT2
            have m0 := (f9.out.below hdT.out (Nat.le_refl _)).cell 0 rfl
            have m1 := (f9.out.below hdT.out (Nat.le_refl _)).cell 1 rfl
            have m2 := (f9.out.below hdT.out (Nat.le_refl _)).cell 2 rfl
            have m3 := (f9.out.below hdT.out (Nat.le_refl _)).cell 3 rfl
            go_wp2_with fail
            refine (with_any lq ln lc l t id v s _ (rl9.out.below hdT.out (Nat.le_refl _)) (by omega) hrow.out).mono ?_
            rintro e v1 ⟨wq, wm, wc, rfl, _, hw1, hbv⟩
            have hdV := Lib.hid (hdT.out.trans (hbv.mono hdT.out.size))
            have hsmp := Lib.hid (refSame_any pq pm pc (putR bs l ⟨⟨t, id⟩, v, s⟩) wq wm wc (withL l ⟨⟨t, id⟩, v, s⟩) v1 (pp9.out.below hdV.out (Nat.le_refl _)) hw1)
            rw [hputw.out, show sameL (withL l ⟨⟨t, id⟩, v, s⟩) (withL l ⟨⟨t, id⟩, v, s⟩) = true from sameL_iff.2 rfl] at hsmp
            clear hw1 hbv m0 m1 m2 m3
            go_wp2_with fail
            refine hsmp.out.mono ?_
            clear hsmp
            rintro e v2 ⟨rfl, hbv2⟩
            have hdU := Lib.hid (hdV.out.trans (hbv2.mono hdV.out.size))
            clear hbv2
            go_wp2
            obtain ⟨hto, hz0, hlz⟩ := hsay.out.take rfl
            obtain ⟨Z, rfl⟩ : ∃ Z : Nat, z = Z := ⟨z.toNat, by omega⟩
            have hlz' : l[Z]? = some (⟨⟨xt, xi⟩, xv, xs⟩ : RowD) := by rw [← hxo'.out]; simpa using hlz
            have hZl : Z < ln := by have h := (List.getElem?_eq_some_iff.1 hlz').1; rw [rl9.out.len] at h; exact h
            obtain ⟨A, x2, hqA, hx2, _, hc2⟩ := (rl9.out.below hdU.out (Nat.le_refl _)).at hZl
            subst hqA
            rw [hlz'] at hx2
            cases hx2
            have g0 : v2.cell? (A.add (Z * 4)) = some (.int .i64 xt) := by have h := hc2 0 _ rfl; rwa [add0] at h
            have g1 : v2.cell? ⟨(A.add (Z * 4)).block, (A.add (Z * 4)).off + 1, none⟩ = some (.int .u16 xi) := hc2 1 _ rfl
            have g2 : v2.cell? ⟨(A.add (Z * 4)).block, (A.add (Z * 4)).off + 2, none⟩ = some (.int .i64 xv) := hc2 2 _ rfl
            have g3 : v2.cell? ⟨(A.add (Z * 4)).block, (A.add (Z * 4)).off + 3, none⟩ = some (.string xs) := hc2 3 _ rfl
            have y0 := (x9.out.below hdU.out (Nat.le_refl _)).cell 0 rfl
            have y1 := (x9.out.below hdU.out (Nat.le_refl _)).cell 1 rfl
            have y2 := (x9.out.below hdU.out (Nat.le_refl _)).cell 2 rfl
            have y3 := (x9.out.below hdU.out (Nat.le_refl _)).cell 3 rfl
            have m0 := (f9.out.below hdU.out (Nat.le_refl _)).cell 0 rfl
            have m1 := (f9.out.below hdU.out (Nat.le_refl _)).cell 1 rfl
            have hwo := Lib.hid (fun u (hu : Below v2.heap.size v2 u) => without_any (some A) ln lc l t id u ((rl9.out.below hdU.out (Nat.le_refl _)).below hu (Nat.le_refl _)) (by omega))
            have hsw := Lib.hid (fun u (hu : Below v2.heap.size v2 u) a b c (hh : RowsOn u a b c (outL l ⟨t, id⟩)) => refSame_any tq tm tc (outL l ⟨t, id⟩) a b c (outL l ⟨t, id⟩) u (by have h := (tt9.out.below hdU.out (Nat.le_refl _)).below hu (Nat.le_refl _); rw [show takeL bs l ⟨t, id⟩ = outL l ⟨t, id⟩ from hto] at h; exact h) hh)
            rw [show sameL (outL l ⟨t, id⟩) (outL l ⟨t, id⟩) = true from sameL_iff.2 rfl] at hsw
            have heqr := fun u => eq_row u ⟨⟨xt, xi⟩, xv, xs⟩
            have i0 : (0 : Int) ≤ Z := by omega
            have i1 : (Z : Int) < ln := by omega
            clear hlz hlz' hc2 hto
            go_region_held3 (fun u => u.cell? ⟨w.heap.size + 1, 0, none⟩ = some (.int .i64 t) ∧ u.cell? ⟨w.heap.size + 1, 1, none⟩ = some (.int .u16 id) ∧ u.cell? ⟨w6.heap.size, 0, none⟩ = some (.int .i64 xt) ∧ u.cell? ⟨w6.heap.size, 1, none⟩ = some (.int .u16 xi) ∧ u.cell? ⟨w6.heap.size, 2, none⟩ = some (.int .i64 xv) ∧ u.cell? ⟨w6.heap.size, 3, none⟩ = some (.string xs) ∧ u.cell? (A.add (Z * 4)) = some (.int .i64 xt) ∧ u.cell? ⟨(A.add (Z * 4)).block, (A.add (Z * 4)).off + 1, none⟩ = some (.int .u16 xi) ∧ u.cell? ⟨(A.add (Z * 4)).block, (A.add (Z * 4)).off + 2, none⟩ = some (.int .i64 xv) ∧ u.cell? ⟨(A.add (Z * 4)).block, (A.add (Z * 4)).off + 3, none⟩ = some (.string xs) ∧ Below v2.heap.size v2 u)
              (first | exact ⟨m0, m1, y0, y1, y2, y3, g0, g1, g2, g3, below_drew _⟩ | (go_split_ands; exact ⟨cell_keeps hb6.out (Nat.le_refl _) (by assumption), cell_keeps hb6.out (Nat.le_refl _) (by assumption), cell_keeps hb6.out (Nat.le_refl _) (by assumption), cell_keeps hb6.out (Nat.le_refl _) (by assumption), cell_keeps hb6.out (Nat.le_refl _) (by assumption), cell_keeps hb6.out (Nat.le_refl _) (by assumption), cell_keeps hb6.out (Nat.le_refl _) (by assumption), cell_keeps hb6.out (Nat.le_refl _) (by assumption), cell_keeps hb6.out (Nat.le_refl _) (by assumption), cell_keeps hb6.out (Nat.le_refl _) (by assumption), below_step hb6.out (by assumption)⟩))
              (first
                | (go_at_call 32; refine (hwo.out _ (by go_split_ands; first | assumption | exact below_drew _)).mono ?_; rintro e u1 ⟨q1, n1, c1, rfl, _, hq1, hb6'⟩; have hb6 := Lib.hid hb6'; have hq2 := Lib.hid hq1; clear hb6' hq1)
                | (go_at_call 21; refine (hsw.out _ (by go_split_ands; assumption) _ _ _ hq2.out).mono ?_; rintro e u2 ⟨rfl, hb6'⟩; have hb6 := Lib.hid hb6'; clear hb6'))
            have hv9 : Hid (Below v2.heap.size v2 u2) := by
              show Below _ _ _
              go_split_ands
              assumption
            clear m0 m1 y0 y1 y2 y3 g0 g1 g2 g3 heqr
            go_wp2
            go_ret
            exact ⟨rfl, hbx.out.1.trans ((hd2.out.trans ((hb4.out.trans ((hd9.out.trans ((hdU.out.trans (hv9.out.mono hdU.out.size)).mono hd9.out.size)).mono hb4.out.size)).mono hd2.out.size)).mono hbx.out.1.size)⟩
        · have h151 : chkList bs l = 151 := by unfold chkList; rw [if_pos hS'.out, if_neg hL]
          obtain ⟨rfl, rfl⟩ := hc0.out (by rw [h151]; decide)
          rw [h151] at hE' hF'
          rw [show okL bs l = false by simpa using hL, h151]
          have hEn : Hid ((151 : Int) ≠ 0) := by show (151 : Int) ≠ 0; decide
          have hFn : Hid ((151 : Int) ≠ 0) := by show (151 : Int) ≠ 0; decide
          clear hL h151 hc0
          have hpm : pm = 0 := by have h := pp5.out.len; rw [put_none hE'.out hEn.out] at h; exact h.symm
          subst hpm
          have hT0 := take_none hF'.out hFn.out
          have htm : tm = 0 := by have h := tt6.out.len; rw [hT0.1] at h; exact h.symm
          subst htm
          have hneq := fun u => neq_row u xt xi xv xs 0 0 0 ⟨#[]⟩
          rw [show eqR ⟨⟨xt, xi⟩, xv, xs⟩ ⟨⟨0, 0⟩, 0, ⟨#[]⟩⟩ = true from eqR_iff.2 (by rw [← hxo'.out, hT0.2]; rfl)] at hneq
          have hEq := hneq
          clear hneq hT0
          have y0 := (x9.out.below hdT.out (Nat.le_refl _)).cell 0 rfl
          have y1 := (x9.out.below hdT.out (Nat.le_refl _)).cell 1 rfl
          have y2 := (x9.out.below hdT.out (Nat.le_refl _)).cell 2 rfl
          have y3 := (x9.out.below hdT.out (Nat.le_refl _)).cell 3 rfl
          have hneq := hEq
          clear hEq
          go_wp2
          clear y0 y1 y2 y3
          go_quiet (fail)
          clear hneq
          go_wp2
          go_ret
          exact ⟨rfl, hbx.out.1.trans ((hd2.out.trans ((hb4.out.trans ((hd9.out.trans ((hdT.out.trans ((below_drewN _ _).mono hdT.out.size)).mono hd9.out.size)).mono hb4.out.size)).mono hd2.out.size)).mono hbx.out.1.size)⟩
      · have h150 : chkList bs l = 150 := by unfold chkList; rw [if_neg hS]
        obtain ⟨rfl, rfl⟩ := hc0.out (by rw [h150]; decide)
        rw [h150] at hE' hF'
        rw [show okS bs = false by simpa using hS, h150]
        have hEn : Hid ((150 : Int) ≠ 0) := by show (150 : Int) ≠ 0; decide
        have hFn : Hid ((150 : Int) ≠ 0) := by show (150 : Int) ≠ 0; decide
        clear hS h150 hc0
        have hpm : pm = 0 := by have h := pp5.out.len; rw [put_none hE'.out hEn.out] at h; exact h.symm
        subst hpm
        have hT0 := take_none hF'.out hFn.out
        have htm : tm = 0 := by have h := tt6.out.len; rw [hT0.1] at h; exact h.symm
        subst htm
        have hneq := fun u => neq_row u xt xi xv xs 0 0 0 ⟨#[]⟩
        rw [show eqR ⟨⟨xt, xi⟩, xv, xs⟩ ⟨⟨0, 0⟩, 0, ⟨#[]⟩⟩ = true from eqR_iff.2 (by rw [← hxo'.out, hT0.2]; rfl)] at hneq
        have hEq := hneq
        clear hneq hT0
        have y0 := (x9.out.below hdT.out (Nat.le_refl _)).cell 0 rfl
        have y1 := (x9.out.below hdT.out (Nat.le_refl _)).cell 1 rfl
        have y2 := (x9.out.below hdT.out (Nat.le_refl _)).cell 2 rfl
        have y3 := (x9.out.below hdT.out (Nat.le_refl _)).cell 3 rfl
        have hneq := hEq
        clear hEq
        go_wp2
        clear y0 y1 y2 y3
        go_quiet (fail)
        clear hneq
        go_wp2
        go_ret
        exact ⟨rfl, hbx.out.1.trans ((hd2.out.trans ((hb4.out.trans ((hd9.out.trans ((hdT.out.trans ((below_drewN _ _).mono hdT.out.size)).mono hd9.out.size)).mono hb4.out.size)).mono hd2.out.size)).mono hbx.out.1.size)⟩

set_option maxRecDepth 1000000 in
theorem changes_lifted (os : Os) (started : os.Started) (H : Type) (enc : TypeId × Value → H) :
    ReturnsInHanded {} Try.checked os 5 .any (Rows.rowChangesSpec.pre6 enc Try.prog Try.f5 Rows.rowChangesRow.domain false) (Rows.rowChangesSpec.post enc Try.prog Try.f5 false true false false) := by
  refine returnsInHanded_of_change (C := Try.checked) own started (by kernel_rfl) Try.func5
    (ChangeSpec.witness6 (enc := enc) (C := Try.checked) false ⟨#[], #[.agg #[.slice none 0 0], .slice none 0 0, .agg #[.int .i64 0, .int .u16 0, .int .i64 0, .string ⟨#[]⟩]], []⟩ 8 (by kernel_rfl) (by kernel_rfl) (by kernel_rfl) (by kernel_rfl)) ?_
  intro W base args ds gs before hval0 hW _ _
  have hval : ∀ (j : Nat) t v, Try.f5.params[j]? = some t → args[j]? = some v → Value.okWide Try.prog W .any base t v := hval0
  have hW' := hW
  obtain ⟨p, q, hA0, hV, rfl, _, _⟩ := hW
  have hA : DataW.TrodAll enc Try.prog W 0 (fun _ => true) true Try.f5.params.toList args.toList ds p := hA0
  rw [Try.params5] at hA hval
  obtain ⟨v0, v1, v2, d0, d1, d2, p0, p1, p2, rfl, rfl, rfl, h0, h1, h2⟩ := trodAll_three hA
  obtain ⟨rfl, rfl⟩ := trodVars_none hV
  obtain ⟨q0, n0, c0, bs0, rfl, hs0⟩ := open_sch (hval 0 24 v0 rfl rfl) h0
  obtain ⟨a1, len1, cap1, rfl⟩ := okWide_slice Try.underlying25 (hval 1 25 v1 rfl rfl)
  obtain ⟨l1, hl1⟩ := open_rows h1
  obtain ⟨⟨⟨rt2, ri2⟩, rv2, rs2⟩, rfl, hk2⟩ := open_row (hval 2 38 v2 rfl rfl) h2
  refine (changes_any q0 n0 c0 bs0 a1 len1 cap1 l1 rt2 ri2 rv2 rs2 W hs0 hl1 hk2).mono fun e W' ⟨he, hb⟩ => ?_
  subst he
  exact ⟨_, rfl, law_post laidOut (of_decide_eq_true (by kernel_rfl)) rfl (by kernel_rfl) Try.underlying4 hW' ⟨rfl, rfl, rfl⟩ hb⟩

set_option maxRecDepth 1000000 in
theorem changes_holds : Rows.RowChangesSaid :=
  OpenClaim.holds_of_wide 5 Try.f5 rfl rfl rfl rfl rfl rfl rfl ⟨rfl, rfl, rfl, rfl, rfl⟩ rfl rfl rfl rfl rfl (by kernel_rfl) Try.func5 (by kernel_rfl)
    (of_decide_eq_true (by kernel_rfl)) (by unfold Func.isWrapper; first | (rw [if_pos (by decide +kernel)]; kernel_rfl) | (rw [if_neg (by decide +kernel)]; exact ⟨rfl, rfl⟩))
    (fun os started H enc _ => changes_lifted os started H enc)
end Go.Proofs.Ytcnkelpnoahapaa
