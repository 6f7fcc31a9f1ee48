/- RowTables: for every schema and list of rows the law returns true, and its arguments read as they did. No condition. -/
import Derived.Test.YtcnkelpnoahapaaYSam
namespace Go.Proofs.Ytcnkelpnoahapaa
open Go.ChangeShapes Go.WideShapes Go.ChangeAt Go.RowKit

def underL (l : List RowD) (k : Int) : List RowD := l.filter fun r => decide (r.key.t < k)
theorem rising_tail {a : RowD} {l : List RowD} (h : Rising (a :: l)) : Rising l := fun i x y hx hy => h (i + 1) x y (by simpa using hx) (by simpa using hy)
theorem rising_head {a : RowD} {l : List RowD} (h : Rising (a :: l)) : ∀ b ∈ l, a.key.t ≤ b.key.t := fun b hb => by
  obtain ⟨i, hi⟩ := List.mem_iff_getElem?.1 hb
  have := h.le (i := 0) (j := i + 1) (Nat.zero_le _) (show (a :: l)[0]? = some a from rfl) (by simpa using hi)
  rcases cmpK_cases a.key b.key with ⟨h1, _⟩ | ⟨h1, e⟩ | ⟨h1, _⟩ <;> omega
theorem under_step : ∀ (l : List RowD) (k : Int), Rising l → underL l k ++ ofL l k = underL l (k + 1)
  | [], k, _ => rfl
  | a :: l, k, h => by
    have ih := under_step l k (rising_tail h)
    have hh := rising_head h
    unfold underL ofL at ih ⊢
    by_cases h1 : a.key.t < k
    · have h2 : ¬ a.key.t = k := by omega
      have h3 : a.key.t < k + 1 := by omega
      simp only [List.filter_cons, h1, h2, h3, decide_true, if_true, beq_iff_eq, if_false, List.cons_append]
      rw [ih]
    · have he : l.filter (fun r => decide (r.key.t < k)) = [] := List.filter_eq_nil_iff.2 fun b hb => by have := hh b hb; simp; omega
      rw [he, List.nil_append] at ih
      by_cases h2 : a.key.t = k
      · subst h2
        have d1 : decide (a.key.t < a.key.t) = false := decide_eq_false (Int.lt_irrefl _)
        have d2 : decide (a.key.t < a.key.t + 1) = true := decide_eq_true (by omega)
        have d3 : (a.key.t == a.key.t) = true := beq_self_eq_true _
        rw [List.filter_cons, List.filter_cons, List.filter_cons, d1, d2, d3, he, ih]
        rfl
      · have h3 : ¬ a.key.t < k + 1 := by omega
        simp only [List.filter_cons, h1, h2, h3, decide_false, beq_iff_eq, he, Bool.false_eq_true, if_false, List.nil_append]
        exact ih
theorem under_none {l : List RowD} (h : ∀ r ∈ l, 0 ≤ r.key.t) : underL l 0 = [] := List.filter_eq_nil_iff.2 fun b hb => by have := h b hb; simp; omega
theorem under_all {l : List RowD} {n : Int} (h : ∀ r ∈ l, r.key.t < n) : underL l n = l := List.filter_eq_self.2 fun b hb => by have := h b hb; simp; omega
theorem ok_keys {bs : List BdD} {l : List RowD} (h : okL bs l = true) : ∀ r ∈ l, 0 ≤ r.key.t ∧ r.key.t < bs.length := fun r hr => by
  obtain ⟨i, hi⟩ := List.mem_iff_getElem?.1 hr
  have h0 := (((okL_iff bs l).1 h).2 i r hi).1
  rcases keyE_or bs r.key with ⟨h1, h2, _⟩ | ⟨_, e⟩
  · exact ⟨h1, h2⟩
  · rw [rowE_key (by rw [e]; decide)] at h0; cases h0

structure TabRel (W wr : World) (l : List RowD) (k : Nat) (v : Value) : Prop where
  up : Below W.heap.size W wr
  own : OwnR 38 wr W.heap.size v (underL l k)
theorem underL_len (l : List RowD) (k : Int) : (underL l k).length ≤ l.length := List.length_filter_le _ _
theorem ofL_len2 (l : List RowD) (t : Int) : (ofL l t).length ≤ l.length := List.length_filter_le _ _
theorem underL_ok {l : List RowD} {k : Int} (h : ∀ r ∈ l, RowOk r) : ∀ r ∈ underL l k, RowOk r := fun r hr => h r (List.mem_filter.1 hr).1
theorem TabRel.next {W wr w4 w5 w6 : World} {l : List RowD} {k : Nat} {q0 q' : Option Addr} {n0 c0 m c' : Nat} (h : TabRel W wr l k (.slice q0 n0 c0)) (hris : Rising l) (h4 : Below wr.heap.size wr w4) (h5 : Below w4.heap.size w4 w5)
    (ho : OwnR 38 w6 W.heap.size (.slice q' m c') (underL l k ++ ofL l k)) (hg : w5.grownBy w6 (q0.map (·.block))) : TabRel W w6 l (k + 1) (.slice q' m c') := by
  have hb5 := h4.trans (h5.mono h4.size)
  have h2 := h.up.trans (hb5.mono h.up.size)
  refine ⟨h2.trans (grown_belowN hg h2.size (fun j hj => by
      cases q0 with
      | none => cases hj
      | some a => cases hj; exact (h.own.far a rfl).1)), ?_⟩
  have e := under_step l k hris
  rw [e] at ho
  exact ho

set_option maxRecDepth 100000 in
set_option maxHeartbeats 4000000 in
theorem tables_any (q : Option Addr) (n c : Nat) (bs : List BdD) (lq : Option Addr) (ln lc : Nat) (l : List RowD) (w : World) (h : SchOn w q n c bs) (hr : RowsOn w lq ln lc l) :
    Calls Try.prog 8 #[.agg #[.slice q n c], .slice lq ln lc] w (fun e w' => e = .returned (.bool true) ∧ Below w.heap.size w w') := by
  obtain ⟨W, hW⟩ : ∃ W, w.alloc (.cells #[.slice q n c] 24) = W := ⟨_, rfl⟩
  have hbx := Lib.hid (one_box (xs := [.slice q n c]) hW)
  have hs1 := sizeSch q n c
  have hnm := Nat.le_trans h.le h.cap
  have hsc := Lib.hid (h.below hbx.out.1 (Nat.le_refl _))
  have hrr := Lib.hid (hr.below hbx.out.1 (Nat.le_refl _))
  clear h hr
  go_enter Try.func8, Try.ntmps8
  go_wp2_with fail
  refine (wakes_any _).mono ?_
  rintro e w1 ⟨rfl, hb1⟩
  have hd1 := Lib.hid hb1
  have e1 := Lib.hid (hbx.out.2.1.below hb1 (Nat.le_refl _))
  clear hb1
  go_wp2_with (first
    | (with_reducible refine wpList_load_at rfl 24 (.tmp 2) rfl Try.underlying24 rfl hs1 rfl e1.out.all ?_))
  refine (over_any q n c lq ln lc l w1 hnm (hrr.out.below hd1.out (Nat.le_refl _))).mono ?_
  rintro e w2 ⟨b, rfl, hbd, hb2⟩
  have hbd' := Lib.hid hbd
  have hd2 := Lib.hid (hd1.out.trans (hb2.mono hd1.out.size))
  have e2 := (e1.out.below hb2 (Nat.le_refl _)).cell 0 rfl
  clear hbd hb2 hW
  cases b with
  | true =>
    go_wp2
    go_ret
    exact ⟨rfl, hbx.out.1.trans (hd2.out.mono hbx.out.1.size)⟩
  | false =>
    have hl100 : ln ≤ 100 := (hbd'.out rfl).2
    have hn20 : n ≤ 20 := (hbd'.out rfl).1
    have hck := Lib.hid (checkList_any q n c bs lq ln lc l w2 (hsc.out.below hd2.out (Nat.le_refl _)) (hrr.out.below hd2.out (Nat.le_refl _)))
    obtain ⟨eL, hL⟩ : ∃ x, chkList bs l = x := ⟨_, rfl⟩
    rw [hL] at hck
    have hL' := Lib.hid hL
    clear hL
    by_cases hz : eL = 0
    · subst hz
      have hns := Lib.hid (chkList_zero hL'.out).2
      have hris := Lib.hid (okL_rising hns.out)
      have hkeys := Lib.hid (ok_keys hns.out)
      have hbn := Lib.hid hsc.out.len
      go_wp2_with (go_at_call 13; refine hck.out.mono ?_; rintro e w3 ⟨rfl, hb3⟩; have hd3 := Lib.hid (hd2.out.trans (hb3.mono hd2.out.size)); have e3 := cell_keeps hb3 (Nat.le_refl _) e2; clear hb3)
      have hr0 : Hid (TabRel W w3 l 0 (.slice none 0 0)) := ⟨hd3.out, by rw [show underL l ((0 : Nat) : Int) = [] from under_none fun r hr => (hkeys.out r hr).1]; exact OwnR.nil _ _ _⟩
      clear e3 hck
      go_loopw [5, 24] (fun v5 v24 wr => ∃ (k : Nat) (q0 : Option Addr) (n0 c0 : Nat), k ≤ n ∧ v24 = .int .i64 k ∧ v5 = .slice q0 n0 c0 ∧ Hid (TabRel W wr l k (.slice q0 n0 c0))) (fun _ v24 _ => n - (intOf v24).toNat)
      case atStart => exact ⟨0, none, 0, 0, Nat.zero_le _, rfl, rfl, hr0⟩
      case round =>
        obtain ⟨k, q0, n0, c0, hk, rfl, rfl, hrl⟩ := hrel
        obtain ⟨wo, rfl⟩ : ∃ x, x = wr := ⟨_, rfl⟩
        have hrw := Lib.hid (hrr.out.below hrl.out.up (Nat.le_refl _))
        have hn0 : n0 ≤ 100 := by have h1 := hrl.out.own.len; have h2 := underL_len l k; have h3 := hrr.out.len; omega
        by_cases hlt : k < n
        · have hof := Lib.hid (of_any lq ln lc l k wo hrw.out (by omega))
          go_wp2_with (go_at_call 22; refine hof.out.mono ?_; rintro e w4 ⟨q4, m4, c4, rfl, ho4, hr4, hb4⟩; have hr5 := Lib.hid hr4; have hb5 := Lib.hid hb4; clear ho4 hr4 hb4)
          have hm4 : m4 ≤ 100 := by have h1 := hr5.out.len; have h2 := ofL_len2 l k; have h3 := hrr.out.len; omega
          have hr6 : Hid (Below w4.heap.size w4 w4) := Below.refl _ _
          clear hof
          go_loopw [32] (fun v32 wr => ∃ j : Nat, j ≤ m4 ∧ v32 = .int .i64 j ∧ Hid (Below w4.heap.size w4 wr)) (fun v32 _ => m4 - (intOf v32).toNat)
          case atStart => exact ⟨0, Nat.zero_le _, rfl, hr6⟩
          case round =>
            obtain ⟨j, hj, rfl, hrj⟩ := hrel
            by_cases hlt2 : j < m4
            · obtain ⟨A, ⟨⟨t, id⟩, v, s⟩, hqA, hx, hok, hc⟩ := (hr5.out.below hrj.out (Nat.le_refl _)).at hlt2
              subst hqA
              have hcell : Hid (∀ j' x, ([.int .i64 t, .int .u16 id, .int .i64 v, .string s] : List Value)[j']? = some x → wr.cell? ((A.add (j * 4)).add j') = some x) := hc
              have hs2 := sizeRow t id v s
              have ht : t = k := by have := (List.mem_filter.1 (List.mem_of_getElem? hx)).2; simpa using this
              have hrn := Lib.hid (hrj.out.alloc hrj.out.size (.cells #[.int .i64 t, .int .u16 id, .int .i64 v, .string s] 38))
              subst ht
              clear hx hok hc
              go_wp2_with (first
                | (with_reducible refine wpList_load_at rfl 38 (.tmp 34) rfl Try.underlying38 rfl hs2 rfl hcell.out ?_))
              go_roundw
              case rel => exact ⟨j + 1, by omega, by go_num, hrn⟩
              case measure => simp [intOf]; omega
            · obtain rfl : m4 = j := by omega
              have hown := Lib.hid ((hrl.out.own.below hb5.out).below hrj.out)
              have hsrc := Lib.hid (hr5.out.below hrj.out (Nat.le_refl _))
              have hsz : Hid (W.heap.size ≤ wr.heap.size) := Nat.le_trans hrl.out.up.size (Nat.le_trans hb5.out.size hrj.out.size)
              have h40 : Hid ((n0 + m4) * 40 ≤ 140737488355328) := by show _ ≤ _; omega
              have h41 : Hid (n0 + m4 ≤ 140737488355328) := by show _ ≤ _; omega
              go_wp2_with (first
                | (at_builtin
                   refine wpList_append_r Try.underlying25 infoRow rfl rfl (.tmp 42) (.tmp 43) rfl rfl rfl hown.out hsrc.out h40.out h41.out hsz.out ?_
                   intro q' c' w' h1 h2 h3
                   have hnew := Lib.hid (hrl.out.next hris.out hb5.out hrj.out h1 h2)
                   clear h1 h2 h3))
              go_roundw
              case rel => exact ⟨k + 1, q', n0 + m4, c', by omega, by go_num, rfl, hnew⟩
              case measure => simp [intOf]; omega
        · obtain rfl : n = k := by omega
          have hall : underL l (n : Int) = l := under_all fun r hr => by have := (hkeys.out r hr).2; rw [hbn.out] at this; exact this
          have hown := hrl.out.own
          rw [hall] at hown
          have hrd := Lib.hid (hown.reads hrr.out.ok)
          have hsm := Lib.hid (same_any q0 n0 c0 l lq ln lc l wo hrd.out hrw.out)
          have hst : sameL l l = true := sameL_iff.2 rfl
          rw [hst] at hsm
          clear hall hown hst
          go_wp2_with (go_at_call 24; refine hsm.out.mono ?_; rintro e w9 ⟨rfl, hb9⟩; have hb10 := Lib.hid (hrl.out.up.trans (hb9.mono hrl.out.up.size)); clear hb9)
          go_ret
          exact ⟨rfl, hbx.out.1.trans (hb10.out.mono hbx.out.1.size)⟩
    · go_wp2_with (go_at_call 13; refine hck.out.mono ?_; rintro e w3 ⟨rfl, hb3⟩; have hd3 := Lib.hid (hd2.out.trans (hb3.mono hd2.out.size)); clear hb3)
      go_ret
      exact ⟨rfl, hbx.out.1.trans (hd3.out.mono hbx.out.1.size)⟩

set_option maxRecDepth 1000000 in
theorem tables_lifted (os : Os) (started : os.Started) (H : Type) (enc : TypeId × Value → H) :
    ReturnsInHanded {} Try.checked os 8 .any (Rows.rowTablesSpec.pre6 enc Try.prog Try.f8 Rows.rowTablesRow.domain false) (Rows.rowTablesSpec.post enc Try.prog Try.f8 false true false false) := by
  refine returnsInHanded_of_change (C := Try.checked) own started (by kernel_rfl) Try.func8
    (ChangeSpec.witness6 (enc := enc) (C := Try.checked) false ⟨#[], #[.agg #[.slice none 0 0], .slice none 0 0], []⟩ 8 (by kernel_rfl) (by kernel_rfl) (by kernel_rfl) (by kernel_rfl)) ?_
  intro W base args ds gs before hval0 hW _ _
  have hval : ∀ (j : Nat) t v, Try.f8.params[j]? = some t → args[j]? = some v → Value.okWide Try.prog W .any base t v := hval0
  have hW' := hW
  obtain ⟨p, q, hA0, hV, rfl, _, _⟩ := hW
  have hA : DataW.TrodAll enc Try.prog W 0 (fun _ => true) true Try.f8.params.toList args.toList ds p := hA0
  rw [Try.params8] at hA hval
  obtain ⟨v0, v1, d0, d1, p0, p1, rfl, rfl, rfl, h0, h1⟩ := trodAll_two hA
  obtain ⟨rfl, rfl⟩ := trodVars_none hV
  obtain ⟨q0, n0, c0, bs0, rfl, hs0⟩ := open_sch (hval 0 24 v0 rfl rfl) h0
  obtain ⟨a1, len1, cap1, rfl⟩ := okWide_slice Try.underlying25 (hval 1 25 v1 rfl rfl)
  obtain ⟨l1, hl1⟩ := open_rows h1
  refine (tables_any q0 n0 c0 bs0 a1 len1 cap1 l1 W hs0 hl1).mono fun e W' ⟨he, hb⟩ => ?_
  subst he
  exact ⟨_, rfl, law_post laidOut (of_decide_eq_true (by kernel_rfl)) rfl (by kernel_rfl) Try.underlying4 hW' ⟨rfl, rfl, rfl⟩ hb⟩

set_option maxRecDepth 1000000 in
theorem tables_holds : Rows.RowTablesSaid :=
  OpenClaim.holds_of_wide 8 Try.f8 rfl rfl rfl rfl rfl rfl rfl ⟨rfl, rfl, rfl, rfl, rfl⟩ rfl rfl rfl rfl rfl (by kernel_rfl) Try.func8 (by kernel_rfl)
    (of_decide_eq_true (by kernel_rfl)) (by unfold Func.isWrapper; first | (rw [if_pos (by decide +kernel)]; kernel_rfl) | (rw [if_neg (by decide +kernel)]; exact ⟨rfl, rfl⟩))
    (fun os started H enc _ => tables_lifted os started H enc)
end Go.Proofs.Ytcnkelpnoahapaa
