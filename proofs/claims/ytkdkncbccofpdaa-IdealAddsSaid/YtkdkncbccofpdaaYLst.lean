/- CheckList of row. -/
import Derived.Test.YtkdkncbccofpdaaYCkl
namespace Go.Proofs.Ytkdkncbccofpdaa
open Go.RowKit

def okAt (bs : List BdD) (l : List RowD) (i : Nat) : Prop := ∀ r, l[i]? = some r → rowE bs r = 0 ∧ ∀ j p, i = j + 1 → l[j]? = some p → cmpK p.key r.key < 0
def stepB (bs : List BdD) : List RowD → Bool
  | [] => true
  | a :: l => (rowE bs a == 0) && ((match l with | [] => true | b :: _ => decide (cmpK a.key b.key < 0)) && stepB bs l)
def okL (bs : List BdD) (l : List RowD) : Bool := decide (l.length ≤ 60) && stepB bs l
theorem stepB_iff (bs : List BdD) : ∀ l : List RowD, stepB bs l = true ↔ ∀ i, okAt bs l i
  | [] => by simp [stepB, okAt]
  | [a] => by
    simp only [stepB, Bool.and_true, beq_iff_eq]
    constructor
    · intro h i r hr
      match i, hr with
      | 0, hr => simp at hr; subst hr; exact ⟨h, fun j p hj => by omega⟩
      | i + 1, hr => simp at hr
    · intro h
      exact (h 0 a rfl).1
  | a :: b :: l => by
    have ih := stepB_iff bs (b :: l)
    simp only [stepB, Bool.and_eq_true, beq_iff_eq, decide_eq_true_eq] at ih ⊢
    constructor
    · rintro ⟨h1, h2, h3⟩ i r hr
      match i, hr with
      | 0, hr => simp at hr; subst hr; exact ⟨h1, fun j p hj => by omega⟩
      | i + 1, hr =>
        have hi := ih.1 h3 i r (by simpa using hr)
        refine ⟨hi.1, fun j p hj hp => ?_⟩
        obtain rfl : i = j := by omega
        match i, hp, hr with
        | 0, hp, hr => simp at hp hr; subst hp hr; exact h2
        | i + 1, hp, hr => exact hi.2 i p rfl (by simpa using hp)
    · intro h
      refine ⟨(h 0 a rfl).1, (h 1 b rfl).2 0 a rfl rfl, ih.2 fun i r hr => ?_⟩
      have hi := h (i + 1) r (by simpa using hr)
      refine ⟨hi.1, fun j p hj hp => hi.2 (j + 1) p (by omega) (by simpa using hp)⟩
theorem okL_iff (bs : List BdD) (l : List RowD) : okL bs l = true ↔ l.length ≤ 60 ∧ ∀ i, okAt bs l i := by
  unfold okL
  rw [Bool.and_eq_true, decide_eq_true_eq, stepB_iff]
def chkList (bs : List BdD) (l : List RowD) : Int := if okS bs = true then (if okL bs l = true then 0 else 151) else 150

theorem add0 (a : Addr) : a.add 0 = a := by unfold Addr.add; simp

def LstRel (W wr : World) (bs : List BdD) (l : List RowD) (k : Nat) : Prop := Below W.heap.size W wr ∧ ∀ i, i < k → okAt bs l i

set_option maxRecDepth 100000 in
set_option maxHeartbeats 1000000 in
theorem checkList_any (q : Option Addr) (n c : Nat) (bs : List BdD) (lq : Option Addr) (ln lc : Nat) (l : List RowD) (w : World) (h : SchOn w q n c bs) (hr : RowsOn w lq ln lc l) :
    Calls Try.prog 28 #[.agg #[.slice q n c], .slice lq ln lc] w (fun e w' => e = .returned (.int .i64 (chkList bs l)) ∧ Below w.heap.size w w') := by
  have hll := Lib.hid hr.len
  have hm := Nat.le_trans hr.le hr.cap
  unfold maxLen at hm
  obtain ⟨W, hW⟩ : ∃ W, w.alloc (.cells #[.slice q n c] 24) = W := ⟨_, rfl⟩
  have hbx := Lib.hid (one_box (xs := [.slice q n c]) hW)
  have hs1 := sizeSch q n c
  have e1 := Lib.hid hbx.out.2.1
  have hc1 := Lib.hid (check_any q n c bs W (h.below hbx.out.1 (Nat.le_refl _)))
  have hh := Lib.hid (h.below hbx.out.1 (Nat.le_refl _))
  have hrr := Lib.hid (hr.below hbx.out.1 (Nat.le_refl _))
  clear h hr
  by_cases ho : okS bs = true
  · have hv : chkList bs l = if okL bs l = true then 0 else 151 := if_pos ho
    rw [hv]
    rw [schE_ok ho] at hc1
    clear hv ho
    by_cases h60 : ln ≤ 60
    · have hv0 : Hid ((∀ i, i < ln → okAt bs l i) → (if okL bs l = true then (0 : Int) else 151) = 0) := fun hk => if_pos ((okL_iff bs l).2 ⟨by rw [hll.out]; exact h60, fun i r hr => hk i (by have := (List.getElem?_eq_some_iff.1 hr).1; rw [hll.out] at this; exact this) r hr⟩)
      have hv1 : Hid (∀ i, ¬ okAt bs l i → (if okL bs l = true then (0 : Int) else 151) = 151) := fun i hk => if_neg fun ho => hk (((okL_iff bs l).1 ho).2 i)
      obtain ⟨E, hE⟩ : ∃ E : Int, (if okL bs l = true then (0 : Int) else 151) = E := ⟨_, rfl⟩
      rw [hE] at hv0 hv1 ⊢
      clear hE
      go_enter Try.func28, Try.ntmps28
      go_wp2_with (first
        | (with_reducible refine wpList_load_at rfl 24 (.tmp 2) rfl Try.underlying24 rfl hs1 rfl e1.out.all ?_)
        | (go_at_call 39; refine hc1.out.mono ?_; rintro e w1 ⟨rfl, hb1⟩; have hr0 : Hid (LstRel W w1 bs l 0) := ⟨hb1, fun i hi => by omega⟩; clear hb1))
      clear hW
      go_loopw [18] (fun v18 wr => ∃ k : Nat, k ≤ ln ∧ v18 = .int .i64 k ∧ Hid (LstRel W wr bs l k)) (fun v18 _ => ln - (intOf v18).toNat)
      case atStart => exact ⟨0, Nat.zero_le _, rfl, hr0⟩
      case round =>
        obtain ⟨k, hk, rfl, hrl⟩ := hrel
        by_cases hlt : k < ln
        · obtain ⟨a, ⟨⟨t, id⟩, v, s⟩, rfl, hx, hok, hc⟩ := (hrr.out.below hrl.out.1 (Nat.le_refl _)).at hlt
          have hcell : Hid (∀ j x, ([.int .i64 t, .int .u16 id, .int .i64 v, .string s] : List Value)[j]? = some x → wr.cell? ((a.add (k * 4)).add j) = some x) := hc
          have hsn := Lib.hid hok.note
          have hx' := Lib.hid hx
          have hs2 := sizeRow t id v s
          have hbw := Lib.hid hrl.out.1
          have f1 := Lib.hid ((e1.out.below hbw.out (Nat.le_refl _)).below ((Below.refl _ _).alloc (Nat.le_refl _) (.cells #[.int .i64 t, .int .u16 id, .int .i64 v, .string s] 68)) (Nat.le_refl _))
          have f2 := Lib.hid (Boxed.made (T := 68) wr [.int .i64 t, .int .u16 id, .int .i64 v, .string s])
          obtain ⟨W2, hW2⟩ : ∃ W2, (wr.alloc (.cells #[.int .i64 t, .int .u16 id, .int .i64 v, .string s] 68)).alloc (.cells #[.func (.func 54) #[] #[], .func (.func 55) #[] #[], .func (.func 56) #[] #[]] 102) = W2 := ⟨_, rfl⟩
          have hb2 := Lib.hid (two_boxes (xs := [.int .i64 t, .int .u16 id, .int .i64 v, .string s]) (ys := [fnV 54, fnV 55, fnV 56]) hW2)
          have hmust := Lib.hid (must3_any q n c bs t id v s _ W2 ((hh.out.below hbw.out (Nat.le_refl _)).below hb2.out.1 (Nat.le_refl _)) hsn.out hb2.out.2.2.1)
          clear hx hok hc
          obtain ⟨E2, hE2⟩ : ∃ E2, rowE bs ⟨⟨t, id⟩, v, s⟩ = E2 := ⟨_, rfl⟩
          rw [hE2] at hmust
          by_cases hz : E2 = 0
          · subst hz
            have hE3 := Lib.hid hE2
            clear hE2
            rcases Nat.eq_zero_or_pos k with hk0 | hpos
            · subst hk0
              go_wp2_with (first
                | (with_reducible refine wpList_load_at rfl 68 (.tmp 21) rfl Try.underlying68 rfl hs2 rfl hcell.out ?_)
                | (with_reducible refine wpList_load_at rfl 24 (.tmp 2) rfl Try.underlying24 rfl hs1 rfl f1.out.all ?_)
                | (with_reducible refine wpList_load_at rfl 68 (.tmp 7) rfl Try.underlying68 rfl hs2 rfl f2.out.all ?_)
                | (go_at_call 53; refine hmust.out.mono ?_; rintro e w3 ⟨rfl, hb3⟩; have hb4 := Lib.hid (hbw.out.trans ((hb2.out.1.trans (hb3.mono hb2.out.1.size)).mono hbw.out.size)); have f3 := Lib.hid (hb2.out.2.1.below hb3 (Nat.le_refl _)); have hb5 := Lib.hid (hb2.out.1.trans (hb3.mono hb2.out.1.size)); clear hb3))
              go_quiet (fail)
              go_wp2
              go_roundw
              case rel =>
                refine ⟨1, by omega, by go_num, hb4.out.trans ((below_drewN _ _).mono hb4.out.size), fun i hi r hr => ?_⟩
                obtain rfl : i = 0 := by omega
                rw [hx'.out] at hr
                cases hr
                exact ⟨hE3.out, fun j p hj => by omega⟩
              case measure => simp [intOf]; omega
            · obtain ⟨m, rfl⟩ : ∃ m, k = m + 1 := ⟨k - 1, by omega⟩
              obtain ⟨a', ⟨⟨pt, pid⟩, pv, ps⟩, ha', hy, hok, hc⟩ := (hrr.out.below hrl.out.1 (Nat.le_refl _)).at (show m < ln by omega)
              cases ha'
              have hy' := Lib.hid hy
              have hcy := Lib.hid hc
              clear hy hok hc
              have hpos' : (0 : Int) < (m : Int) + 1 := by omega
              go_wp2_with (first
                | (with_reducible refine wpList_load_at rfl 68 (.tmp 21) rfl Try.underlying68 rfl hs2 rfl hcell.out ?_)
                | (with_reducible refine wpList_load_at rfl 24 (.tmp 2) rfl Try.underlying24 rfl hs1 rfl f1.out.all ?_)
                | (with_reducible refine wpList_load_at rfl 68 (.tmp 7) rfl Try.underlying68 rfl hs2 rfl f2.out.all ?_)
                | (go_at_call 53; refine hmust.out.mono ?_; rintro e w3 ⟨rfl, hb3⟩; have hb4 := Lib.hid (hbw.out.trans ((hb2.out.1.trans (hb3.mono hb2.out.1.size)).mono hbw.out.size)); have f3 := Lib.hid (hb2.out.2.1.below hb3 (Nat.le_refl _)); have hb5 := Lib.hid (hb2.out.1.trans (hb3.mono hb2.out.1.size)); clear hb3))
              have g0 : w3.cell? (a.add (m * 4)) = some (.int .i64 pt) := by have h := cell_keeps hb5.out (Nat.le_refl _) (hcy.out 0 _ rfl); rwa [add0] at h
              have g1 : w3.cell? ⟨(a.add (m * 4)).block, (a.add (m * 4)).off + 1, none⟩ = some (.int .u16 pid) := cell_keeps hb5.out (Nat.le_refl _) (hcy.out 1 _ rfl)
              have g2 := f3.out.cell 0 rfl
              have g3 := f3.out.cell 1 rfl
              have w0 : IntKind.i64.wrap ((m : Int) + 1 - 1) = m := by rw [Int.add_sub_cancel]; exact IntWalk.i64_in (m : Int) (by omega)
              have w1' : IntKind.i64.wrap (m : Int) = m := IntWalk.i64_in (m : Int) (by omega)
              have i0 : (0 : Int) ≤ m := by omega
              have i1 : (m : Int) < ln := by omega
              have hcmp := Lib.hid (fun u => compare_any ⟨pt, pid⟩ ⟨t, id⟩ u)
              obtain ⟨x, hxx⟩ : ∃ x, cmpK ⟨pt, pid⟩ ⟨t, id⟩ = x := ⟨_, rfl⟩
              rw [hxx] at hcmp
              have hx2 := Lib.hid hxx
              clear hxx
              obtain ⟨B3, hB3⟩ : ∃ B, w3.heap.size = B := ⟨_, rfl⟩
              have hB4 := Lib.hid hB3
              clear hB3
              by_cases hlt0 : x < 0
              · have hge : ¬ 0 ≤ x := by omega
                go_region_held3 (fun u => u.cell? (a.add (m * 4)) = some (.int .i64 pt) ∧ u.cell? ⟨(a.add (m * 4)).block, (a.add (m * 4)).off + 1, none⟩ = some (.int .u16 pid) ∧ u.cell? ⟨wr.heap.size, 0, none⟩ = some (.int .i64 t) ∧ u.cell? ⟨wr.heap.size, 1, none⟩ = some (.int .u16 id))
                  (first | go_keep | (go_split_ands; exact ⟨cell_keeps hb6.out (Nat.le_refl _) g0, cell_keeps hb6.out (Nat.le_refl _) g1, cell_keeps hb6.out (Nat.le_refl _) g2, cell_keeps hb6.out (Nat.le_refl _) g3⟩))
                  (first | (go_at_call 57; refine (hcmp.out _).mono ?_; rintro e w6 ⟨rfl, hb6'⟩; have hb6 := Lib.hid hb6'; clear hb6'))
                have hb8 := Lib.hid (hb4.out.trans (((below_drew w3).trans hb6.out).mono hb4.out.size))
                clear w0 w1'
                go_wp2
                go_roundw
                case rel =>
                  refine ⟨m + 1 + 1, by omega, by go_num, hb8.out, fun i hi r hr => ?_⟩
                  rcases Nat.lt_or_ge i (m + 1) with h | h
                  · exact hrl.out.2 i h r hr
                  · obtain rfl : i = m + 1 := by omega
                    rw [hx'.out] at hr
                    cases hr
                    refine ⟨hE3.out, fun j p hj hp => ?_⟩
                    obtain rfl : m = j := by omega
                    rw [hy'.out] at hp
                    cases hp
                    rw [hx2.out]
                    exact hlt0
                case measure => simp [intOf]; omega
              · have hge : 0 ≤ x := by omega
                have hno := Lib.hid (show ¬ okAt bs l (m + 1) from fun hh => by have := (hh _ hx'.out).2 m _ rfl hy'.out; rw [hx2.out] at this; omega)
                go_region_held3 (fun u => u.cell? (a.add (m * 4)) = some (.int .i64 pt) ∧ u.cell? ⟨(a.add (m * 4)).block, (a.add (m * 4)).off + 1, none⟩ = some (.int .u16 pid) ∧ u.cell? ⟨wr.heap.size, 0, none⟩ = some (.int .i64 t) ∧ u.cell? ⟨wr.heap.size, 1, none⟩ = some (.int .u16 id))
                  (first | go_keep | (go_split_ands; exact ⟨cell_keeps hb6.out (Nat.le_refl _) g0, cell_keeps hb6.out (Nat.le_refl _) g1, cell_keeps hb6.out (Nat.le_refl _) g2, cell_keeps hb6.out (Nat.le_refl _) g3⟩))
                  (first | (go_at_call 57; refine (hcmp.out _).mono ?_; rintro e w6 ⟨rfl, hb6'⟩; have hb6 := Lib.hid hb6'; clear hb6'))
                have hb8 := Lib.hid (hb4.out.trans (((below_drew w3).trans hb6.out).mono hb4.out.size))
                clear w0 w1'
                go_wp2
                go_ret
                exact ⟨ret_i (hv1.out _ hno.out).symm, hbx.out.1.trans (hb8.out.mono hbx.out.1.size)⟩
          · have hno := Lib.hid (show ¬ okAt bs l k from fun hh => hz (by rw [← hE2]; exact (hh _ hx'.out).1))
            clear hE2
            go_wp2_with (first
              | (with_reducible refine wpList_load_at rfl 68 (.tmp 21) rfl Try.underlying68 rfl hs2 rfl hcell.out ?_)
              | (with_reducible refine wpList_load_at rfl 24 (.tmp 2) rfl Try.underlying24 rfl hs1 rfl f1.out.all ?_)
              | (with_reducible refine wpList_load_at rfl 68 (.tmp 7) rfl Try.underlying68 rfl hs2 rfl f2.out.all ?_)
              | (go_at_call 53; refine hmust.out.mono ?_; rintro e w3 ⟨rfl, hb3⟩; have hb4 := Lib.hid (hbx.out.1.trans ((hbw.out.trans ((hb2.out.1.trans (hb3.mono hb2.out.1.size)).mono hbw.out.size)).mono hbx.out.1.size)); clear hb3))
            go_ret
            exact ⟨ret_i (hv1.out k hno.out).symm, hb4.out⟩
        · obtain rfl : ln = k := by omega
          go_wp2
          go_ret
          exact ⟨ret_i (hv0.out hrl.out.2).symm, hbx.out.1.trans (hrl.out.1.mono hbx.out.1.size)⟩
    · have hv : ¬ okL bs l = true := fun hk => h60 (by rw [← hll.out]; exact ((okL_iff bs l).1 hk).1)
      rw [if_neg hv]
      clear hv
      go_enter Try.func28, Try.ntmps28
      go_wp2_with (first
        | (with_reducible refine wpList_load_at rfl 24 (.tmp 2) rfl Try.underlying24 rfl hs1 rfl e1.out.all ?_)
        | (go_at_call 39; refine hc1.out.mono ?_; rintro e w1 ⟨rfl, hb1⟩; have hb := Lib.hid (hbx.out.1.trans (hb1.mono hbx.out.1.size)); clear hb1))
      go_ret
      exact ⟨rfl, hb.out⟩
  · have hv : chkList bs l = 150 := if_neg ho
    rw [hv]
    rw [schE_no ho] at hc1
    clear hv ho
    go_enter Try.func28, Try.ntmps28
    go_wp2_with (first
        | (with_reducible refine wpList_load_at rfl 24 (.tmp 2) rfl Try.underlying24 rfl hs1 rfl e1.out.all ?_)
        | (go_at_call 39; refine hc1.out.mono ?_; rintro e w1 ⟨rfl, hb1⟩; have hb := Lib.hid (hbx.out.1.trans (hb1.mono hbx.out.1.size)); clear hb1))
    go_ret
    exact ⟨rfl, hb.out⟩
end Go.Proofs.Ytkdkncbccofpdaa
