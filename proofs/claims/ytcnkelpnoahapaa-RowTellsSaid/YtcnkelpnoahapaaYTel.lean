/- RowTells: for every schema, list of rows and key the law returns true, and its arguments read as they did. No condition. -/
import Derived.Test.YtcnkelpnoahapaaYRfe
namespace Go.Proofs.Ytcnkelpnoahapaa
open Go.ChangeShapes Go.WideShapes Go.ChangeAt Go.RowKit

set_option maxRecDepth 100000 in
set_option maxHeartbeats 4000000 in
theorem tells_any (q : Option Addr) (n c : Nat) (bs : List BdD) (lq : Option Addr) (ln lc : Nat) (l : List RowD) (kt ki : Int) (w : World) (h : SchOn w q n c bs) (hr : RowsOn w lq ln lc l) (_hk : KeyOk ⟨kt, ki⟩) :
    Calls Try.prog 3 #[.agg #[.slice q n c], .slice lq ln lc, .agg #[.int .i64 kt, .int .u16 ki]] w (fun e w' => e = .returned (.bool true) ∧ Below w.heap.size w w') := by
  obtain ⟨W, hW⟩ : ∃ W, (w.alloc (.cells #[.slice q n c] 24)).alloc (.cells #[.int .i64 kt, .int .u16 ki] 28) = W := ⟨_, rfl⟩
  have hbx := Lib.hid (two_boxes (xs := [.slice q n c]) (ys := [.int .i64 kt, .int .u16 ki]) hW)
  have hs1 := sizeSch q n c
  have hs3 := sizeKey kt ki
  have hnm := Nat.le_trans h.le h.cap
  have hsc := Lib.hid (h.below hbx.out.1 (Nat.le_refl _))
  have hrr := Lib.hid (hr.below hbx.out.1 (Nat.le_refl _))
  have hsl := Lib.hid h.len
  clear h hr
  go_enter Try.func3, Try.ntmps3
  go_wp2_with fail
  refine (wakes_any _).mono ?_
  rintro e w1 ⟨rfl, hb1⟩
  have hd1 := Lib.hid hb1
  have e1 := Lib.hid (hbx.out.2.1.below hb1 (Nat.le_refl _))
  have f1 := Lib.hid (hbx.out.2.2.1.below hb1 (Nat.le_refl _))
  clear hb1
  go_wp2_with (first
    | (with_reducible refine wpList_load_at rfl 24 (.tmp 3) rfl Try.underlying24 rfl hs1 rfl e1.out.all ?_))
  refine (over_any q n c lq ln lc l w1 hnm (hrr.out.below hd1.out (Nat.le_refl _))).mono ?_
  rintro e w2 ⟨b, rfl, hbd, hb2⟩
  have hbd' := Lib.hid hbd
  have hd2 := Lib.hid (hd1.out.trans (hb2.mono hd1.out.size))
  have e2 := Lib.hid (e1.out.below hb2 (Nat.le_refl _))
  have f2 := Lib.hid (f1.out.below hb2 (Nat.le_refl _))
  clear hbd hb2 hW
  cases b with
  | true =>
    go_wp2
    go_ret
    exact ⟨rfl, hbx.out.1.trans (hd2.out.mono hbx.out.1.size)⟩
  | false =>
    have hl100 : ln ≤ 100 := (hbd'.out rfl).2
    go_wp2_with fail
    have c0 := e2.out.cell 0 rfl
    have c1 := f2.out.cell 0 rfl
    have c2 := f2.out.cell 1 rfl
    have hc1 := Lib.hid (fun u (hu : Below w2.heap.size w2 u) => check_any q n c bs u ((hsc.out.below hd2.out (Nat.le_refl _)).below hu (Nat.le_refl _)))
    have hc2 := Lib.hid (fun u (hu : Below w2.heap.size w2 u) => checkKey_any q n c bs kt ki u ((hsc.out.below hd2.out (Nat.le_refl _)).below hu (Nat.le_refl _)))
    have hc3 := Lib.hid (fun u (hu : Below w2.heap.size w2 u) => checkList_any q n c bs lq ln lc l u ((hsc.out.below hd2.out (Nat.le_refl _)).below hu (Nat.le_refl _)) ((hrr.out.below hd2.out (Nat.le_refl _)).below hu (Nat.le_refl _)))
    obtain ⟨x1, hx1⟩ : ∃ x, schE bs = x := ⟨_, rfl⟩
    obtain ⟨x2, hx2⟩ : ∃ x, chkKey bs ⟨kt, ki⟩ = x := ⟨_, rfl⟩
    obtain ⟨x3, hx3⟩ : ∃ x, chkList bs l = x := ⟨_, rfl⟩
    rw [hx1] at hc1
    rw [hx2] at hc2
    rw [hx3] at hc3
    have hy1 := Lib.hid hx1
    have hy2 := Lib.hid hx2
    have hy3 := Lib.hid hx3
    clear hx1 hx2 hx3
    go_region_held3 (fun u => u.cell? ⟨w.heap.size, 0, none⟩ = some (.slice q n c) ∧ u.cell? ⟨w.heap.size + 1, 0, none⟩ = some (.int .i64 kt) ∧ u.cell? ⟨w.heap.size + 1, 1, none⟩ = some (.int .u16 ki) ∧ Below w2.heap.size w2 u)
      (first | exact ⟨c0, c1, c2, below_drew _⟩ | (go_split_ands; exact ⟨cell_keeps hb6.out (Nat.le_refl _) (by assumption), cell_keeps hb6.out (Nat.le_refl _) (by assumption), cell_keeps hb6.out (Nat.le_refl _) (by assumption), below_step hb6.out (by assumption)⟩))
      (first
        | (go_at_call 11; refine (hc1.out _ (by go_split_ands; first | assumption | exact below_drew _)).mono ?_; rintro e x4 ⟨rfl, hb6'⟩; have hb6 := Lib.hid hb6'; clear hb6')
        | (go_at_call 12; refine (hc2.out _ (by go_split_ands; first | assumption | exact below_drew _)).mono ?_; rintro e x4 ⟨rfl, hb6'⟩; have hb6 := Lib.hid hb6'; clear hb6')
        | (go_at_call 13; refine (hc3.out _ (by go_split_ands; first | assumption | exact below_drew _)).mono ?_; rintro e x4 ⟨rfl, hb6'⟩; have hb6 := Lib.hid hb6'; clear hb6'))
    have hv4 : Hid (Below w2.heap.size w2 x4) := by
      show Below _ _ _
      go_split_ands
      assumption
    have hd3 := Lib.hid (hd2.out.trans (hv4.out.mono hd2.out.size))
    have e3 := Lib.hid (e2.out.below hv4.out (Nat.le_refl _))
    have f3 := Lib.hid (f2.out.below hv4.out (Nat.le_refl _))
    clear c0 c1 c2 hc1 hc2 hc3
    by_cases ho : okS bs = true
    · have hrt := Lib.hid (right_any q n c bs x4 (hsc.out.below hd3.out (Nat.le_refl _)))
      rw [ho] at hrt
      have hx1 : x1 = 0 := by rw [← hy1.out]; exact schE_ok ho
      have hx2 : x2 = keyE bs ⟨kt, ki⟩ := by rw [← hy2.out]; exact if_pos ho
      have hx3 : x3 = if okL bs l = true then 0 else 151 := by rw [← hy3.out]; exact if_pos ho
      have ho' := Lib.hid ho
      have hke := Lib.hid (fun u => keyError_any q n c bs kt ki u hsl.out)
      rw [← hx2] at hke
      obtain ⟨b, hb⟩ : ∃ b, okL bs l = b := ⟨_, rfl⟩
      have hrl := Lib.hid (fun u (hu : Below x4.heap.size x4 u) => rightList_any q n c bs lq ln lc l u ((hsc.out.below hd3.out (Nat.le_refl _)).below hu (Nat.le_refl _)) ((hrr.out.below hd3.out (Nat.le_refl _)).below hu (Nat.le_refl _)))
      rw [hb] at hrl hx3
      clear hx2 ho hb
      subst hx1
      have hx3' : x3 = 0 ∧ b = true ∨ x3 = 151 ∧ b = false := by
        cases b with
        | true => exact .inl ⟨by rw [hx3, if_pos rfl], rfl⟩
        | false => exact .inr ⟨by rw [hx3, if_neg (by simp)], rfl⟩
      have hx4 := Lib.hid hx3'
      clear hx3 hx3'
      rcases hx4.out with ⟨hxa, hxb⟩ | ⟨hxa, hxb⟩
      all_goals
        subst hxa
        subst hxb
        clear hx4
        go_wp2_with (first
          | (with_reducible refine wpList_load_at rfl 24 (.tmp 3) rfl Try.underlying24 rfl hs1 rfl e3.out.all ?_))
        refine hrt.out.mono ?_
        clear hrt
        rintro e x5 ⟨rfl, hb5⟩
        have hd4 := Lib.hid hb5
        have e4 := Lib.hid (e3.out.below hb5 (Nat.le_refl _))
        have f4 := Lib.hid (f3.out.below hb5 (Nat.le_refl _))
        have g0 := e4.out.cell 0 rfl
        have g1 := f4.out.cell 0 rfl
        have g2 := f4.out.cell 1 rfl
        clear hb5
        go_wp2_with (first
          | (go_at_call 16; refine (hke.out _).mono ?_; rintro e x6 ⟨rfl, hb6⟩; have hd5 := Lib.hid (hd4.out.trans (hb6.mono hd4.out.size)); have g3 := (e4.out.below hb6 (Nat.le_refl _)).cell 0 rfl; clear hb6))
        refine (hrl.out _ hd5.out).mono ?_
        rintro e x7 ⟨rfl, hb7⟩
        have hd6 := Lib.hid (hd5.out.trans (hb7.mono hd5.out.size))
        have hd7 := Lib.hid (hd3.out.trans (hd6.out.mono hd3.out.size))
        clear hb7 g0 g1 g2 g3
        go_wp2
        have hr0 : Hid (Below W.heap.size W x7) := hd7.out
        go_loopw [72] (fun v72 wr => ∃ k : Nat, k ≤ ln ∧ v72 = .int .i64 k ∧ Hid (Below W.heap.size W wr)) (fun v72 _ => ln - (intOf v72).toNat)
        case atStart => exact ⟨0, Nat.zero_le _, rfl, hr0⟩
        case round =>
          obtain ⟨k, hk, rfl, hrk⟩ := hrel
          by_cases hlt : k < ln
          · obtain ⟨A, ⟨⟨t, id⟩, v, s⟩, hqA, hx, hok, hc⟩ := (hrr.out.below hrk.out (Nat.le_refl _)).at hlt
            subst hqA
            have hcell : Hid (∀ j x, ([.int .i64 t, .int .u16 id, .int .i64 v, .string s] : List Value)[j]? = some x → wr.cell? ((A.add (k * 4)).add j) = some x) := hc
            have hs2 := sizeRow t id v s
            have hsn := Lib.hid hok.note
            obtain ⟨W1, hW1⟩ : ∃ W1, wr.alloc (.cells #[.int .i64 t, .int .u16 id, .int .i64 v, .string s] 38) = W1 := ⟨_, rfl⟩
            have hb8 := Lib.hid (one_box (xs := [.int .i64 t, .int .u16 id, .int .i64 v, .string s]) hW1)
            have u1 := Lib.hid (hrk.out.trans (hb8.out.1.mono hrk.out.size))
            have p0 := (hbx.out.2.1.below u1.out (Nat.le_refl _)).cell 0 rfl
            have p1 := hb8.out.2.1.cell 0 rfl
            have p2 := hb8.out.2.1.cell 1 rfl
            have p3 := hb8.out.2.1.cell 2 rfl
            have p4 := hb8.out.2.1.cell 3 rfl
            have hca := Lib.hid (fun u (hu : Below W1.heap.size W1 u) => checkRow_any q n c bs t id v s u ((hsc.out.below u1.out (Nat.le_refl _)).below hu (Nat.le_refl _)) hsn.out)
            have hcb := Lib.hid (fun u (hu : Below W1.heap.size W1 u) => rowError_any q n c bs t id v s u ((hsc.out.below u1.out (Nat.le_refl _)).below hu (Nat.le_refl _)) hsn.out)
            rw [show chkRow bs ⟨⟨t, id⟩, v, s⟩ = rowE bs ⟨⟨t, id⟩, v, s⟩ from if_pos ho'.out] at hca
            obtain ⟨y, hy⟩ : ∃ y, rowE bs ⟨⟨t, id⟩, v, s⟩ = y := ⟨_, rfl⟩
            rw [hy] at hca hcb
            clear hx hok hc hy
            go_wp2_with (first
              | (with_reducible refine wpList_load_at rfl 38 (.tmp 74) rfl Try.underlying38 rfl hs2 rfl hcell.out ?_))
            clear hW1
            go_region_held3 (fun u => u.cell? ⟨w.heap.size, 0, none⟩ = some (.slice q n c) ∧ u.cell? ⟨wr.heap.size, 0, none⟩ = some (.int .i64 t) ∧ u.cell? ⟨wr.heap.size, 1, none⟩ = some (.int .u16 id) ∧ u.cell? ⟨wr.heap.size, 2, none⟩ = some (.int .i64 v) ∧ u.cell? ⟨wr.heap.size, 3, none⟩ = some (.string s) ∧ Below W1.heap.size W1 u)
              (first | exact ⟨p0, p1, p2, p3, p4, below_drew _⟩ | (go_split_ands; exact ⟨cell_keeps hb6.out (Nat.le_refl _) (by assumption), cell_keeps hb6.out (Nat.le_refl _) (by assumption), cell_keeps hb6.out (Nat.le_refl _) (by assumption), cell_keeps hb6.out (Nat.le_refl _) (by assumption), cell_keeps hb6.out (Nat.le_refl _) (by assumption), below_step hb6.out (by assumption)⟩))
              (first
                | (go_at_call 15; refine (hca.out _ (by go_split_ands; first | assumption | exact below_drew _)).mono ?_; rintro e x9 ⟨rfl, hb6'⟩; have hb6 := Lib.hid hb6'; clear hb6')
                | (go_at_call 18; refine (hcb.out _ (by go_split_ands; first | assumption | exact below_drew _)).mono ?_; rintro e x9 ⟨rfl, hb6'⟩; have hb6 := Lib.hid hb6'; clear hb6'))
            have hv9 : Hid (Below W1.heap.size W1 x9) := by
              show Below _ _ _
              go_split_ands
              assumption
            have hnew := Lib.hid (u1.out.trans (hv9.out.mono u1.out.size))
            clear p0 p1 p2 p3 p4
            go_wp2
            go_roundw
            case rel => exact ⟨k + 1, by omega, by go_num, hnew⟩
            case measure => simp [intOf]; omega
          · obtain rfl : ln = k := by omega
            go_wp2
            go_ret
            exact ⟨rfl, hbx.out.1.trans (hrk.out.mono hbx.out.1.size)⟩
    · have hrt := Lib.hid (right_any q n c bs x4 (hsc.out.below hd3.out (Nat.le_refl _)))
      rw [show okS bs = false by simpa using ho] at hrt
      have hx1 : x1 = 150 := by rw [← hy1.out]; exact schE_no ho
      have hx2 : x2 = 150 := by rw [← hy2.out]; exact if_neg ho
      have hx3 : x3 = 150 := by rw [← hy3.out]; exact if_neg ho
      subst hx1
      subst hx2
      subst hx3
      have hcr := Lib.hid (fun u (hu : Below x4.heap.size x4 u) => checkRow_any q n c bs kt ki 0 ⟨#[]⟩ u ((hsc.out.below hd3.out (Nat.le_refl _)).below hu (Nat.le_refl _)) (by unfold maxLen; decide))
      rw [show chkRow bs ⟨⟨kt, ki⟩, 0, ⟨#[]⟩⟩ = 150 from if_neg ho] at hcr
      clear ho
      go_wp2_with (first
        | (with_reducible refine wpList_load_at rfl 24 (.tmp 3) rfl Try.underlying24 rfl hs1 rfl e3.out.all ?_))
      refine hrt.out.mono ?_
      clear hrt
      rintro e x5 ⟨rfl, hb5⟩
      have hd4 := Lib.hid hb5
      have g0 := (e3.out.below hb5 (Nat.le_refl _)).cell 0 rfl
      have g1 := (f3.out.below hb5 (Nat.le_refl _)).cell 0 rfl
      have g2 := (f3.out.below hb5 (Nat.le_refl _)).cell 1 rfl
      clear hb5
      go_wp2_with (first
        | (go_at_call 15; refine (hcr.out _ hd4.out).mono ?_; rintro e x6 ⟨rfl, hb6⟩; have hd5 := Lib.hid (hd4.out.trans (hb6.mono hd4.out.size)); clear hb6))
      go_ret
      exact ⟨rfl, hbx.out.1.trans ((hd3.out.trans (hd5.out.mono hd3.out.size)).mono hbx.out.1.size)⟩

set_option maxRecDepth 1000000 in
theorem tells_lifted (os : Os) (started : os.Started) (H : Type) (enc : TypeId × Value → H) :
    ReturnsInHanded {} Try.checked os 3 .any (Rows.rowTellsSpec.pre6 enc Try.prog Try.f3 Rows.rowTellsRow.domain false) (Rows.rowTellsSpec.post enc Try.prog Try.f3 false true false false) := by
  refine returnsInHanded_of_change (C := Try.checked) own started (by kernel_rfl) Try.func3
    (ChangeSpec.witness6 (enc := enc) (C := Try.checked) false ⟨#[], #[.agg #[.slice none 0 0], .slice none 0 0, .agg #[.int .i64 0, .int .u16 0]], []⟩ 8 (by kernel_rfl) (by kernel_rfl) (by kernel_rfl) (by kernel_rfl)) ?_
  intro W base args ds gs before hval0 hW _ _
  have hval : ∀ (j : Nat) t v, Try.f3.params[j]? = some t → args[j]? = some v → Value.okWide Try.prog W .any base t v := hval0
  have hW' := hW
  obtain ⟨p, q, hA0, hV, rfl, _, _⟩ := hW
  have hA : DataW.TrodAll enc Try.prog W 0 (fun _ => true) true Try.f3.params.toList args.toList ds p := hA0
  rw [Try.params3] at hA hval
  obtain ⟨v0, v1, v2, d0, d1, d2, p0, p1, p2, rfl, rfl, rfl, h0, h1, h2⟩ := trodAll_three hA
  obtain ⟨rfl, rfl⟩ := trodVars_none hV
  obtain ⟨q0, n0, c0, bs0, rfl, hs0⟩ := open_sch (hval 0 24 v0 rfl rfl) h0
  obtain ⟨a1, len1, cap1, rfl⟩ := okWide_slice Try.underlying25 (hval 1 25 v1 rfl rfl)
  obtain ⟨l1, hl1⟩ := open_rows h1
  obtain ⟨⟨kt2, ki2⟩, rfl, hk2⟩ := open_key (hval 2 28 v2 rfl rfl) h2
  refine (tells_any q0 n0 c0 bs0 a1 len1 cap1 l1 kt2 ki2 W hs0 hl1 hk2).mono fun e W' ⟨he, hb⟩ => ?_
  subst he
  exact ⟨_, rfl, law_post laidOut (of_decide_eq_true (by kernel_rfl)) rfl (by kernel_rfl) Try.underlying4 hW' ⟨rfl, rfl, rfl⟩ hb⟩

set_option maxRecDepth 1000000 in
theorem tells_holds : Rows.RowTellsSaid :=
  OpenClaim.holds_of_wide 3 Try.f3 rfl rfl rfl rfl rfl rfl rfl ⟨rfl, rfl, rfl, rfl, rfl⟩ rfl rfl rfl rfl rfl (by kernel_rfl) Try.func3 (by kernel_rfl)
    (of_decide_eq_true (by kernel_rfl)) (by unfold Func.isWrapper; first | (rw [if_pos (by decide +kernel)]; kernel_rfl) | (rw [if_neg (by decide +kernel)]; exact ⟨rfl, rfl⟩))
    (fun os started H enc _ => tells_lifted os started H enc)
end Go.Proofs.Ytcnkelpnoahapaa
