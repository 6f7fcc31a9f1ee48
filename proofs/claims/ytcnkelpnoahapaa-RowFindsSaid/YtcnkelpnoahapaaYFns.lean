/- RowFinds: for every two lists of rows and key the law returns true, and its arguments read as they did. No condition. -/
import Derived.Test.YtcnkelpnoahapaaYFin
import Derived.Test.YtcnkelpnoahapaaYPlu
import Derived.Test.YtcnkelpnoahapaaYTak
namespace Go.Proofs.Ytcnkelpnoahapaa
open Go.ChangeShapes Go.WideShapes Go.ChangeAt Go.RowKit

theorem sameL_self (l : List RowD) : sameL l l = true := sameL_iff.2 rfl
theorem refSame_self (q1 : Option Addr) (n1 c1 : Nat) (q2 : Option Addr) (n2 c2 : Nat) (l : List RowD) (w : World) (h1 : RowsOn w q1 n1 c1 l) (h2 : RowsOn w q2 n2 c2 l) :
    Calls Try.prog 21 #[.slice q1 n1 c1, .slice q2 n2 c2] w (fun e w' => e = .returned (.bool true) ∧ Below w.heap.size w w') := by
  have h := refSame_any q1 n1 c1 l q2 n2 c2 l w h1 h2
  rw [sameL_self] at h
  exact h
theorem same_self (q1 : Option Addr) (n1 c1 : Nat) (l : List RowD) (w : World) (h1 : RowsOn w q1 n1 c1 l) :
    Calls Try.prog 24 #[.slice q1 n1 c1, .slice q1 n1 c1] w (fun e w' => e = .returned (.bool true) ∧ Below w.heap.size w w') := by
  have h := same_any q1 n1 c1 l q1 n1 c1 l w h1 h1
  rw [sameL_self] at h
  exact h

set_option maxRecDepth 100000 in
set_option maxHeartbeats 8000000 in
theorem finds_any (lq : Option Addr) (ln lc : Nat) (l : List RowD) (mq : Option Addr) (mn mc : Nat) (m : List RowD) (kt ki : Int) (w : World) (hr : RowsOn w lq ln lc l) (hr2 : RowsOn w mq mn mc m) (hk : KeyOk ⟨kt, ki⟩) :
    Calls Try.prog 4 #[.slice lq ln lc, .slice mq mn mc, .agg #[.int .i64 kt, .int .u16 ki]] w (fun e w' => e = .returned (.bool true) ∧ Below w.heap.size w w') := by
  obtain ⟨W, hW⟩ : ∃ W, w.alloc (.cells #[.int .i64 kt, .int .u16 ki] 28) = W := ⟨_, rfl⟩
  have hbx := Lib.hid (one_box (xs := [.int .i64 kt, .int .u16 ki]) hW)
  have hs3 := sizeKey kt ki
  have hki : 0 ≤ ki ∧ ki < 65536 := hk.id
  obtain ⟨hk0, hk1⟩ := hki
  have hrr := Lib.hid (hr.below hbx.out.1 (Nat.le_refl _))
  have hmm := Lib.hid (hr2.below hbx.out.1 (Nat.le_refl _))
  clear hr hr2 hk
  go_enter Try.func4, Try.ntmps4
  go_wp2_with fail
  refine (wakes_any _).mono ?_
  rintro e w1 ⟨rfl, hb1⟩
  have hd1 := Lib.hid hb1
  clear hb1 hW
  go_wp2_with fail
  refine (over_any none 0 0 lq ln lc l w1 (by unfold maxLen; decide) (hrr.out.below hd1.out (Nat.le_refl _))).mono ?_
  rintro e w2 ⟨b, rfl, hbd, hb2⟩
  have hbd' := Lib.hid hbd
  have hd2 := Lib.hid (hd1.out.trans (hb2.mono hd1.out.size))
  clear hbd hb2
  cases b with
  | true =>
    go_wp2
    go_ret
    exact ⟨rfl, hbx.out.1.trans (hd2.out.mono hbx.out.1.size)⟩
  | false =>
    have hl100 : ln ≤ 100 := (hbd'.out rfl).2
    go_wp2_with fail
    refine (over_any none 0 0 mq mn mc m w2 (by unfold maxLen; decide) (hmm.out.below hd2.out (Nat.le_refl _))).mono ?_
    rintro e w3 ⟨b, rfl, hbd2, hb3⟩
    have hbd2' := Lib.hid hbd2
    have hd3 := Lib.hid (hd2.out.trans (hb3.mono hd2.out.size))
    clear hbd2 hb3
    cases b with
    | true =>
      go_wp2
      go_ret
      exact ⟨rfl, hbx.out.1.trans (hd3.out.mono hbx.out.1.size)⟩
    | false =>
      have hm100 : mn ≤ 100 := (hbd2'.out rfl).2
      have e3 := Lib.hid (hbx.out.2.1.below hd3.out (Nat.le_refl _))
      have hfa := Lib.hid (find_any lq ln lc l kt ki w3 (hrr.out.below hd3.out (Nat.le_refl _)) (by omega))
      have hfb := Lib.hid (fun u (hu : Below w3.heap.size w3 u) => refFind_any lq ln lc l kt ki u ((hrr.out.below hd3.out (Nat.le_refl _)).below hu (Nat.le_refl _)) (by omega))
      have hor := findAt_or l ⟨kt, ki⟩
      obtain ⟨z, hz⟩ : ∃ z, findAt l ⟨kt, ki⟩ = z := ⟨_, rfl⟩
      rw [hz] at hfb hor
      have hzr : Hid (z < 1000000) := by
        show z < 1000000
        rw [← hz]; unfold findAt findK
        split
        next i hi =>
          have := (List.findIdx?_eq_some_iff_getElem.1 hi).1
          have hl := hrr.out.len
          omega
        next => decide
      clear hz
      have hor' : (0 ≤ z ∧ findB l ⟨kt, ki⟩ = true ∧ findN l ⟨kt, ki⟩ = z) ∨ (z = -1 ∧ findB l ⟨kt, ki⟩ = false ∧ findN l ⟨kt, ki⟩ = 0) := hor
      clear hor
      have hof1 := Lib.hid (fun u (hu : Below w3.heap.size w3 u) => of_any lq ln lc l kt u ((hrr.out.below hd3.out (Nat.le_refl _)).below hu (Nat.le_refl _)) (by omega))
      have hof2 := Lib.hid (fun u (hu : Below w3.heap.size w3 u) => refOf_any lq ln lc l kt u ((hrr.out.below hd3.out (Nat.le_refl _)).below hu (Nat.le_refl _)) (by omega))
      have hsa := Lib.hid (fun u (hu : Below w3.heap.size w3 u) => same_any lq ln lc l mq mn mc m u ((hrr.out.below hd3.out (Nat.le_refl _)).below hu (Nat.le_refl _)) ((hmm.out.below hd3.out (Nat.le_refl _)).below hu (Nat.le_refl _)))
      have hsb := Lib.hid (fun u (hu : Below w3.heap.size w3 u) => refSame_any lq ln lc l mq mn mc m u ((hrr.out.below hd3.out (Nat.le_refl _)).below hu (Nat.le_refl _)) ((hmm.out.below hd3.out (Nat.le_refl _)).below hu (Nat.le_refl _)))
      have hss := Lib.hid (fun u (hu : Below w3.heap.size w3 u) => same_self lq ln lc l u ((hrr.out.below hd3.out (Nat.le_refl _)).below hu (Nat.le_refl _)))
      obtain ⟨E, hE⟩ : ∃ E, sameL l m = E := ⟨_, rfl⟩
      rw [hE] at hsa hsb
      clear hE
      have hw1 : IntKind.i64.wrap ki = ki := IntWalk.i64_in _ (by omega)
      have hw2 : IntKind.i64.wrap (ki - 500) = ki - 500 := IntWalk.i64_in _ (by omega)
      rcases hor' with ⟨hz0, hfB, hfN⟩ | ⟨hzm, hfB, hfN⟩
      all_goals
        rw [hfB, hfN] at hfa
        clear hfB hfN
        try (have hzz : ¬ z < 0 := by omega)
        try (have hzn : z < 0 := by omega)
        try (have hzd : decide (0 ≤ z) = false := by rw [decide_eq_false_iff_not]; omega)
        try (have hmx : max z 0 = z := by omega)
        try (have hmy : max z 0 = 0 := by omega)
        try clear hzm
        go_wp2_with (first
          | (with_reducible refine wpList_load_at rfl 28 (.tmp 5) rfl Try.underlying28 rfl hs3 rfl e3.out.all ?_)
          | (go_at_call 19; refine hfa.out.mono ?_; rintro e w4 ⟨rfl, hb4⟩; have hd4 := Lib.hid hb4; have e4 := Lib.hid (e3.out.below hb4 (Nat.le_refl _)); clear hb4)
          | (with_reducible refine wpList_load_at rfl 28 (.tmp 5) rfl Try.underlying28 rfl hs3 rfl e4.out.all ?_)
          | (go_at_call 20; refine (hfb.out _ hd4.out).mono ?_; rintro e w5 ⟨rfl, hb5⟩; have hd5 := Lib.hid (hd4.out.trans (hb5.mono hd4.out.size)); have e5 := Lib.hid (e4.out.below hb5 (Nat.le_refl _)); clear hb5))
        have g0 := e5.out.cell 0 rfl
        go_region_held3 (fun u => u.cell? ⟨w.heap.size, 0, none⟩ = some (.int .i64 kt) ∧ Below w3.heap.size w3 u)
          (first | exact ⟨g0, hd5.out.trans (Below.mono (below_drew _) hd5.out.size)⟩ | (go_split_ands; exact ⟨cell_keeps hb6.out (Nat.le_refl _) (by assumption), below_step hb6.out (by assumption)⟩))
          (first
            | (go_at_call 22; refine (hof1.out _ (by go_split_ands; assumption)).mono ?_; rintro e x4 ⟨q1, m1, k1, rfl, _, hA', hb6'⟩; have hb6 := Lib.hid hb6'; have hA := Lib.hid hA'; clear hb6' hA')
            | (go_at_call 23; refine (hof2.out _ (by go_split_ands; assumption)).mono ?_; rintro e x5 ⟨q2, m2, k2, rfl, _, hB', hb6'⟩; have hb6 := Lib.hid hb6'; have hB := Lib.hid hB'; have hA2 := Lib.hid (hA.out.below hb6' (Nat.le_refl _)); clear hb6' hB')
            | (go_at_call 21; (with_reducible refine (refSame_self _ _ _ _ _ _ _ _ hA2.out hB.out).mono ?_); rintro e x6 ⟨rfl, hb6'⟩; have hb6 := Lib.hid hb6'; clear hb6')
            | (go_at_call 21; refine (hsb.out _ (by go_split_ands; assumption)).mono ?_; rintro e x7 ⟨rfl, hb6'⟩; have hb6 := Lib.hid hb6'; clear hb6')
            | (go_at_call 24; (with_reducible refine (same_self _ _ _ l _ ?_).mono ?_); (· exact ((hrr.out.below hd3.out (Nat.le_refl _)).below (by go_split_ands; assumption) (Nat.le_refl _))); rintro e x9 ⟨rfl, hb6'⟩; have hb6 := Lib.hid hb6'; clear hb6')
            | (go_at_call 24; refine (hsa.out _ (by go_split_ands; assumption)).mono ?_; rintro e x8 ⟨rfl, hb6'⟩; have hb6 := Lib.hid hb6'; clear hb6'))
        have hd9 : Hid (Below w3.heap.size w3 x9) := by
          show Below _ _ _
          go_split_ands
          assumption
        have hr0 : Hid (Below W.heap.size W x9) := hd3.out.trans (hd9.out.mono hd3.out.size)
        clear g0 hof1 hof2 hsa hsb hss hfa hfb
        go_wp2
        go_loopw [80] (fun v80 wr => ∃ k : Nat, k ≤ ln ∧ v80 = .int .i64 k ∧ Hid (Below W.heap.size W wr)) (fun v80 _ => ln - (intOf v80).toNat)
        case atStart => exact ⟨0, Nat.zero_le _, rfl, hr0⟩
        case round =>
          obtain ⟨k, hk, rfl, hrk⟩ := hrel
          obtain ⟨wo, rfl⟩ : ∃ x, x = wr := ⟨_, rfl⟩
          by_cases hlt : k < ln
          · obtain ⟨A, ⟨⟨rt, ri⟩, rv, rs⟩, hqA, hx, hok, hc⟩ := (hrr.out.below hrk.out (Nat.le_refl _)).at hlt
            subst hqA
            have hcA : Hid (∀ j x, ([.int .i64 rt, .int .u16 ri, .int .i64 rv, .string rs] : List Value)[j]? = some x → wo.cell? ((A.add (k * 4)).add j) = some x) := hc
            have hsA := sizeRow rt ri rv rs
            have hrv : I64 rv := hok.val
            unfold I64 at hrv
            have hrv' : Hid (-9223372036854775808 ≤ rv ∧ rv ≤ 9223372036854775807) := by show _ ∧ _; omega
            obtain ⟨WA, hWA⟩ : ∃ W, wo.alloc (.cells #[.int .i64 rt, .int .u16 ri, .int .i64 rv, .string rs] 38) = W := ⟨_, rfl⟩
            have hbA := Lib.hid (one_box (xs := [.int .i64 rt, .int .u16 ri, .int .i64 rv, .string rs]) hWA)
            have hwA := Lib.hid (hrk.out.trans (hbA.out.1.mono hrk.out.size))
            have hkb := Lib.hid (hbx.out.2.1.below hwA.out (Nat.le_refl _))
            have p1 := hkb.out.cell 1 rfl
            have p2 := hbA.out.2.1.cell 2 rfl
            have hpa := Lib.hid (fun u => plus_any rv (ki - 500) u hrv'.out ⟨by omega, by omega⟩)
            have hpb := Lib.hid (fun u => refPlus_any rv (ki - 500) u hrv'.out ⟨by omega, by omega⟩)
            obtain ⟨z1, hz1⟩ : ∃ x, plusN rv (ki - 500) = x := ⟨_, rfl⟩
            obtain ⟨f1, hf1⟩ : ∃ x, fits rv (ki - 500) = x := ⟨_, rfl⟩
            rw [hz1, hf1] at hpa hpb
            clear hx hok hc hrv hz1 hf1
            go_wp2_with (first
              | (with_reducible refine wpList_load_at rfl 38 (.tmp 82) rfl Try.underlying38 rfl hsA rfl hcA.out ?_)
              | (go_at_call 25; refine (hpa.out _).mono ?_; rintro e y1 ⟨rfl, hb4⟩; have hy1 := Lib.hid hb4; have r1 := cell_keeps hb4 (Nat.le_refl _) p1; have r2 := cell_keeps hb4 (Nat.le_refl _) p2; clear hb4)
              | (go_at_call 26; refine (hpb.out _).mono ?_; rintro e y2 ⟨rfl, hb4⟩; have hy2 := Lib.hid (hy1.out.trans (hb4.mono hy1.out.size)); clear hb4))
            clear hWA p1 p2 r1 r2
            have c0 := (hkb.out.below hy2.out (Nat.le_refl _)).cell 0 rfl
            have c1 := (hkb.out.below hy2.out (Nat.le_refl _)).cell 1 rfl
            have c2 := (hbA.out.2.1.below hy2.out (Nat.le_refl _)).cell 0 rfl
            have c3 := (hbA.out.2.1.below hy2.out (Nat.le_refl _)).cell 1 rfl
            have hca := Lib.hid (fun u => compare_any ⟨rt, ri⟩ ⟨kt, ki⟩ u)
            have hcb := Lib.hid (fun u => refCompare_any rt ri kt ki u)
            obtain ⟨c, hcc⟩ : ∃ x, cmpK ⟨rt, ri⟩ ⟨kt, ki⟩ = x := ⟨_, rfl⟩
            rw [hcc] at hca hcb
            clear hcc
            go_region_held3 (fun u => u.cell? ⟨w.heap.size, 0, none⟩ = some (.int .i64 kt) ∧ u.cell? ⟨w.heap.size, 1, none⟩ = some (.int .u16 ki) ∧ u.cell? ⟨wo.heap.size, 0, none⟩ = some (.int .i64 rt) ∧ u.cell? ⟨wo.heap.size, 1, none⟩ = some (.int .u16 ri) ∧ Below y2.heap.size y2 u)
              (first | exact ⟨c0, c1, c2, c3, below_drew _⟩ | (go_split_ands; exact ⟨cell_keeps hb6.out (Nat.le_refl _) (by assumption), cell_keeps hb6.out (Nat.le_refl _) (by assumption), cell_keeps hb6.out (Nat.le_refl _) (by assumption), cell_keeps hb6.out (Nat.le_refl _) (by assumption), below_step hb6.out (by assumption)⟩))
              (first
                | (go_at_call 27; (with_reducible refine (hca.out _).mono ?_); rintro e y3 ⟨rfl, hb6'⟩; have hb6 := Lib.hid hb6'; clear hb6')
                | (go_at_call 28; (with_reducible refine (hcb.out _).mono ?_); rintro e y4 ⟨rfl, hb6'⟩; have hb6 := Lib.hid hb6'; clear hb6'))
            have hv4 : Hid (Below y2.heap.size y2 y4) := by
              show Below _ _ _
              go_split_ands
              assumption
            have hv5 := Lib.hid (hy2.out.trans (hv4.out.mono hy2.out.size))
            clear c0 c1 c2 c3 hca hcb hpa hpb
            go_wp2
            have hrB : Hid (Below WA.heap.size WA y4) := hv5.out
            go_loopw [125] (fun v125 wr2 => ∃ p : Nat, p ≤ mn ∧ v125 = .int .i64 p ∧ Hid (Below WA.heap.size WA wr2)) (fun v125 _ => mn - (intOf v125).toNat)
            case atStart => exact ⟨0, Nat.zero_le _, rfl, hrB⟩
            case round =>
              obtain ⟨p, hp, rfl, hrp⟩ := hrel
              obtain ⟨wi, rfl⟩ : ∃ x, x = wr := ⟨_, rfl⟩
              have hwI := Lib.hid (hwA.out.trans (hrp.out.mono hwA.out.size))
              by_cases hlt2 : p < mn
              · obtain ⟨B, ⟨⟨xt, xi⟩, xv, xs⟩, hqB, hx, hok, hc⟩ := (hmm.out.below hwI.out (Nat.le_refl _)).at hlt2
                subst hqB
                have hcB : Hid (∀ j x, ([.int .i64 xt, .int .u16 xi, .int .i64 xv, .string xs] : List Value)[j]? = some x → wi.cell? ((B.add (p * 4)).add j) = some x) := hc
                have hsB := sizeRow xt xi xv xs
                have hxv : I64 xv := hok.val
                unfold I64 at hxv
                obtain ⟨WB, hWB⟩ : ∃ W, wi.alloc (.cells #[.int .i64 xt, .int .u16 xi, .int .i64 xv, .string xs] 38) = W := ⟨_, rfl⟩
                have hbB := Lib.hid (one_box (xs := [.int .i64 xt, .int .u16 xi, .int .i64 xv, .string xs]) hWB)
                have hwB := Lib.hid (hrp.out.trans (hbB.out.1.mono hrp.out.size))
                have s1 := (hbA.out.2.1.below hwB.out (Nat.le_refl _)).cell 2 rfl
                have s2 := hbB.out.2.1.cell 2 rfl
                have hpa := Lib.hid (fun u => plus_any rv xv u hrv'.out ⟨by omega, by omega⟩)
                have hpb := Lib.hid (fun u => refPlus_any rv xv u hrv'.out ⟨by omega, by omega⟩)
                obtain ⟨z2, hz2⟩ : ∃ x, plusN rv xv = x := ⟨_, rfl⟩
                obtain ⟨f2, hf2⟩ : ∃ x, fits rv xv = x := ⟨_, rfl⟩
                rw [hz2, hf2] at hpa hpb
                clear hx hok hc hxv hz2 hf2
                go_wp2_with (first
                  | (with_reducible refine wpList_load_at rfl 38 (.tmp 127) rfl Try.underlying38 rfl hsB rfl hcB.out ?_)
                  | (go_at_call 25; refine (hpa.out _).mono ?_; rintro e y6 ⟨rfl, hb4⟩; have hy6 := Lib.hid hb4; have t1 := cell_keeps hb4 (Nat.le_refl _) s1; have t2 := cell_keeps hb4 (Nat.le_refl _) s2; clear hb4)
                  | (go_at_call 26; refine (hpb.out _).mono ?_; rintro e y7 ⟨rfl, hb4⟩; have hy7 := Lib.hid (hy6.out.trans (hb4.mono hy6.out.size)); clear hb4))
                have hnew := Lib.hid (hwB.out.trans (hy7.out.mono hwB.out.size))
                go_roundw
                case rel => exact ⟨p + 1, by omega, by go_num, hnew⟩
                case measure => simp [intOf]; omega
              · obtain rfl : mn = p := by omega
                go_wp2
                go_roundw
                case rel => exact ⟨k + 1, by omega, by go_num, hwI⟩
                case measure => simp [intOf]; omega
          · obtain rfl : ln = k := by omega
            go_wp2
            go_ret
            exact ⟨rfl, hbx.out.1.trans (hrk.out.mono hbx.out.1.size)⟩

set_option maxRecDepth 1000000 in
theorem finds_lifted (os : Os) (started : os.Started) (H : Type) (enc : TypeId × Value → H) :
    ReturnsInHanded {} Try.checked os 4 .any (Rows.rowFindsSpec.pre6 enc Try.prog Try.f4 Rows.rowFindsRow.domain false) (Rows.rowFindsSpec.post enc Try.prog Try.f4 false true false false) := by
  refine returnsInHanded_of_change (C := Try.checked) own started (by kernel_rfl) Try.func4
    (ChangeSpec.witness6 (enc := enc) (C := Try.checked) false ⟨#[], #[.slice none 0 0, .slice none 0 0, .agg #[.int .i64 0, .int .u16 0]], []⟩ 8 (by kernel_rfl) (by kernel_rfl) (by kernel_rfl) (by kernel_rfl)) ?_
  intro W base args ds gs before hval0 hW _ _
  have hval : ∀ (j : Nat) t v, Try.f4.params[j]? = some t → args[j]? = some v → Value.okWide Try.prog W .any base t v := hval0
  have hW' := hW
  obtain ⟨p, q, hA0, hV, rfl, _, _⟩ := hW
  have hA : DataW.TrodAll enc Try.prog W 0 (fun _ => true) true Try.f4.params.toList args.toList ds p := hA0
  rw [Try.params4] at hA hval
  obtain ⟨v0, v1, v2, d0, d1, d2, p0, p1, p2, rfl, rfl, rfl, h0, h1, h2⟩ := trodAll_three hA
  obtain ⟨rfl, rfl⟩ := trodVars_none hV
  obtain ⟨a0, len0, cap0, rfl⟩ := okWide_slice Try.underlying25 (hval 0 25 v0 rfl rfl)
  obtain ⟨l0, hl0⟩ := open_rows h0
  obtain ⟨a1, len1, cap1, rfl⟩ := okWide_slice Try.underlying25 (hval 1 25 v1 rfl rfl)
  obtain ⟨l1, hl1⟩ := open_rows h1
  obtain ⟨⟨kt2, ki2⟩, rfl, hk2⟩ := open_key (hval 2 28 v2 rfl rfl) h2
  refine (finds_any a0 len0 cap0 l0 a1 len1 cap1 l1 kt2 ki2 W hl0 hl1 hk2).mono fun e W' ⟨he, hb⟩ => ?_
  subst he
  exact ⟨_, rfl, law_post laidOut (of_decide_eq_true (by kernel_rfl)) rfl (by kernel_rfl) Try.underlying4 hW' ⟨rfl, rfl, rfl⟩ hb⟩

set_option maxRecDepth 1000000 in
theorem finds_holds : Rows.RowFindsSaid :=
  OpenClaim.holds_of_wide 4 Try.f4 rfl rfl rfl rfl rfl rfl rfl ⟨rfl, rfl, rfl, rfl, rfl⟩ rfl rfl rfl rfl rfl (by kernel_rfl) Try.func4 (by kernel_rfl)
    (of_decide_eq_true (by kernel_rfl)) (by unfold Func.isWrapper; first | (rw [if_pos (by decide +kernel)]; kernel_rfl) | (rw [if_neg (by decide +kernel)]; exact ⟨rfl, rfl⟩))
    (fun os started H enc _ => finds_lifted os started H enc)
end Go.Proofs.Ytcnkelpnoahapaa
