/- RowOrder: for every list of keys the law returns true, and its argument reads as it did. No condition. -/
import Derived.Test.YtcnkelpnoahapaaYWak
import Derived.Deep.CutRange
namespace Go.Proofs.Ytcnkelpnoahapaa
open Go.ChangeShapes Go.WideShapes Go.ChangeAt Go.RowKit

theorem eq_key (w : World) (a b c d : Int) : (binOp .eql 28 (.agg #[.int .i64 a, .int .u16 b]) (.agg #[.int .i64 c, .int .u16 d])).run Try.prog w = .ok (.bool (eqK ⟨a, b⟩ ⟨c, d⟩)) w := by
  have hS : Try.prog.underlying 28 = some (.struct (Try.prog.fieldsOf 28)) := by kernel_rfl
  have hp : Try.prog.stoodInHeld 28 = false := by kernel_rfl
  have u3 := Try.underlying3
  have u4 := Try.underlying26
  have a3 := Try.isAgg3
  have a4 := Try.isAgg26
  have z3 := Try.sizeOf3
  have z4 := Try.sizeOf26
  rw [run_eql_struct, show (10000 : Nat) = 9999 + 1 from rfl, run_equalIn_agg w 9999 28 _ _ hS hp]
  simp only [Program.fieldsOf, Try.underlying28]
  unfold eqK
  go_simp
  by_cases h1 : a = c <;> by_cases h2 : b = d <;> simp [h1, h2]

theorem below_step {W u v : World} (h2 : Below u.heap.size u v) (h : Below W.heap.size W u) : Below W.heap.size W v := h.trans (h2.mono h.size)

set_option maxRecDepth 100000 in
set_option maxHeartbeats 4000000 in
theorem order_any (q : Option Addr) (n c : Nat) (l : List KeyD) (w : World) (h : KeysOn w q n c l) :
    Calls Try.prog 7 #[.slice q n c] w (fun e w' => e = .returned (.bool true) ∧ Below w.heap.size w w') := by
  have hm := Nat.le_trans h.le h.cap
  unfold maxLen at hm
  have hh := Lib.hid h
  clear h
  by_cases h12 : n ≤ 12
  · go_enter Try.func7, Try.ntmps7
    go_wp2_with fail
    refine (wakes_any w).mono ?_
    rintro e w1 ⟨rfl, hb1⟩
    have hb1' := Lib.hid hb1
    clear hb1
    go_wp2
    go_loopw [18] (fun v18 wr => ∃ k : Nat, k ≤ n ∧ v18 = .int .i64 k ∧ Hid (Below w.heap.size w wr)) (fun v18 _ => n - (intOf v18).toNat)
    case atStart => exact ⟨0, Nat.zero_le _, rfl, hb1'⟩
    case round =>
      obtain ⟨k, hk, rfl, hr⟩ := hrel
      obtain ⟨wo, rfl⟩ : ∃ x, x = wr := ⟨_, rfl⟩
      by_cases hlt : k < n
      · obtain ⟨A, ⟨at_, ai⟩, hqA, hx, hok, hc⟩ := (hh.out.below hr.out (Nat.le_refl _)).at hlt
        subst hqA
        have hcA : Hid (∀ j x, ([.int .i64 at_, .int .u16 ai] : List Value)[j]? = some x → wo.cell? ((A.add (k * 2)).add j) = some x) := hc
        have hsA := sizeKey at_ ai
        obtain ⟨WA, hWA⟩ : ∃ W, wo.alloc (.cells #[.int .i64 at_, .int .u16 ai] 28) = W := ⟨_, rfl⟩
        have hbA := Lib.hid (one_box (xs := [.int .i64 at_, .int .u16 ai]) hWA)
        have hwA := Lib.hid (hr.out.trans (hbA.out.1.mono hr.out.size))
        clear hx hok hc
        go_wp2_with (first
          | (with_reducible refine wpList_load_at rfl 28 (.tmp 20) rfl Try.underlying28 rfl hsA rfl hcA.out ?_))
        clear hWA
        have hrB : Hid (Below WA.heap.size WA WA) := Below.refl _ _
        go_loopw [24] (fun v24 wr2 => ∃ m : Nat, m ≤ n ∧ v24 = .int .i64 m ∧ Hid (Below WA.heap.size WA wr2)) (fun v24 _ => n - (intOf v24).toNat)
        case atStart => exact ⟨0, Nat.zero_le _, rfl, hrB⟩
        case round =>
          obtain ⟨m, hmn, rfl, hr2⟩ := hrel
          obtain ⟨wi, rfl⟩ : ∃ x, x = wr := ⟨_, rfl⟩
          have hw2 := Lib.hid (hwA.out.trans (hr2.out.mono hwA.out.size))
          by_cases hlt2 : m < n
          · obtain ⟨A', ⟨bt, bi⟩, hqA, hx, hok, hc⟩ := (hh.out.below hw2.out (Nat.le_refl _)).at hlt2
            cases hqA
            have hcB : Hid (∀ j x, ([.int .i64 bt, .int .u16 bi] : List Value)[j]? = some x → wi.cell? ((A.add (m * 2)).add j) = some x) := hc
            have hsB := sizeKey bt bi
            obtain ⟨WB, hWB⟩ : ∃ W, wi.alloc (.cells #[.int .i64 bt, .int .u16 bi] 28) = W := ⟨_, rfl⟩
            have hbB := Lib.hid (one_box (xs := [.int .i64 bt, .int .u16 bi]) hWB)
            have hwB := Lib.hid (hw2.out.trans (hbB.out.1.mono hw2.out.size))
            have gA := hbA.out.2.1.below (hr2.out.trans (hbB.out.1.mono hr2.out.size)) (Nat.le_refl _)
            clear hx hok hc
            go_wp2_with (first
              | (with_reducible refine wpList_load_at rfl 28 (.tmp 26) rfl Try.underlying28 rfl hsB rfl hcB.out ?_))
            clear hWB
            have a0 := gA.cell 0 rfl
            have a1 := gA.cell 1 rfl
            have b0 := hbB.out.2.1.cell 0 rfl
            have b1 := hbB.out.2.1.cell 1 rfl
            obtain ⟨x, hx⟩ : ∃ x, cmpK ⟨at_, ai⟩ ⟨bt, bi⟩ = x := ⟨_, rfl⟩
            have hrg := cmpK_range ⟨at_, ai⟩ ⟨bt, bi⟩
            have hcab := Lib.hid (fun u => compare_any ⟨at_, ai⟩ ⟨bt, bi⟩ u)
            have hcba := Lib.hid (fun u => compare_any ⟨bt, bi⟩ ⟨at_, ai⟩ u)
            rw [cmpK_anti] at hcba
            have hez := eqK_cmp ⟨at_, ai⟩ ⟨bt, bi⟩
            have heq : ∀ u, (binOp .eql 28 (.agg #[.int .i64 at_, .int .u16 ai]) (.agg #[.int .i64 bt, .int .u16 bi])).run Try.prog u = .ok (.bool (x == 0)) u := fun u => by rw [eq_key, hez, hx]
            rw [hx] at hcab hcba hrg
            have hx' := Lib.hid hx
            obtain ⟨hr0, hr1⟩ := hrg
            have n1 : IntKind.i64.wrap (-x) = -x := IntWalk.i64_in _ (by omega)
            have n2 : IntKind.i64.wrap x = x := IntWalk.i64_in _ (by omega)
            clear hx hez
            go_region_held3 (fun u => u.cell? ⟨wo.heap.size, 0, none⟩ = some (.int .i64 at_) ∧ u.cell? ⟨wo.heap.size, 1, none⟩ = some (.int .u16 ai) ∧ u.cell? ⟨wi.heap.size, 0, none⟩ = some (.int .i64 bt) ∧ u.cell? ⟨wi.heap.size, 1, none⟩ = some (.int .u16 bi) ∧ Below WB.heap.size WB u)
              (first | exact ⟨a0, a1, b0, b1, below_drew _⟩ | (go_split_ands; exact ⟨cell_keeps hb6.out (Nat.le_refl _) (by assumption), cell_keeps hb6.out (Nat.le_refl _) (by assumption), cell_keeps hb6.out (Nat.le_refl _) (by assumption), cell_keeps hb6.out (Nat.le_refl _) (by assumption), below_step hb6.out (by assumption)⟩))
              (first
                | (go_at_call 27; (with_reducible refine (hcab.out _).mono ?_); rintro e w6 ⟨rfl, hb6'⟩; have hb6 := Lib.hid hb6'; clear hb6')
                | (go_at_call 27; (with_reducible refine (hcba.out _).mono ?_); rintro e w6 ⟨rfl, hb6'⟩; have hb6 := Lib.hid hb6'; clear hb6'))
            have hw3 : Hid (Below w.heap.size w w6) := by
              show Below _ _ _
              go_split_ands
              exact hwB.out.trans (Below.mono (by assumption) hwB.out.size)
            have hw3a : Hid (Below WB.heap.size WB w6) := by
              show Below _ _ _
              go_split_ands
              assumption
            clear n1 n2 heq
            go_wp2
            have hrC : Hid (Below w6.heap.size w6 w6) := Below.refl _ _
            go_loopw [48] (fun v48 wr3 => ∃ p : Nat, p ≤ n ∧ v48 = .int .i64 p ∧ Hid (Below w6.heap.size w6 wr3)) (fun v48 _ => n - (intOf v48).toNat)
            case atStart => exact ⟨0, Nat.zero_le _, rfl, hrC⟩
            case round =>
              obtain ⟨p, hpn, rfl, hr3⟩ := hrel
              obtain ⟨wj, rfl⟩ : ∃ x, x = wr := ⟨_, rfl⟩
              have hw4 := Lib.hid (hw3.out.trans (hr3.out.mono hw3.out.size))
              by_cases hlt3 : p < n
              · obtain ⟨A', ⟨ct, ci⟩, hqA, hx, hok, hc⟩ := (hh.out.below hw4.out (Nat.le_refl _)).at hlt3
                cases hqA
                have hcC : Hid (∀ j x, ([.int .i64 ct, .int .u16 ci] : List Value)[j]? = some x → wj.cell? ((A.add (p * 2)).add j) = some x) := hc
                have hsC := sizeKey ct ci
                obtain ⟨WC, hWC⟩ : ∃ W, wj.alloc (.cells #[.int .i64 ct, .int .u16 ci] 28) = W := ⟨_, rfl⟩
                have hbC := Lib.hid (one_box (xs := [.int .i64 ct, .int .u16 ci]) hWC)
                have hwC := Lib.hid (hw4.out.trans (hbC.out.1.mono hw4.out.size))
                have hup := (hr3.out.trans (hbC.out.1.mono hr3.out.size))
                have gB2 := (hbB.out.2.1.below hw3a.out (Nat.le_refl _)).below hup (Nat.le_refl _)
                have gA2 := (gA.below hw3a.out (Nat.le_refl _)).below hup (Nat.le_refl _)
                clear hx hok hc
                have hup' := Lib.hid hup
                clear hup
                have jA0 := Lib.hid gA2
                have jB0 := Lib.hid gB2
                have jC0 := Lib.hid hbC.out.2.1
                clear gA2 gB2
                have hcbc := Lib.hid (fun u => compare_any ⟨bt, bi⟩ ⟨ct, ci⟩ u)
                have hcac := Lib.hid (fun u => compare_any ⟨at_, ai⟩ ⟨ct, ci⟩ u)
                have htr := Lib.hid (fun h1 h2 => cmpK_trans (a := ⟨at_, ai⟩) (b := ⟨bt, bi⟩) (c := ⟨ct, ci⟩) h1 h2)
                obtain ⟨y, hy⟩ : ∃ y, cmpK ⟨bt, bi⟩ ⟨ct, ci⟩ = y := ⟨_, rfl⟩
                obtain ⟨z, hz⟩ : ∃ z, cmpK ⟨at_, ai⟩ ⟨ct, ci⟩ = z := ⟨_, rfl⟩
                rw [hx'.out, hy, hz] at htr
                rw [hy] at hcbc
                rw [hz] at hcac
                clear hy hz
                by_cases hx0 : x ≤ 0
                · by_cases hy0 : y ≤ 0
                  · have hz0 := htr.out hx0 hy0
                    have hz1 : ¬ 0 < z := by omega
                    go_wp2_with (first
                      | (with_reducible refine wpList_load_at rfl 28 (.tmp 50) rfl Try.underlying28 rfl hsC rfl hcC.out ?_)
                      | (with_reducible refine wpList_load_at rfl 28 (.tmp 4) rfl Try.underlying28 rfl hsA rfl jA0.out.all ?_)
                      | (with_reducible refine wpList_load_at rfl 28 (.tmp 6) rfl Try.underlying28 rfl hsB rfl jB0.out.all ?_)
                      | (go_at_call 27; (with_reducible refine (hcab.out _).mono ?_); rintro e v1 ⟨rfl, hbx⟩; have hd1 := Lib.hid (hup'.out.trans (hbx.mono hup'.out.size)); have hbv1 := Lib.hid (hwC.out.trans (hbx.mono hwC.out.size)); have jA1 := Lib.hid (jA0.out.below hbx (Nat.le_refl _)); have jB1 := Lib.hid (jB0.out.below hbx (Nat.le_refl _)); have jC1 := Lib.hid (jC0.out.below hbx (Nat.le_refl _)); have l10 := jB1.out.cell 0 rfl; have l11 := jB1.out.cell 1 rfl; have l12 := jC1.out.cell 0 rfl; have l13 := jC1.out.cell 1 rfl; clear hbx)
                      | (go_at_call 27; (with_reducible refine (hcbc.out _).mono ?_); rintro e v2 ⟨rfl, hbx⟩; have hd2 := Lib.hid (hd1.out.trans (hbx.mono hd1.out.size)); have hbv2 := Lib.hid (hbv1.out.trans (hbx.mono hbv1.out.size)); have jA2 := Lib.hid (jA1.out.below hbx (Nat.le_refl _)); have jC2 := Lib.hid (jC1.out.below hbx (Nat.le_refl _)); have l20 := jA2.out.cell 0 rfl; have l21 := jA2.out.cell 1 rfl; have l22 := jC2.out.cell 0 rfl; have l23 := jC2.out.cell 1 rfl; clear hbx)
                      | (go_at_call 27; (with_reducible refine (hcac.out _).mono ?_); rintro e v3 ⟨rfl, hbx⟩; have hd3 := Lib.hid (hd2.out.trans (hbx.mono hd2.out.size)); have hbv3 := Lib.hid (hbv2.out.trans (hbx.mono hbv2.out.size)); clear hbx))
                    clear hWC
                    go_roundw
                    case rel => exact ⟨p + 1, by omega, by go_num, hd3⟩
                    case measure => simp [intOf]; omega
                  · have hy1 : 0 < y := by omega
                    go_wp2_with (first
                      | (with_reducible refine wpList_load_at rfl 28 (.tmp 50) rfl Try.underlying28 rfl hsC rfl hcC.out ?_)
                      | (with_reducible refine wpList_load_at rfl 28 (.tmp 4) rfl Try.underlying28 rfl hsA rfl jA0.out.all ?_)
                      | (with_reducible refine wpList_load_at rfl 28 (.tmp 6) rfl Try.underlying28 rfl hsB rfl jB0.out.all ?_)
                      | (go_at_call 27; (with_reducible refine (hcab.out _).mono ?_); rintro e v1 ⟨rfl, hbx⟩; have hd1 := Lib.hid (hup'.out.trans (hbx.mono hup'.out.size)); have hbv1 := Lib.hid (hwC.out.trans (hbx.mono hwC.out.size)); have jA1 := Lib.hid (jA0.out.below hbx (Nat.le_refl _)); have jB1 := Lib.hid (jB0.out.below hbx (Nat.le_refl _)); have jC1 := Lib.hid (jC0.out.below hbx (Nat.le_refl _)); have l10 := jB1.out.cell 0 rfl; have l11 := jB1.out.cell 1 rfl; have l12 := jC1.out.cell 0 rfl; have l13 := jC1.out.cell 1 rfl; clear hbx)
                      | (go_at_call 27; (with_reducible refine (hcbc.out _).mono ?_); rintro e v2 ⟨rfl, hbx⟩; have hd2 := Lib.hid (hd1.out.trans (hbx.mono hd1.out.size)); have hbv2 := Lib.hid (hbv1.out.trans (hbx.mono hbv1.out.size)); have jA2 := Lib.hid (jA1.out.below hbx (Nat.le_refl _)); have jC2 := Lib.hid (jC1.out.below hbx (Nat.le_refl _)); have l20 := jA2.out.cell 0 rfl; have l21 := jA2.out.cell 1 rfl; have l22 := jC2.out.cell 0 rfl; have l23 := jC2.out.cell 1 rfl; clear hbx))
                    clear hWC
                    go_roundw
                    case rel => exact ⟨p + 1, by omega, by go_num, hd2⟩
                    case measure => simp [intOf]; omega
                · have hx1 : 0 < x := by omega
                  go_wp2_with (first
                    | (with_reducible refine wpList_load_at rfl 28 (.tmp 50) rfl Try.underlying28 rfl hsC rfl hcC.out ?_)
                    | (with_reducible refine wpList_load_at rfl 28 (.tmp 4) rfl Try.underlying28 rfl hsA rfl jA0.out.all ?_)
                    | (with_reducible refine wpList_load_at rfl 28 (.tmp 6) rfl Try.underlying28 rfl hsB rfl jB0.out.all ?_)
                    | (go_at_call 27; (with_reducible refine (hcab.out _).mono ?_); rintro e v1 ⟨rfl, hbx⟩; have hd1 := Lib.hid (hup'.out.trans (hbx.mono hup'.out.size)); have hbv1 := Lib.hid (hwC.out.trans (hbx.mono hwC.out.size)); have jA1 := Lib.hid (jA0.out.below hbx (Nat.le_refl _)); have jB1 := Lib.hid (jB0.out.below hbx (Nat.le_refl _)); have jC1 := Lib.hid (jC0.out.below hbx (Nat.le_refl _)); have l10 := jB1.out.cell 0 rfl; have l11 := jB1.out.cell 1 rfl; have l12 := jC1.out.cell 0 rfl; have l13 := jC1.out.cell 1 rfl; clear hbx))
                  clear hWC
                  go_roundw
                  case rel => exact ⟨p + 1, by omega, by go_num, hd1⟩
                  case measure => simp [intOf]; omega
              · obtain rfl : n = p := by omega
                go_wp2
                go_roundw
                case rel => exact ⟨m + 1, by omega, by go_num, hr2.out.trans (((hbB.out.1.trans (hw3a.out.mono hbB.out.1.size)).trans (hr3.out.mono (Nat.le_trans hbB.out.1.size hw3a.out.size))).mono hr2.out.size)⟩
                case measure => simp [intOf]; omega
          · obtain rfl : n = m := by omega
            go_wp2
            go_roundw
            case rel => exact ⟨k + 1, by omega, by go_num, hw2⟩
            case measure => simp [intOf]; omega
      · obtain rfl : n = k := by omega
        go_wp2
        go_ret
        exact ⟨rfl, hr.out⟩
  · have hh2 : Hid (KeysOn w q 12 c (l.take 12)) := by
      have h0 := hh.out
      have hl := h0.len
      have hle := h0.le
      refine ⟨by rw [List.length_take]; omega, by omega, h0.cap, h0.nil, fun i r hi => ?_, fun r hr => h0.ok r (List.mem_of_mem_take hr)⟩
      rw [List.getElem?_take] at hi
      split at hi
      · exact h0.get i r hi
      · cases hi
    have h12c : 12 ≤ c := by have := hh.out.le; omega
    have h12n : ¬ ((n : Int) ≤ 12) := by omega
    clear hh
    have hh := hh2
    clear hh2
    go_enter Try.func7, Try.ntmps7
    go_wp2_with fail
    refine (wakes_any w).mono ?_
    rintro e w1 ⟨rfl, hb1⟩
    have hb1' := Lib.hid hb1
    clear hb1
    go_wp2
    go_loopw [18] (fun v18 wr => ∃ k : Nat, k ≤ 12 ∧ v18 = .int .i64 k ∧ Hid (Below w.heap.size w wr)) (fun v18 _ => 12 - (intOf v18).toNat)
    case atStart => exact ⟨0, Nat.zero_le _, rfl, hb1'⟩
    case round =>
      obtain ⟨k, hk, rfl, hr⟩ := hrel
      obtain ⟨wo, rfl⟩ : ∃ x, x = wr := ⟨_, rfl⟩
      by_cases hlt : k < 12
      · obtain ⟨A, ⟨at_, ai⟩, hqA, hx, hok, hc⟩ := (hh.out.below hr.out (Nat.le_refl _)).at hlt
        subst hqA
        have hcA : Hid (∀ j x, ([.int .i64 at_, .int .u16 ai] : List Value)[j]? = some x → wo.cell? ((A.add (k * 2)).add j) = some x) := hc
        have hsA := sizeKey at_ ai
        obtain ⟨WA, hWA⟩ : ∃ W, wo.alloc (.cells #[.int .i64 at_, .int .u16 ai] 28) = W := ⟨_, rfl⟩
        have hbA := Lib.hid (one_box (xs := [.int .i64 at_, .int .u16 ai]) hWA)
        have hwA := Lib.hid (hr.out.trans (hbA.out.1.mono hr.out.size))
        clear hx hok hc
        go_wp2_with (first
          | (with_reducible refine wpList_load_at rfl 28 (.tmp 20) rfl Try.underlying28 rfl hsA rfl hcA.out ?_))
        clear hWA
        have hrB : Hid (Below WA.heap.size WA WA) := Below.refl _ _
        go_loopw [24] (fun v24 wr2 => ∃ m : Nat, m ≤ 12 ∧ v24 = .int .i64 m ∧ Hid (Below WA.heap.size WA wr2)) (fun v24 _ => 12 - (intOf v24).toNat)
        case atStart => exact ⟨0, Nat.zero_le _, rfl, hrB⟩
        case round =>
          obtain ⟨m, hmn, rfl, hr2⟩ := hrel
          obtain ⟨wi, rfl⟩ : ∃ x, x = wr := ⟨_, rfl⟩
          have hw2 := Lib.hid (hwA.out.trans (hr2.out.mono hwA.out.size))
          by_cases hlt2 : m < 12
          · obtain ⟨A', ⟨bt, bi⟩, hqA, hx, hok, hc⟩ := (hh.out.below hw2.out (Nat.le_refl _)).at hlt2
            cases hqA
            have hcB : Hid (∀ j x, ([.int .i64 bt, .int .u16 bi] : List Value)[j]? = some x → wi.cell? ((A.add (m * 2)).add j) = some x) := hc
            have hsB := sizeKey bt bi
            obtain ⟨WB, hWB⟩ : ∃ W, wi.alloc (.cells #[.int .i64 bt, .int .u16 bi] 28) = W := ⟨_, rfl⟩
            have hbB := Lib.hid (one_box (xs := [.int .i64 bt, .int .u16 bi]) hWB)
            have hwB := Lib.hid (hw2.out.trans (hbB.out.1.mono hw2.out.size))
            have gA := hbA.out.2.1.below (hr2.out.trans (hbB.out.1.mono hr2.out.size)) (Nat.le_refl _)
            clear hx hok hc
            go_wp2_with (first
              | (with_reducible refine wpList_load_at rfl 28 (.tmp 26) rfl Try.underlying28 rfl hsB rfl hcB.out ?_))
            clear hWB
            have a0 := gA.cell 0 rfl
            have a1 := gA.cell 1 rfl
            have b0 := hbB.out.2.1.cell 0 rfl
            have b1 := hbB.out.2.1.cell 1 rfl
            obtain ⟨x, hx⟩ : ∃ x, cmpK ⟨at_, ai⟩ ⟨bt, bi⟩ = x := ⟨_, rfl⟩
            have hrg := cmpK_range ⟨at_, ai⟩ ⟨bt, bi⟩
            have hcab := Lib.hid (fun u => compare_any ⟨at_, ai⟩ ⟨bt, bi⟩ u)
            have hcba := Lib.hid (fun u => compare_any ⟨bt, bi⟩ ⟨at_, ai⟩ u)
            rw [cmpK_anti] at hcba
            have hez := eqK_cmp ⟨at_, ai⟩ ⟨bt, bi⟩
            have heq : ∀ u, (binOp .eql 28 (.agg #[.int .i64 at_, .int .u16 ai]) (.agg #[.int .i64 bt, .int .u16 bi])).run Try.prog u = .ok (.bool (x == 0)) u := fun u => by rw [eq_key, hez, hx]
            rw [hx] at hcab hcba hrg
            have hx' := Lib.hid hx
            obtain ⟨hr0, hr1⟩ := hrg
            have n1 : IntKind.i64.wrap (-x) = -x := IntWalk.i64_in _ (by omega)
            have n2 : IntKind.i64.wrap x = x := IntWalk.i64_in _ (by omega)
            clear hx hez
            go_region_held3 (fun u => u.cell? ⟨wo.heap.size, 0, none⟩ = some (.int .i64 at_) ∧ u.cell? ⟨wo.heap.size, 1, none⟩ = some (.int .u16 ai) ∧ u.cell? ⟨wi.heap.size, 0, none⟩ = some (.int .i64 bt) ∧ u.cell? ⟨wi.heap.size, 1, none⟩ = some (.int .u16 bi) ∧ Below WB.heap.size WB u)
              (first | exact ⟨a0, a1, b0, b1, below_drew _⟩ | (go_split_ands; exact ⟨cell_keeps hb6.out (Nat.le_refl _) (by assumption), cell_keeps hb6.out (Nat.le_refl _) (by assumption), cell_keeps hb6.out (Nat.le_refl _) (by assumption), cell_keeps hb6.out (Nat.le_refl _) (by assumption), below_step hb6.out (by assumption)⟩))
              (first
                | (go_at_call 27; (with_reducible refine (hcab.out _).mono ?_); rintro e w6 ⟨rfl, hb6'⟩; have hb6 := Lib.hid hb6'; clear hb6')
                | (go_at_call 27; (with_reducible refine (hcba.out _).mono ?_); rintro e w6 ⟨rfl, hb6'⟩; have hb6 := Lib.hid hb6'; clear hb6'))
            have hw3 : Hid (Below w.heap.size w w6) := by
              show Below _ _ _
              go_split_ands
              exact hwB.out.trans (Below.mono (by assumption) hwB.out.size)
            have hw3a : Hid (Below WB.heap.size WB w6) := by
              show Below _ _ _
              go_split_ands
              assumption
            clear n1 n2 heq
            go_wp2
            have hrC : Hid (Below w6.heap.size w6 w6) := Below.refl _ _
            go_loopw [48] (fun v48 wr3 => ∃ p : Nat, p ≤ 12 ∧ v48 = .int .i64 p ∧ Hid (Below w6.heap.size w6 wr3)) (fun v48 _ => 12 - (intOf v48).toNat)
            case atStart => exact ⟨0, Nat.zero_le _, rfl, hrC⟩
            case round =>
              obtain ⟨p, hpn, rfl, hr3⟩ := hrel
              obtain ⟨wj, rfl⟩ : ∃ x, x = wr := ⟨_, rfl⟩
              have hw4 := Lib.hid (hw3.out.trans (hr3.out.mono hw3.out.size))
              by_cases hlt3 : p < 12
              · obtain ⟨A', ⟨ct, ci⟩, hqA, hx, hok, hc⟩ := (hh.out.below hw4.out (Nat.le_refl _)).at hlt3
                cases hqA
                have hcC : Hid (∀ j x, ([.int .i64 ct, .int .u16 ci] : List Value)[j]? = some x → wj.cell? ((A.add (p * 2)).add j) = some x) := hc
                have hsC := sizeKey ct ci
                obtain ⟨WC, hWC⟩ : ∃ W, wj.alloc (.cells #[.int .i64 ct, .int .u16 ci] 28) = W := ⟨_, rfl⟩
                have hbC := Lib.hid (one_box (xs := [.int .i64 ct, .int .u16 ci]) hWC)
                have hwC := Lib.hid (hw4.out.trans (hbC.out.1.mono hw4.out.size))
                have hup := (hr3.out.trans (hbC.out.1.mono hr3.out.size))
                have gB2 := (hbB.out.2.1.below hw3a.out (Nat.le_refl _)).below hup (Nat.le_refl _)
                have gA2 := (gA.below hw3a.out (Nat.le_refl _)).below hup (Nat.le_refl _)
                clear hx hok hc
                have hup' := Lib.hid hup
                clear hup
                have jA0 := Lib.hid gA2
                have jB0 := Lib.hid gB2
                have jC0 := Lib.hid hbC.out.2.1
                clear gA2 gB2
                have hcbc := Lib.hid (fun u => compare_any ⟨bt, bi⟩ ⟨ct, ci⟩ u)
                have hcac := Lib.hid (fun u => compare_any ⟨at_, ai⟩ ⟨ct, ci⟩ u)
                have htr := Lib.hid (fun h1 h2 => cmpK_trans (a := ⟨at_, ai⟩) (b := ⟨bt, bi⟩) (c := ⟨ct, ci⟩) h1 h2)
                obtain ⟨y, hy⟩ : ∃ y, cmpK ⟨bt, bi⟩ ⟨ct, ci⟩ = y := ⟨_, rfl⟩
                obtain ⟨z, hz⟩ : ∃ z, cmpK ⟨at_, ai⟩ ⟨ct, ci⟩ = z := ⟨_, rfl⟩
                rw [hx'.out, hy, hz] at htr
                rw [hy] at hcbc
                rw [hz] at hcac
                clear hy hz
                by_cases hx0 : x ≤ 0
                · by_cases hy0 : y ≤ 0
                  · have hz0 := htr.out hx0 hy0
                    have hz1 : ¬ 0 < z := by omega
                    go_wp2_with (first
                      | (with_reducible refine wpList_load_at rfl 28 (.tmp 50) rfl Try.underlying28 rfl hsC rfl hcC.out ?_)
                      | (with_reducible refine wpList_load_at rfl 28 (.tmp 4) rfl Try.underlying28 rfl hsA rfl jA0.out.all ?_)
                      | (with_reducible refine wpList_load_at rfl 28 (.tmp 6) rfl Try.underlying28 rfl hsB rfl jB0.out.all ?_)
                      | (go_at_call 27; (with_reducible refine (hcab.out _).mono ?_); rintro e v1 ⟨rfl, hbx⟩; have hd1 := Lib.hid (hup'.out.trans (hbx.mono hup'.out.size)); have hbv1 := Lib.hid (hwC.out.trans (hbx.mono hwC.out.size)); have jA1 := Lib.hid (jA0.out.below hbx (Nat.le_refl _)); have jB1 := Lib.hid (jB0.out.below hbx (Nat.le_refl _)); have jC1 := Lib.hid (jC0.out.below hbx (Nat.le_refl _)); have l10 := jB1.out.cell 0 rfl; have l11 := jB1.out.cell 1 rfl; have l12 := jC1.out.cell 0 rfl; have l13 := jC1.out.cell 1 rfl; clear hbx)
                      | (go_at_call 27; (with_reducible refine (hcbc.out _).mono ?_); rintro e v2 ⟨rfl, hbx⟩; have hd2 := Lib.hid (hd1.out.trans (hbx.mono hd1.out.size)); have hbv2 := Lib.hid (hbv1.out.trans (hbx.mono hbv1.out.size)); have jA2 := Lib.hid (jA1.out.below hbx (Nat.le_refl _)); have jC2 := Lib.hid (jC1.out.below hbx (Nat.le_refl _)); have l20 := jA2.out.cell 0 rfl; have l21 := jA2.out.cell 1 rfl; have l22 := jC2.out.cell 0 rfl; have l23 := jC2.out.cell 1 rfl; clear hbx)
                      | (go_at_call 27; (with_reducible refine (hcac.out _).mono ?_); rintro e v3 ⟨rfl, hbx⟩; have hd3 := Lib.hid (hd2.out.trans (hbx.mono hd2.out.size)); have hbv3 := Lib.hid (hbv2.out.trans (hbx.mono hbv2.out.size)); clear hbx))
                    clear hWC
                    go_roundw
                    case rel => exact ⟨p + 1, by omega, by go_num, hd3⟩
                    case measure => simp [intOf]; omega
                  · have hy1 : 0 < y := by omega
                    go_wp2_with (first
                      | (with_reducible refine wpList_load_at rfl 28 (.tmp 50) rfl Try.underlying28 rfl hsC rfl hcC.out ?_)
                      | (with_reducible refine wpList_load_at rfl 28 (.tmp 4) rfl Try.underlying28 rfl hsA rfl jA0.out.all ?_)
                      | (with_reducible refine wpList_load_at rfl 28 (.tmp 6) rfl Try.underlying28 rfl hsB rfl jB0.out.all ?_)
                      | (go_at_call 27; (with_reducible refine (hcab.out _).mono ?_); rintro e v1 ⟨rfl, hbx⟩; have hd1 := Lib.hid (hup'.out.trans (hbx.mono hup'.out.size)); have hbv1 := Lib.hid (hwC.out.trans (hbx.mono hwC.out.size)); have jA1 := Lib.hid (jA0.out.below hbx (Nat.le_refl _)); have jB1 := Lib.hid (jB0.out.below hbx (Nat.le_refl _)); have jC1 := Lib.hid (jC0.out.below hbx (Nat.le_refl _)); have l10 := jB1.out.cell 0 rfl; have l11 := jB1.out.cell 1 rfl; have l12 := jC1.out.cell 0 rfl; have l13 := jC1.out.cell 1 rfl; clear hbx)
                      | (go_at_call 27; (with_reducible refine (hcbc.out _).mono ?_); rintro e v2 ⟨rfl, hbx⟩; have hd2 := Lib.hid (hd1.out.trans (hbx.mono hd1.out.size)); have hbv2 := Lib.hid (hbv1.out.trans (hbx.mono hbv1.out.size)); have jA2 := Lib.hid (jA1.out.below hbx (Nat.le_refl _)); have jC2 := Lib.hid (jC1.out.below hbx (Nat.le_refl _)); have l20 := jA2.out.cell 0 rfl; have l21 := jA2.out.cell 1 rfl; have l22 := jC2.out.cell 0 rfl; have l23 := jC2.out.cell 1 rfl; clear hbx))
                    clear hWC
                    go_roundw
                    case rel => exact ⟨p + 1, by omega, by go_num, hd2⟩
                    case measure => simp [intOf]; omega
                · have hx1 : 0 < x := by omega
                  go_wp2_with (first
                    | (with_reducible refine wpList_load_at rfl 28 (.tmp 50) rfl Try.underlying28 rfl hsC rfl hcC.out ?_)
                    | (with_reducible refine wpList_load_at rfl 28 (.tmp 4) rfl Try.underlying28 rfl hsA rfl jA0.out.all ?_)
                    | (with_reducible refine wpList_load_at rfl 28 (.tmp 6) rfl Try.underlying28 rfl hsB rfl jB0.out.all ?_)
                    | (go_at_call 27; (with_reducible refine (hcab.out _).mono ?_); rintro e v1 ⟨rfl, hbx⟩; have hd1 := Lib.hid (hup'.out.trans (hbx.mono hup'.out.size)); have hbv1 := Lib.hid (hwC.out.trans (hbx.mono hwC.out.size)); have jA1 := Lib.hid (jA0.out.below hbx (Nat.le_refl _)); have jB1 := Lib.hid (jB0.out.below hbx (Nat.le_refl _)); have jC1 := Lib.hid (jC0.out.below hbx (Nat.le_refl _)); have l10 := jB1.out.cell 0 rfl; have l11 := jB1.out.cell 1 rfl; have l12 := jC1.out.cell 0 rfl; have l13 := jC1.out.cell 1 rfl; clear hbx))
                  clear hWC
                  go_roundw
                  case rel => exact ⟨p + 1, by omega, by go_num, hd1⟩
                  case measure => simp [intOf]; omega
              · obtain rfl : 12 = p := by omega
                go_wp2
                go_roundw
                case rel => exact ⟨m + 1, by omega, by go_num, hr2.out.trans (((hbB.out.1.trans (hw3a.out.mono hbB.out.1.size)).trans (hr3.out.mono (Nat.le_trans hbB.out.1.size hw3a.out.size))).mono hr2.out.size)⟩
                case measure => simp [intOf]; omega
          · obtain rfl : 12 = m := by omega
            go_wp2
            go_roundw
            case rel => exact ⟨k + 1, by omega, by go_num, hw2⟩
            case measure => simp [intOf]; omega
      · obtain rfl : 12 = k := by omega
        go_wp2
        go_ret
        exact ⟨rfl, hr.out⟩

set_option maxRecDepth 1000000 in
theorem order_lifted (os : Os) (started : os.Started) (H : Type) (enc : TypeId × Value → H) :
    ReturnsInHanded {} Try.checked os 7 .any (Rows.rowOrderSpec.pre6 enc Try.prog Try.f7 Rows.rowOrderRow.domain false) (Rows.rowOrderSpec.post enc Try.prog Try.f7 false true false false) := by
  refine returnsInHanded_of_change (C := Try.checked) own started (by kernel_rfl) Try.func7
    (ChangeSpec.witness6 (enc := enc) (C := Try.checked) false ⟨#[], #[.slice none 0 0], []⟩ 8 (by kernel_rfl) (by kernel_rfl) (by kernel_rfl) (by kernel_rfl)) ?_
  intro W base args ds gs before hval0 hW _ _
  have hval : ∀ (j : Nat) t v, Try.f7.params[j]? = some t → args[j]? = some v → Value.okWide Try.prog W .any base t v := hval0
  have hW' := hW
  obtain ⟨p, q, hA0, hV, rfl, _, _⟩ := hW
  have hA : DataW.TrodAll enc Try.prog W 0 (fun _ => true) true Try.f7.params.toList args.toList ds p := hA0
  rw [Try.params7] at hA hval
  obtain ⟨v0, d0, rfl, rfl, h0⟩ := trodAll_one hA
  obtain ⟨rfl, rfl⟩ := trodVars_none hV
  obtain ⟨a0, len0, cap0, rfl⟩ := okWide_slice Try.underlying57 (hval 0 57 v0 rfl rfl)
  obtain ⟨l, hl⟩ := open_keys h0
  refine (order_any a0 len0 cap0 l W hl).mono fun e W' ⟨he, hb⟩ => ?_
  subst he
  exact ⟨_, rfl, law_post laidOut (of_decide_eq_true (by kernel_rfl)) rfl (by kernel_rfl) Try.underlying4 hW' ⟨rfl, rfl, rfl⟩ hb⟩

set_option maxRecDepth 1000000 in
theorem order_holds : Rows.RowOrderSaid :=
  OpenClaim.holds_of_wide 7 Try.f7 rfl rfl rfl rfl rfl rfl rfl ⟨rfl, rfl, rfl, rfl, rfl⟩ rfl rfl rfl rfl rfl (by kernel_rfl) Try.func7 (by kernel_rfl)
    (of_decide_eq_true (by kernel_rfl)) (by unfold Func.isWrapper; first | (rw [if_pos (by decide +kernel)]; kernel_rfl) | (rw [if_neg (by decide +kernel)]; exact ⟨rfl, rfl⟩))
    (fun os started H enc _ => order_lifted os started H enc)
end Go.Proofs.Ytcnkelpnoahapaa
