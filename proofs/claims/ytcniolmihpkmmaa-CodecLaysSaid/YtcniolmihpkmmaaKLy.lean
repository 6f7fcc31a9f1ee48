/- CodecLays: for every contents and rows the law returns true, and its arguments read as they did. No condition. -/
import Derived.Test.YtcniolmihpkmmaaKLo
namespace Go.Proofs.Ytcniolmihpkmmaa
open Go.ChangeShapes Go.WideShapes Go.ChangeAt Go.RowKit

theorem fewC_idem (c : ContD) : sameC (fewC c) (fewC c) = true := sameC_iff.2 rfl

set_option maxRecDepth 100000 in
set_option maxHeartbeats 16000000 in
theorem lays_law (lq : Option Addr) (ln lc : Nat) (L : List ContV) (sq : Option Addr) (sn sc : Nat) (R : List RowD) (w : World) (hL : ContsOn w lq ln lc L) (hR : RowsOn w sq sn sc R) :
    Calls Try.prog 3 #[.slice lq ln lc, .slice sq sn sc] w (fun e w' => e = .returned (.bool true) ∧ Below w.heap.size w w') := by
  have hLL := Lib.hid hL
  have hRR := Lib.hid hR
  have hlm := Nat.le_trans hL.le hL.cap
  have hrm := Nat.le_trans hR.le hR.cap
  unfold maxLen at hlm hrm
  clear hL hR
  go_enter Try.func3, Try.ntmps3
  go_wp2_with fail
  refine (wakes_any _).mono ?_
  rintro e w1 ⟨rfl, hb1⟩
  have hd1 := Lib.hid hb1
  clear hb1
  go_wp2
  go_loopw [24] (fun v24 wr => ∃ i : Nat, i ≤ ln ∧ v24 = .int .i64 i ∧ Hid (Below w.heap.size w wr)) (fun v24 _ => ln - (RowKit.intOf v24).toNat)
  case atStart => exact ⟨0, Nat.zero_le _, rfl, hd1⟩
  case round =>
    obtain ⟨i, hi, rfl, hbr⟩ := hrel
    by_cases hlt : i < ln
    · obtain ⟨A, ⟨k1, rq1, rn1, rc1, kq1, kn1, kc1, x1⟩, hqA, hx, hon1, hcA⟩ := (hLL.out.below hbr.out (Nat.le_refl _)).at hlt
      subst hqA
      have hon1' : Hid (ContOn wr k1 rq1 rn1 rc1 kq1 kn1 kc1 x1) := hon1
      have hcell : Hid (∀ j x, ([.int .i64 k1, .slice rq1 rn1 rc1, .slice kq1 kn1 kc1] : List Value)[j]? = some x → wr.cell? ((A.add (i * 3)).add j) = some x) := hcA
      obtain ⟨A0, ⟨k2, rq2, rn2, rc2, kq2, kn2, kc2, x2⟩, hqA0, hx0, hon2, hcA0⟩ := (hLL.out.below hbr.out (Nat.le_refl _)).at (show 0 < ln by omega)
      cases hqA0
      have hon2' : Hid (ContOn wr k2 rq2 rn2 rc2 kq2 kn2 kc2 x2) := hon2
      have hcell0 : Hid (∀ j x, ([.int .i64 k2, .slice rq2 rn2 rc2, .slice kq2 kn2 kc2] : List Value)[j]? = some x → wr.cell? ((A.add (0 * 3)).add j) = some x) := hcA0
      have hsc1 := sizeCont (.int .i64 k1) (.slice rq1 rn1 rc1) (.slice kq1 kn1 kc1)
      have hsc2 := sizeCont (.int .i64 k2) (.slice rq2 rn2 rc2) (.slice kq2 kn2 kc2)
      obtain ⟨WA, hWA⟩ : ∃ W', wr.alloc (.cells #[.int .i64 k1, .slice rq1 rn1 rc1, .slice kq1 kn1 kc1] 27) = W' := ⟨_, rfl⟩
      have hbA := Lib.hid (one_box (xs := [.int .i64 k1, .slice rq1 rn1 rc1, .slice kq1 kn1 kc1]) hWA)
      have hdA := Lib.hid (below_step hbA.out.1 hbr.out)
      have cA := Lib.hid (hon1'.out.below hbA.out.1 (Nat.le_refl _))
      have c0 := Lib.hid (hon2'.out.below hbA.out.1 (Nat.le_refl _))
      have e0 : Hid (∀ u, Below WA.heap.size WA u → ∀ j x, ([.int .i64 k2, .slice rq2 rn2 rc2, .slice kq2 kn2 kc2] : List Value)[j]? = some x → u.cell? (A.add j) = some x) := fun u hu j x hj => by
        have h := cell_keeps (hbA.out.1.trans (hu.mono hbA.out.1.size)) (Nat.le_refl _) (hcell0.out j x hj)
        rwa [Nat.zero_mul, add0] at h
      have i0 : (0 : Int) ≤ i := by omega
      have i1 : (i : Int) < ln := by omega
      have i2 : (0 : Int) < ln := by omega
      have i3 : 0 < ln := by omega
      clear hx hon1 hcA hx0 hon2 hcA0
      by_cases h10 : i = 10
      · have d10 : ((i : Int) == 10) = true := by rw [beq_iff_eq]; omega
        clear h10
        go_wp2_with (first
          | (with_reducible refine wpList_load_at rfl 27 (.tmp 27) rfl Try.underlying27 rfl hsc1 rfl hcell.out ?_))
        clear hWA
        obtain ⟨wE, hwE⟩ : ∃ x, x = WA := ⟨_, rfl⟩
        have hbE := Lib.hid hdA.out
        clear hbA hdA cA c0 e0 hcell hcell0
        go_loopw [114] (fun v114 wr => ∃ j : Nat, j ≤ sn ∧ v114 = .int .i64 j ∧ Hid (Below w.heap.size w wr)) (fun v114 _ => sn - (RowKit.intOf v114).toNat)
        case atStart => exact ⟨0, Nat.zero_le _, rfl, hbE⟩
        case round =>
          obtain ⟨j, hj, rfl, hbj⟩ := hrel
          by_cases hlj : j < sn
          · obtain ⟨B, ⟨⟨t, id⟩, v, s⟩, hqB, hx, hok, hcB⟩ := (hRR.out.below hbj.out (Nat.le_refl _)).at hlj
            subst hqB
            have hcellB : Hid (∀ jj x, ([.int .i64 t, .int .u16 id, .int .i64 v, .string s] : List Value)[jj]? = some x → wr.cell? ((B.add (j * 4)).add jj) = some x) := hcB
            have hs1 := sizeRow t id v s
            have hsn := Lib.hid hok.note
            have hid := hok.key.id
            have hokS := Lib.hid (shortR_ok hok)
            have j0 : (0 : Int) ≤ j := by omega
            have j1 : (j : Int) < sn := by omega
            obtain ⟨W1, hW1⟩ : ∃ W', wr.alloc (.cells #[.int .i64 t, .int .u16 id, .int .i64 v, .string s] 42) = W' := ⟨_, rfl⟩
            have hbB := Lib.hid (one_box (xs := [.int .i64 t, .int .u16 id, .int .i64 v, .string s]) hW1)
            have hdB := Lib.hid (below_step hbB.out.1 hbj.out)
            clear hx hok hcB
            by_cases h20 : j = 20
            · have d20 : ((j : Int) == 20) = true := by rw [beq_iff_eq]; omega
              clear h20
              go_wp2_with (first
                | (with_reducible refine wpList_load_at rfl 42 (.tmp 117) rfl Try.underlying42 rfl hs1 rfl hcellB.out ?_))
              clear hW1
              go_ret
              exact ⟨rfl, hdB.out⟩
            · have d20 : ((j : Int) == 20) = false := by rw [beq_eq_false_iff_ne]; omega
              clear h20
              go_wp2_with (first
                | (with_reducible refine wpList_load_at rfl 42 (.tmp 117) rfl Try.underlying42 rfl hs1 rfl hcellB.out ?_)
                | (with_reducible refine wpList_load_at rfl 42 (.tmp 14) rfl Try.underlying42 rfl hs1 rfl hbB.out.2.1.all ?_))
              try rw [hW1]
              clear hW1
              refine (short_any t id v s W1 hsn.out).mono ?_
              rintro e w12 ⟨rfl, hb12⟩
              obtain ⟨S, hS⟩ : ∃ S, s.extract 0 (min s.size 9) = S := ⟨_, rfl⟩
              have hok2 : Hid (RowOk ⟨⟨t, id⟩, v, S⟩) := by have h := hokS.out; unfold shortR at h; rw [hS] at h; exact h
              rw [hS]
              have hd12 := Lib.hid (below_step hb12 hdB.out)
              clear hb12 hS hokS
              obtain ⟨W2, hW2⟩ : ∃ W', w12.alloc (.cells #[.int .i64 t, .int .u16 id, .int .i64 v, .string S] 42) = W' := ⟨_, rfl⟩
              have hbC := Lib.hid (one_box (xs := [.int .i64 t, .int .u16 id, .int .i64 v, .string S]) hW2)
              have hdC := Lib.hid (below_step hbC.out.1 hd12.out)
              have hs2 := sizeRow t id v S
              have hrr := Lib.hid (fun u => rightRow_any t id v S u)
              have hra := Lib.hid (fun u => row_any t id v S u hok2.out)
              have hca := Lib.hid (fun u => checkRow_any t id v S u hok2.out.note)
              obtain ⟨G, hG⟩ : ∃ G, okRow ⟨⟨t, id⟩, v, S⟩ = G := ⟨_, rfl⟩
              rw [hG] at hrr
              have hG' := Lib.hid hG
              clear hG
              go_wp2_with (first
                | (with_reducible refine wpList_load_at rfl 42 (.tmp 15) rfl Try.underlying42 rfl hs2 rfl hbC.out.2.1.all ?_))
              clear hW2
              refine (hrr.out _).mono ?_
              rintro e w13 ⟨rfl, hb13⟩
              have bx13 := Lib.hid (hbC.out.2.1.below hb13 (Nat.le_refl _))
              have hd13 := Lib.hid (below_step hb13 hdC.out)
              clear hb13 hrr
              go_wp2_with (first
                | (with_reducible refine wpList_load_at rfl 42 (.tmp 15) rfl Try.underlying42 rfl hs2 rfl bx13.out.all ?_))
              refine (hra.out _).mono ?_
              rintro e w14 ⟨q14, n14, cp14, er14, rfl, hr14, hb14⟩
              have bx14 := Lib.hid (bx13.out.below hb14 (Nat.le_refl _))
              have hd14 := Lib.hid (below_step hb14 hd13.out)
              clear hb14 hra
              cases G with
              | true =>
                have ht3 := okRow_tab hG'.out
                have h8 : S.size ≤ 8 := by have h := hG'.out; unfold okRow at h; rw [Bool.and_eq_true] at h; exact of_decide_eq_true h.2
                have hz := okRow_iff.1 hG'.out
                rw [hz] at hca
                rcases hr14 with ⟨rfl, _, ho14⟩ | ⟨_, hz2, _⟩
                rotate_left
                · rw [hz] at hz2; cases hz2
                have m14 := Lib.hid ho14.holds.1
                clear ho14 hz
                go_wp2_with (first
                  | (with_reducible refine wpList_load_at rfl 42 (.tmp 15) rfl Try.underlying42 rfl hs2 rfl bx14.out.all ?_))
                refine (hca.out _).mono ?_
                rintro e w15 ⟨rfl, hb15⟩
                have bx15 := Lib.hid (bx14.out.below hb15 (Nat.le_refl _))
                have hd15 := Lib.hid (below_step hb15 hd14.out)
                have m15 := Lib.hid (holds_below m14.out hb15 (Nat.le_refl _))
                clear hb15 hca m14 bx14 bx13
                have y0 := bx15.out.cell 0 rfl
                have y1 := bx15.out.cell 1 rfl
                have y2 := bx15.out.cell 2 rfl
                have y3 := bx15.out.cell 3 rfl
                go_wp2_with fail
                clear y0 y1 y2 y3
                refine (row_doc t id v S _ ht3.1 ht3.2 hid.1 hid.2 h8).mono ?_
                rintro e w16 ⟨q16, cp16, rfl, ho16, hb16⟩
                have m16 := Lib.hid ho16.holds.1
                have l15 := Lib.hid (holds_below m15.out hb16 (Nat.le_refl _))
                have hd16 := Lib.hid (below_step hb16 hd15.out)
                clear ho16 hb16
                go_wp2_with fail
                refine (equal_same l15.out m16.out).mono ?_
                rintro e w17 ⟨rfl, rfl⟩
                go_wp2
                go_roundw
                case rel => exact ⟨j + 1, by omega, by go_num, hd16⟩
                case measure => simp [RowKit.intOf]; omega
              | false =>
                have hz : chkRowC ⟨⟨t, id⟩, v, S⟩ = 151 := by
                  rcases chkRowC_or ⟨⟨t, id⟩, v, S⟩ with h | h
                  · have h2 := okRow_iff.2 h; rw [hG'.out] at h2; cases h2
                  · exact h
                rw [hz] at hca
                rcases hr14 with ⟨_, hz2, _⟩ | ⟨rfl, _, rfl⟩
                · rw [hz] at hz2; cases hz2
                clear hz
                go_wp2_with (first
                  | (with_reducible refine wpList_load_at rfl 42 (.tmp 15) rfl Try.underlying42 rfl hs2 rfl bx14.out.all ?_))
                refine (hca.out _).mono ?_
                rintro e w15 ⟨rfl, hb15⟩
                have hd15 := Lib.hid (below_step hb15 hd14.out)
                clear hb15 hca bx14 bx13
                go_wp2
                go_roundw
                case rel => exact ⟨j + 1, by omega, by go_num, hd15⟩
                case measure => simp [RowKit.intOf]; omega
          · obtain rfl : sn = j := by omega
            go_wp2
            go_ret
            exact ⟨rfl, hbj.out⟩
      · have d10 : ((i : Int) == 10) = false := by rw [beq_eq_false_iff_ne]; omega
        clear h10
        go_wp2_with (first
          | (with_reducible refine wpList_load_at rfl 27 (.tmp 27) rfl Try.underlying27 rfl hsc1 rfl hcell.out ?_))
        try rw [hWA]
        clear hWA
        refine wp_region_held (S := fun u => Below WA.heap.size WA u) (by kernel_rfl) ?_
        change wpAnyH _ _ _ _ _ _ _ _ (World.drew WA)
        have hS0 : Below WA.heap.size WA WA.drew := below_drew _
        refine held_take (i := 0) (dst := some 31) rfl rfl (by kernel_rfl) (by kernel_rfl) (by kernel_rfl) (fun _ _ _ h => h) (y_load_agg 27 (.tmp 6) rfl rfl rfl (fun u hu => run_loadVar_at Try.underlying27 rfl hsc1 _ ((hbA.out.2.1.below hu (Nat.le_refl _)).all))) hS0 ?_
        go_frame
        refine held_take (i := 2) (dst := some 33) (v := .slice (some A) ln lc) rfl rfl (by kernel_rfl) (by kernel_rfl) (by kernel_rfl) (fun _ _ _ h => h) (y_move (.tmp 0) rfl rfl rfl) hS0 ?_
        go_frame
        refine held_take (i := 3) (dst := some 34) (v := .pointer (some A)) rfl rfl (by kernel_rfl) (by kernel_rfl) (by kernel_rfl) (fun _ _ _ h => h) (.inl ⟨rfl, fun u hu => by go_simp⟩) hS0 ?_
        go_frame
        refine held_take (i := 4) (dst := some 35) rfl rfl (by kernel_rfl) (by kernel_rfl) (by kernel_rfl) (fun _ _ _ h => h) (y_load_agg 27 (.tmp 34) rfl rfl rfl (fun u hu => run_loadVar_at Try.underlying27 rfl hsc2 _ (e0.out u hu))) hS0 ?_
        go_frame
        refine held_four (i := 1) (j := 5) (p := 6) (q := 7) (fuel := 2) (L := fun bi bj bp bq => #[true, bi, true, true, true, bj, bp, bq, false, false]) (A := fun x y z u => putW (some 32) x (putW (some 36) y (putW (some 7) z (putW (some 8) u _)))) (K := ApK WA (fewC x1) (fewC x2)) rfl rfl rfl rfl (fun _ _ _ => rfl) (fun _ _ _ => rfl) (fun _ _ _ => rfl) (fun _ _ _ => rfl)
          (fun x y z v => rfl) (fun x y z v => putW_put (by decide) x _ v) (fun x y z v => (putW_put (by decide) x _ v).trans (congrArg _ (putW_put (by decide) y _ v))) (fun x y z v => (putW_put (by decide) x _ v).trans (congrArg _ ((putW_put (by decide) y _ v).trans (congrArg _ (putW_put (by decide) z _ v)))))
          (fun _ _ _ _ => rfl) (fun _ _ _ _ => rfl) (fun _ _ _ _ => rfl) (fun _ _ _ _ => rfl)
          (fun bi bj bp bq h1 h2 => by cases bi <;> cases bj <;> cases bp <;> cases bq <;> first | (exact absurd (h1 rfl) (by decide)) | (exact absurd h2 (by decide)) | kernel_rfl)
          ?si ?sj ?sp ?sq ?ends 4 none none none none WA.drew (fun h => h) rfl ⟨hS0, fun _ h => (by cases h), fun _ h => (by cases h), fun _ h => (by cases h), fun _ h => (by cases h), fun _ _ h => (by cases h)⟩
        case si =>
          intro z u v hk
          refine ⟨_, _, _, ?_, few_any k1 rq1 rn1 rc1 kq1 kn1 kc1 x1 v (cA.out.below hk.b (Nat.le_refl _)), ?_⟩
          · cases z <;> cases u <;> (simp only [putW]; go_simp)
          · rintro e w' ⟨k, rq, rn, rc, kq, kn, kc, rfl, hc, hb⟩
            exact ⟨_, rfl, hk.b.trans (hb.mono hk.b.size), ⟨hk.b.trans (hb.mono hk.b.size), fun X hX => (by cases hX; exact ⟨k, rq, rn, rc, kq, kn, kc, rfl, hc⟩), fun X hX => (hk.cy X hX).below hb, fun X hX => (hk.bz X hX).below hb, fun X hX => (hk.bu X hX).below hb, hk.ne⟩⟩
        case sj =>
          intro x z u v hk
          refine ⟨_, _, _, ?_, few_any k2 rq2 rn2 rc2 kq2 kn2 kc2 x2 v (c0.out.below hk.b (Nat.le_refl _)), ?_⟩
          · cases z <;> cases u <;> (simp only [putW]; go_simp)
          · rintro e w' ⟨k, rq, rn, rc, kq, kn, kc, rfl, hc, hb⟩
            exact ⟨_, rfl, hk.b.trans (hb.mono hk.b.size), ⟨hk.b.trans (hb.mono hk.b.size), fun X hX => (hk.cx X hX).below hb, fun X hX => (by cases hX; exact ⟨k, rq, rn, rc, kq, kn, kc, rfl, hc⟩), fun X hX => (hk.bz X hX).below hb, fun X hX => (hk.bu X hX).below hb, hk.ne⟩⟩
        case sp =>
          intro x y u v hk
          have hb : Below v.heap.size v (v.alloc (.cells boxC.toArray 27)) := (Below.refl _ _).alloc (Nat.le_refl _) _
          have hd := hk.b.alloc hk.b.size (.cells boxC.toArray 27)
          refine ⟨.pointer (some ⟨v.heap.size, 0, none⟩), v.alloc (.cells boxC.toArray 27), ?_, hd, hd, fun X hX => (hk.cx X hX).below hb, fun X hX => (hk.cy X hX).below hb, fun X hX => ?_, fun X hX => (hk.bu X hX).below hb, fun X Y hX hY => ?_⟩
          · cases x <;> cases y <;> cases u <;> (simp only [putW, boxC]; go_simp)
          · cases hX
            exact ⟨_, rfl, hk.b.size, by simp, RowV.made v boxC⟩
          · cases hX
            obtain ⟨b, rfl, _, h2, _⟩ := hk.bu Y hY
            intro e
            simp at e
            try omega
        case sq =>
          intro x y z v hk
          have hb : Below v.heap.size v (v.alloc (.cells boxC.toArray 27)) := (Below.refl _ _).alloc (Nat.le_refl _) _
          have hd := hk.b.alloc hk.b.size (.cells boxC.toArray 27)
          refine ⟨.pointer (some ⟨v.heap.size, 0, none⟩), v.alloc (.cells boxC.toArray 27), ?_, hd, hd, fun X hX => (hk.cx X hX).below hb, fun X hX => (hk.cy X hX).below hb, fun X hX => (hk.bz X hX).below hb, fun X hX => ?_, fun X Y hX hY => ?_⟩
          · cases x <;> cases y <;> cases z <;> (simp only [putW, boxC]; go_simp)
          · cases hX
            exact ⟨_, rfl, hk.b.size, by simp, RowV.made v boxC⟩
          · cases hY
            obtain ⟨b, rfl, _, h2, _⟩ := hk.bz X hX
            intro e
            simp at e
            try omega
        case ends =>
          intro x y z u v hk
          obtain ⟨k3, rq3, rn3, rc3, kq3, kn3, kc3, rfl, o1⟩ := hk.cx _ rfl
          obtain ⟨k4, rq4, rn4, rc4, kq4, kn4, kc4, rfl, o2⟩ := hk.cy _ rfl
          obtain ⟨b5, rfl, h51, h52, r5⟩ := hk.bz _ rfl
          obtain ⟨b6, rfl, h61, h62, r6⟩ := hk.bu _ rfl
          have hne : b5 ≠ b6 := fun e => hk.ne _ _ rfl rfl (by rw [e])
          obtain ⟨v', hrun, s5, g5⟩ := run_storeVar_at (P := Try.prog) (ty := 27) (vs := [.int .i64 k3, .slice rq3 rn3 rc3, .slice kq3 kn3 kc3]) r5 (sizeCont _ _ _) (Nat.le_refl _) (cont_one _ _ _ _ _ _ _)
          have d5 := Gr.below g5 hk.b h51
          have r6' := r6.gr g5 (fun e => hne e.symm)
          obtain ⟨v2, hrun2, s6, g6⟩ := run_storeVar_at (P := Try.prog) (ty := 27) (vs := [.int .i64 k4, .slice rq4 rn4 rc4, .slice kq4 kn4 kc4]) r6' (sizeCont _ _ _) (Nat.le_refl _) (cont_one _ _ _ _ _ _ _)
          have d6 := Gr.below g6 d5 h61
          refine held_skip (i := 8) (dst := none) rfl rfl (by kernel_rfl) rfl (run_store_op (x := .tmp 7) (y := .tmp 32) rfl rfl rfl hrun) d5 ?_
          refine held_skip (i := 9) (dst := none) rfl rfl (by kernel_rfl) rfl (run_store_op (x := .tmp 8) (y := .tmp 36) rfl rfl rfl hrun2) d6 ?_
          refine wpAnyH_done (by kernel_rfl) ?_ _
          simp only [putW]
          go_frame
          have t5 : RowV 27 v2 b5 [.int .i64 k3, .slice rq3 rn3 rc3, .slice kq3 kn3 kc3] := RowV.gr s5 g6 hne
          have t6 : RowV 27 v2 b6 [.int .i64 k4, .slice rq4 rn4 rc4, .slice kq4 kn4 kc4] := s6
          have B7 : Hid (Boxed v2 b5 [.int .i64 k3, .slice rq3 rn3 rc3, .slice kq3 kn3 kc3]) := t5.part (pre := []) (rest := []) (by simp) rfl
          have B8 : Hid (Boxed v2 b6 [.int .i64 k4, .slice rq4 rn4 rc4, .slice kq4 kn4 kc4]) := t6.part (pre := []) (rest := []) (by simp) rfl
          have hC : Hid (ContOn v2 k3 rq3 rn3 rc3 kq3 kn3 kc3 (fewC x1)) := (o1.store r5 g5).store r6' g6
          have hF : Hid (ContOn v2 k4 rq4 rn4 rc4 kq4 kn4 kc4 (fewC x2)) := (o2.store r5 g5).store r6' g6
          have B6 := Lib.hid (hbA.out.2.1.below d6 (Nat.le_refl _))
          have hX := Lib.hid (cA.out.below d6 (Nat.le_refl _))
          have hD := Lib.hid (below_step d6 hdA.out)
          have hsc3 := sizeCont (.int .i64 k3) (.slice rq3 rn3 rc3) (.slice kq3 kn3 kc3)
          have hsc4 := sizeCont (.int .i64 k4) (.slice rq4 rn4 rc4) (.slice kq4 kn4 kc4)
          clear hrun hrun2 s5 s6 g5 g6 r5 r6 r6' t5 t6 o1 o2 hk d5 d6 hbA hdA cA c0 e0 hcell hcell0 hS0 h51 h52 h61 h62 hne hon1' hon2'
          go_wp2_with (first
            | (with_reducible refine wpList_load_at rfl 27 (.tmp 7) rfl Try.underlying27 rfl hsc3 rfl B7.out.all ?_))
          refine (right_doc k3 rq3 rn3 rc3 kq3 kn3 kc3 (fewC x1) v2 hC.out).mono ?_
          rintro e w5 ⟨rt, rfl, hrt, hb5⟩
          have hrt' := Lib.hid hrt
          have B6b := Lib.hid (B6.out.below hb5 (Nat.le_refl _))
          have B7b := Lib.hid (B7.out.below hb5 (Nat.le_refl _))
          have B8b := Lib.hid (B8.out.below hb5 (Nat.le_refl _))
          have hXb := Lib.hid (hX.out.below hb5 (Nat.le_refl _))
          have hCb := Lib.hid (hC.out.below hb5 (Nat.le_refl _))
          have hFb := Lib.hid (hF.out.below hb5 (Nat.le_refl _))
          have hDb := Lib.hid (below_step hb5 hD.out)
          clear B6 B7 B8 hX hC hF hD
          clear hrt hb5
          go_wp2_with (first
            | (with_reducible refine wpList_load_at rfl 27 (.tmp 7) rfl Try.underlying27 rfl hsc3 rfl B7b.out.all ?_))
          refine (check_any k3 rq3 rn3 rc3 kq3 kn3 kc3 (fewC x1) w5 hCb.out).mono ?_
          rintro e w6 ⟨xe, rfl, hxe, hb6⟩
          have hxe' := Lib.hid hxe
          have B6c := Lib.hid (B6b.out.below hb6 (Nat.le_refl _))
          have B7c := Lib.hid (B7b.out.below hb6 (Nat.le_refl _))
          have B8c := Lib.hid (B8b.out.below hb6 (Nat.le_refl _))
          have hXc := Lib.hid (hXb.out.below hb6 (Nat.le_refl _))
          have hCc := Lib.hid (hCb.out.below hb6 (Nat.le_refl _))
          have hFc := Lib.hid (hFb.out.below hb6 (Nat.le_refl _))
          have hDc := Lib.hid (below_step hb6 hDb.out)
          clear B6b B7b B8b hXb hCb hFb hDb
          clear hxe hb6
          have hgo : Hid ((rt = true ∧ xe = 0 ∧ GoodC (fewC x1)) ∨ (rt = false ∧ xe = 160 ∧ ¬ GoodC (fewC x1))) := by
            show _ ∨ _
            rcases hxe'.out with ⟨h1, h2⟩ | ⟨h1, h2⟩
            · exact .inl ⟨hrt'.out.2 h2, h1, h2⟩
            · refine .inr ⟨?_, h1, h2⟩
              cases hrr : rt with
              | false => rfl
              | true => exact absurd (hrt'.out.1 hrr) h2
          obtain ⟨E, hE⟩ : ∃ E, sameC (fewC x1) (fewC x2) = E := ⟨_, rfl⟩
          have hsm1 : Hid (∀ u, Below w6.heap.size w6 u → Calls Try.prog 11 #[.agg #[.int .i64 k3, .slice rq3 rn3 rc3, .slice kq3 kn3 kc3], .agg #[.int .i64 k4, .slice rq4 rn4 rc4, .slice kq4 kn4 kc4]] u (fun e w' => e = .returned (.bool E) ∧ Below u.heap.size u w')) := fun u hu => by
            rw [← hE]
            exact same_c k3 rq3 rn3 rc3 kq3 kn3 kc3 _ k4 rq4 rn4 rc4 kq4 kn4 kc4 _ u (hCc.out.below hu (Nat.le_refl _)) (hFc.out.below hu (Nat.le_refl _))
          have hsm2 : Hid (∀ u, Below w6.heap.size w6 u → Calls Try.prog 12 #[.agg #[.int .i64 k3, .slice rq3 rn3 rc3, .slice kq3 kn3 kc3], .agg #[.int .i64 k4, .slice rq4 rn4 rc4, .slice kq4 kn4 kc4]] u (fun e w' => e = .returned (.bool E) ∧ Below u.heap.size u w')) := fun u hu => by
            rw [← hE]
            exact same_doc k3 rq3 rn3 rc3 kq3 kn3 kc3 _ k4 rq4 rn4 rc4 kq4 kn4 kc4 _ u (hCc.out.below hu (Nat.le_refl _)) (hFc.out.below hu (Nat.le_refl _))
          clear hE
          rcases hgo.out with ⟨rfl, rfl, hg⟩ | ⟨rfl, rfl, hg⟩
          · go_wp2
            refine wp_region_held (S := fun u => Below w6.heap.size w6 u) (by kernel_rfl) ?_
            change wpAnyH _ _ _ _ _ _ _ _ (World.drew w6)
            have hS0 : Below w6.heap.size w6 w6.drew := below_drew _
            refine held_take (i := 0) (dst := some 41) (v := .int .i64 0) rfl rfl (by kernel_rfl) (by kernel_rfl) (by kernel_rfl) (fun _ _ _ h => h) (y_move (.tmp 10) rfl rfl rfl) hS0 ?_
            go_frame
            refine held_take (i := 1) (dst := some 42) (v := .bool true) rfl rfl (by kernel_rfl) (by kernel_rfl) (by kernel_rfl) (fun _ _ _ h => h) (.inl ⟨rfl, fun u hu => by go_simp⟩) hS0 ?_
            go_frame
            refine held_take (i := 2) (dst := some 43) (v := .bool true) rfl rfl (by kernel_rfl) (by kernel_rfl) (by kernel_rfl) (fun _ _ _ h => h) (y_move (.tmp 9) rfl rfl rfl) hS0 ?_
            go_frame
            refine held_take (i := 3) (dst := some 44) (v := .bool false) rfl rfl (by kernel_rfl) (by kernel_rfl) (by kernel_rfl) (fun _ _ _ h => h) (.inl ⟨rfl, fun u hu => by go_simp⟩) hS0 ?_
            go_frame
            refine held_take (i := 4) (dst := some 45) (v := .bool false) rfl rfl (by kernel_rfl) (by kernel_rfl) (by kernel_rfl) (fun _ _ _ h => h) (y_move (.tmp 44) rfl rfl rfl) hS0 ?_
            go_frame
            refine held_take (i := 5) (dst := some 46) (v := .bool true) rfl rfl (by kernel_rfl) (by kernel_rfl) (by kernel_rfl) (fun _ _ _ h => h) (y_move (.tmp 9) rfl rfl rfl) hS0 ?_
            go_frame
            refine held_take (i := 6) (dst := some 47) (v := .bool false) rfl rfl (by kernel_rfl) (by kernel_rfl) (by kernel_rfl) (fun _ _ _ h => h) (.inl ⟨rfl, fun u hu => by go_simp⟩) hS0 ?_
            go_frame
            refine held_take (i := 7) (dst := some 48) (v := .bool false) rfl rfl (by kernel_rfl) (by kernel_rfl) (by kernel_rfl) (fun _ _ _ h => h) (y_move (.tmp 47) rfl rfl rfl) hS0 ?_
            go_frame
            refine held_take (i := 8) (dst := some 49) (v := undef) rfl rfl (by kernel_rfl) (by kernel_rfl) (by kernel_rfl) (fun _ _ _ h => h) (.inr ⟨rfl, rfl⟩) hS0 ?_
            go_frame
            refine held_take (i := 9) (dst := some 50) (v := undef) rfl rfl (by kernel_rfl) (by kernel_rfl) (by kernel_rfl) (fun _ _ _ h => h) (.inr ⟨rfl, rfl⟩) hS0 ?_
            go_frame
            refine held_take (i := 10) (dst := some 51) (v := .bool false) rfl rfl (by kernel_rfl) (by kernel_rfl) (by kernel_rfl) (fun _ _ _ h => h) (.inl ⟨rfl, fun u hu => by go_simp⟩) hS0 ?_
            go_frame
            refine held_take (i := 11) (dst := some 52) (v := .bool false) rfl rfl (by kernel_rfl) (by kernel_rfl) (by kernel_rfl) (fun _ _ _ h => h) (.inl ⟨rfl, fun u hu => by go_simp⟩) hS0 ?_
            go_frame
            refine held_take (i := 12) (dst := some 53) (v := .bool false) rfl rfl (by kernel_rfl) (by kernel_rfl) (by kernel_rfl) (fun _ _ _ h => h) (y_move (.tmp 52) rfl rfl rfl) hS0 ?_
            go_frame
            refine held_take (i := 13) (dst := some 54) rfl rfl (by kernel_rfl) (by kernel_rfl) (by kernel_rfl) (fun _ _ _ h => h) (y_load_agg 27 (.tmp 7) rfl rfl rfl (fun u hu => run_loadVar_at Try.underlying27 rfl hsc3 _ ((B7c.out.below hu (Nat.le_refl _)).all))) hS0 ?_
            go_frame
            refine held_take (i := 14) (dst := some 55) rfl rfl (by kernel_rfl) (by kernel_rfl) (by kernel_rfl) (fun _ _ _ h => h) (y_load_agg 27 (.tmp 8) rfl rfl rfl (fun u hu => run_loadVar_at Try.underlying27 rfl hsc4 _ ((B8c.out.below hu (Nat.le_refl _)).all))) hS0 ?_
            go_frame
            refine held_take (i := 16) (dst := some 57) rfl rfl (by kernel_rfl) (by kernel_rfl) (by kernel_rfl) (fun _ _ _ h => h) (y_load_agg 27 (.tmp 7) rfl rfl rfl (fun u hu => run_loadVar_at Try.underlying27 rfl hsc3 _ ((B7c.out.below hu (Nat.le_refl _)).all))) hS0 ?_
            go_frame
            refine held_take (i := 17) (dst := some 58) rfl rfl (by kernel_rfl) (by kernel_rfl) (by kernel_rfl) (fun _ _ _ h => h) (y_load_agg 27 (.tmp 8) rfl rfl rfl (fun u hu => run_loadVar_at Try.underlying27 rfl hsc4 _ ((B8c.out.below hu (Nat.le_refl _)).all))) hS0 ?_
            go_frame
            refine held_call (i := 15) (dst := some 56) rfl rfl (by kernel_rfl) rfl (by go_simp) (hsm1.out _ hS0) ?_
            rintro e u1 ⟨rfl, hb1⟩
            have hS1 := below_step hb1 hS0
            refine ⟨_, rfl, hS1, ?_⟩
            go_frame
            refine held_call (i := 18) (dst := some 59) rfl rfl (by kernel_rfl) rfl (by go_simp) (hsm2.out _ hS1) ?_
            rintro e u2 ⟨rfl, hb2⟩
            have hS2 := below_step hb2 hS1
            refine ⟨_, rfl, hS2, ?_⟩
            go_frame
            refine held_take (i := 19) (dst := some 60) (v := .bool false) rfl rfl (by kernel_rfl) (by kernel_rfl) (by kernel_rfl) (fun _ _ _ h => h) (.inl ⟨rfl, fun u hu => by go_simp⟩) hS2 ?_
            go_frame
            refine held_take (i := 20) (dst := some 61) (v := .bool false) rfl rfl (by kernel_rfl) (by kernel_rfl) (by kernel_rfl) (fun _ _ _ h => h) (.inl ⟨rfl, fun u hu => by go_simp⟩) hS2 ?_
            go_frame
            refine held_take (i := 21) (dst := some 62) (v := .bool false) rfl rfl (by kernel_rfl) (by kernel_rfl) (by kernel_rfl) (fun _ _ _ h => h) (y_move (.tmp 61) rfl rfl rfl) hS2 ?_
            go_frame
            refine held_take (i := 22) (dst := some 63) rfl rfl (by kernel_rfl) (by kernel_rfl) (by kernel_rfl) (fun _ _ _ h => h) (y_load_agg 27 (.tmp 7) rfl rfl rfl (fun u hu => run_loadVar_at Try.underlying27 rfl hsc3 _ ((B7c.out.below hu (Nat.le_refl _)).all))) hS2 ?_
            go_frame
            refine held_take (i := 23) (dst := some 64) rfl rfl (by kernel_rfl) (by kernel_rfl) (by kernel_rfl) (fun _ _ _ h => h) (y_load_agg 27 (.tmp 6) rfl rfl rfl (fun u hu => run_loadVar_at Try.underlying27 rfl hsc1 _ ((B6c.out.below hu (Nat.le_refl _)).all))) hS2 ?_
            go_frame
            refine held_call (i := 24) (dst := some 65) rfl rfl (by kernel_rfl) rfl (by go_simp) (few_any k1 rq1 rn1 rc1 kq1 kn1 kc1 x1 _ (hXc.out.below hS2 (Nat.le_refl _))) ?_
            rintro e u3 ⟨k7, rq7, rn7, rc7, kq7, kn7, kc7, rfl, o7, hb3⟩
            have hS3 := below_step hb3 hS2
            refine ⟨_, rfl, hS3, ?_⟩
            go_frame
            refine held_call (i := 25) (dst := some 66) rfl rfl (by kernel_rfl) rfl (by go_simp) (same_c k3 rq3 rn3 rc3 kq3 kn3 kc3 _ k7 rq7 rn7 rc7 kq7 kn7 kc7 _ _ (hCc.out.below hS3 (Nat.le_refl _)) o7) ?_
            rintro e u4 ⟨rfl, hb4⟩
            rw [fewC_idem]
            have hS4 := below_step hb4 hS3
            refine ⟨_, rfl, hS4, ?_⟩
            go_frame
            refine held_take (i := 26) (dst := some 67) (v := .bool false) rfl rfl (by kernel_rfl) (by kernel_rfl) (by kernel_rfl) (fun _ _ _ h => h) (.inl ⟨rfl, fun u hu => by go_simp⟩) hS4 ?_
            go_frame
            refine held_take (i := 27) (dst := some 68) (v := .bool false) rfl rfl (by kernel_rfl) (by kernel_rfl) (by kernel_rfl) (fun _ _ _ h => h) (.inl ⟨rfl, fun u hu => by go_simp⟩) hS4 ?_
            go_frame
            refine wpAnyH_done (by kernel_rfl) ?_ _
            have hbz := Lib.hid hS4
            obtain ⟨wz, hwz⟩ : ∃ x, x = u4 := ⟨_, rfl⟩
            subst hwz
            have hG := Lib.hid hg
            have B6d := Lib.hid (B6c.out.below hbz.out (Nat.le_refl _))
            have B7d := Lib.hid (B7c.out.below hbz.out (Nat.le_refl _))
            have B8d := Lib.hid (B8c.out.below hbz.out (Nat.le_refl _))
            have hXd := Lib.hid (hXc.out.below hbz.out (Nat.le_refl _))
            have hCd := Lib.hid (hCc.out.below hbz.out (Nat.le_refl _))
            have hFd := Lib.hid (hFc.out.below hbz.out (Nat.le_refl _))
            have hDd := Lib.hid (below_step hbz.out hDc.out)
            clear B6c B7c B8c hXc hCc hFc hDc
            clear hsm1 hsm2 hS0 hS1 hS2 hS3 hS4 hb1 hb2 hb3 hb4 o7 hbz hg hgo hxe' hrt'
            go_wp2_with (first
              | (with_reducible refine wpList_load_at rfl 27 (.tmp 7) rfl Try.underlying27 rfl hsc3 rfl B7d.out.all ?_))
            refine (content_any k3 rq3 rn3 rc3 kq3 kn3 kc3 (fewC x1) _ hCd.out).mono ?_
            rintro e w9 ⟨q9, n9, cp9, er9, rfl, hr9, hb9⟩
            have hb9' := Lib.hid hb9
            have B6e := Lib.hid (B6d.out.below hb9'.out (Nat.le_refl _))
            have B7e := Lib.hid (B7d.out.below hb9'.out (Nat.le_refl _))
            have B8e := Lib.hid (B8d.out.below hb9'.out (Nat.le_refl _))
            have hXe := Lib.hid (hXd.out.below hb9'.out (Nat.le_refl _))
            have hCe := Lib.hid (hCd.out.below hb9'.out (Nat.le_refl _))
            have hFe := Lib.hid (hFd.out.below hb9'.out (Nat.le_refl _))
            have hDe := Lib.hid (below_step hb9'.out hDd.out)
            clear B6d B7d B8d hXd hCd hFd hDd
            clear hb9 hb9'
            rcases hr9 with ⟨rfl, hg9, ho9⟩ | ⟨_, hg9, _⟩
            rotate_left
            · exact absurd hG.out hg9
            have m9 := Lib.hid ho9.holds.1
            have hn9 : n9 = (encC (fewC x1)).length := holds_len ho9.holds.1
            have hl9 := encC_len hG.out
            have h82 : n9 ≤ 82 := by omega
            have d82 : decide ((82 : Int) < (n9 : Int)) = false := decide_eq_false (by omega)
            have hby : Hid (∀ u, Below w9.heap.size w9 u → Calls Try.prog 15 #[.agg #[.int .i64 k3, .slice rq3 rn3 rc3, .slice kq3 kn3 kc3]] u (BytesDoc (fewC x1) u)) := fun u hu => bytes_doc k3 rq3 rn3 rc3 kq3 kn3 kc3 (fewC x1) u (hCe.out.below hu (Nat.le_refl _)) hG.out
            clear hg9 ho9 hn9 hl9
            go_wp2
            refine wp_region_held (S := fun u => Below w9.heap.size w9 u) (by kernel_rfl) ?_
            change wpAnyH _ _ _ _ _ _ _ _ (World.drew w9)
            have hS0 : Below w9.heap.size w9 w9.drew := below_drew _
            refine held_take (i := 0) (dst := some 74) (v := .bool true) rfl rfl (by kernel_rfl) (by kernel_rfl) (by kernel_rfl) (fun _ _ _ h => h) (y_move (.tmp 9) rfl rfl rfl) hS0 ?_
            go_frame
            refine held_take (i := 1) (dst := some 75) (v := .bool true) rfl rfl (by kernel_rfl) (by kernel_rfl) (by kernel_rfl) (fun _ _ _ h => h) (y_move (.tmp 74) rfl rfl rfl) hS0 ?_
            go_frame
            refine held_take (i := 2) (dst := some 76) (v := .int .i64 0) rfl rfl (by kernel_rfl) (by kernel_rfl) (by kernel_rfl) (fun _ _ _ h => h) (y_move (.tmp 12) rfl rfl rfl) hS0 ?_
            go_frame
            refine held_take (i := 3) (dst := some 77) (v := .bool false) rfl rfl (by kernel_rfl) (by kernel_rfl) (by kernel_rfl) (fun _ _ _ h => h) (.inl ⟨rfl, fun u hu => by go_simp⟩) hS0 ?_
            go_frame
            refine held_take (i := 4) (dst := some 78) (v := .bool false) rfl rfl (by kernel_rfl) (by kernel_rfl) (by kernel_rfl) (fun _ _ _ h => h) (y_move (.tmp 77) rfl rfl rfl) hS0 ?_
            go_frame
            refine held_take (i := 5) (dst := some 79) (v := .slice q9 n9 cp9) rfl rfl (by kernel_rfl) (by kernel_rfl) (by kernel_rfl) (fun _ _ _ h => h) (y_move (.tmp 11) rfl rfl rfl) hS0 ?_
            go_frame
            refine held_take (i := 6) (dst := some 80) rfl rfl (by kernel_rfl) (by kernel_rfl) (by kernel_rfl) (fun _ _ _ h => h) (y_load_agg 27 (.tmp 7) rfl rfl rfl (fun u hu => run_loadVar_at Try.underlying27 rfl hsc3 _ ((B7e.out.below hu (Nat.le_refl _)).all))) hS0 ?_
            go_frame
            refine held_call (i := 7) (dst := some 81) rfl rfl (by kernel_rfl) rfl (by go_simp) (hby.out _ hS0) ?_
            rintro e u1 ⟨q8, n8, cp8, rfl, o8, hb1⟩
            have hS1 := below_step hb1 hS0
            refine ⟨_, rfl, hS1, ?_⟩
            go_frame
            refine held_call (i := 8) (dst := some 82) rfl rfl (by kernel_rfl) rfl (by go_simp) (equal_same (holds_below m9.out hS1 (Nat.le_refl _)) o8.holds.1) ?_
            rintro e u2 ⟨rfl, rfl⟩
            refine ⟨_, rfl, hS1, ?_⟩
            go_frame
            refine held_take (i := 9) (dst := some 83) (v := .bool false) rfl rfl (by kernel_rfl) (by kernel_rfl) (by kernel_rfl) (fun _ _ _ h => h) (.inl ⟨rfl, fun u hu => by go_simp⟩) hS1 ?_
            go_frame
            refine held_take (i := 10) (dst := some 84) (v := .bool false) rfl rfl (by kernel_rfl) (by kernel_rfl) (by kernel_rfl) (fun _ _ _ h => h) (.inl ⟨rfl, fun u hu => by go_simp⟩) hS1 ?_
            go_frame
            refine held_take (i := 11) (dst := some 85) (v := .bool false) rfl rfl (by kernel_rfl) (by kernel_rfl) (by kernel_rfl) (fun _ _ _ h => h) (y_move (.tmp 84) rfl rfl rfl) hS1 ?_
            go_frame
            refine held_take (i := 12) (dst := some 86) (v := .slice q9 n9 cp9) rfl rfl (by kernel_rfl) (by kernel_rfl) (by kernel_rfl) (fun _ _ _ h => h) (y_move (.tmp 11) rfl rfl rfl) hS1 ?_
            go_frame
            refine held_take (i := 13) (dst := some 87) (v := .int .i64 n9) rfl rfl (by kernel_rfl) (by kernel_rfl) (by kernel_rfl) (fun _ _ _ h => h) (.inl ⟨rfl, fun u hu => by go_simp⟩) hS1 ?_
            go_frame
            refine held_take (i := 14) (dst := some 88) (v := .bool false) rfl rfl (by kernel_rfl) (by kernel_rfl) (by kernel_rfl) (fun _ _ _ h => h) (.inl ⟨rfl, fun u hu => by go_simp⟩) hS1 ?_
            go_frame
            refine held_take (i := 15) (dst := some 89) (v := .bool false) rfl rfl (by kernel_rfl) (by kernel_rfl) (by kernel_rfl) (fun _ _ _ h => h) (.inl ⟨rfl, fun u hu => by go_simp⟩) hS1 ?_
            go_frame
            refine held_take (i := 16) (dst := some 90) (v := .bool false) rfl rfl (by kernel_rfl) (by kernel_rfl) (by kernel_rfl) (fun _ _ _ h => h) (.inl ⟨rfl, fun u hu => by go_simp⟩) hS1 ?_
            go_frame
            refine held_take (i := 17) (dst := some 91) (v := .bool false) rfl rfl (by kernel_rfl) (by kernel_rfl) (by kernel_rfl) (fun _ _ _ h => h) (y_move (.tmp 90) rfl rfl rfl) hS1 ?_
            go_frame
            refine held_take (i := 18) (dst := some 92) (v := .bool true) rfl rfl (by kernel_rfl) (by kernel_rfl) (by kernel_rfl) (fun _ _ _ h => h) (y_move (.tmp 9) rfl rfl rfl) hS1 ?_
            go_frame
            refine held_take (i := 19) (dst := some 93) (v := .bool false) rfl rfl (by kernel_rfl) (by kernel_rfl) (by kernel_rfl) (fun _ _ _ h => h) (.inl ⟨rfl, fun u hu => by go_simp⟩) hS1 ?_
            go_frame
            refine held_take (i := 20) (dst := some 94) (v := .bool false) rfl rfl (by kernel_rfl) (by kernel_rfl) (by kernel_rfl) (fun _ _ _ h => h) (y_move (.tmp 93) rfl rfl rfl) hS1 ?_
            go_frame
            refine held_take (i := 21) (dst := some 95) (v := undef) rfl rfl (by kernel_rfl) (by kernel_rfl) (by kernel_rfl) (fun _ _ _ h => h) (.inr ⟨rfl, rfl⟩) hS1 ?_
            go_frame
            refine held_take (i := 22) (dst := some 96) (v := undef) rfl rfl (by kernel_rfl) (by kernel_rfl) (by kernel_rfl) (fun _ _ _ h => h) (.inr ⟨rfl, rfl⟩) hS1 ?_
            go_frame
            refine held_take (i := 23) (dst := some 97) (v := undef) rfl rfl (by kernel_rfl) (by kernel_rfl) (by kernel_rfl) (fun _ _ _ h => h) (.inr ⟨rfl, rfl⟩) hS1 ?_
            go_frame
            refine held_take (i := 24) (dst := some 98) (v := undef) rfl rfl (by kernel_rfl) (by kernel_rfl) (by kernel_rfl) (fun _ _ _ h => h) (.inr ⟨rfl, rfl⟩) hS1 ?_
            go_frame
            refine held_take (i := 25) (dst := some 99) (v := undef) rfl rfl (by kernel_rfl) (by kernel_rfl) (by kernel_rfl) (fun _ _ _ h => h) (.inr ⟨rfl, rfl⟩) hS1 ?_
            go_frame
            refine held_take (i := 26) (dst := some 100) (v := undef) rfl rfl (by kernel_rfl) (by kernel_rfl) (by kernel_rfl) (fun _ _ _ h => h) (.inr ⟨rfl, rfl⟩) hS1 ?_
            go_frame
            refine held_take (i := 27) (dst := some 101) (v := undef) rfl rfl (by kernel_rfl) (by kernel_rfl) (by kernel_rfl) (fun _ _ _ h => h) (.inr ⟨rfl, rfl⟩) hS1 ?_
            go_frame
            refine held_take (i := 28) (dst := some 102) (v := .bool false) rfl rfl (by kernel_rfl) (by kernel_rfl) (by kernel_rfl) (fun _ _ _ h => h) (.inl ⟨rfl, fun u hu => by go_simp⟩) hS1 ?_
            go_frame
            refine held_take (i := 29) (dst := some 103) (v := .bool false) rfl rfl (by kernel_rfl) (by kernel_rfl) (by kernel_rfl) (fun _ _ _ h => h) (.inl ⟨rfl, fun u hu => by go_simp⟩) hS1 ?_
            go_frame
            refine held_take (i := 30) (dst := some 104) (v := .bool false) rfl rfl (by kernel_rfl) (by kernel_rfl) (by kernel_rfl) (fun _ _ _ h => h) (y_move (.tmp 103) rfl rfl rfl) hS1 ?_
            go_frame
            refine held_take (i := 31) (dst := some 105) rfl rfl (by kernel_rfl) (by kernel_rfl) (by kernel_rfl) (fun _ _ _ h => h) (y_load_agg 27 (.tmp 7) rfl rfl rfl (fun u hu => run_loadVar_at Try.underlying27 rfl hsc3 _ ((B7e.out.below hu (Nat.le_refl _)).all))) hS1 ?_
            go_frame
            refine held_take (i := 32) (dst := some 106) rfl rfl (by kernel_rfl) (by kernel_rfl) (by kernel_rfl) (fun _ _ _ h => h) (y_load_agg 27 (.tmp 6) rfl rfl rfl (fun u hu => run_loadVar_at Try.underlying27 rfl hsc1 _ ((B6e.out.below hu (Nat.le_refl _)).all))) hS1 ?_
            go_frame
            refine held_call (i := 33) (dst := some 107) rfl rfl (by kernel_rfl) rfl (by go_simp) (few_any k1 rq1 rn1 rc1 kq1 kn1 kc1 x1 _ (hXe.out.below hS1 (Nat.le_refl _))) ?_
            rintro e u3 ⟨k7, rq7, rn7, rc7, kq7, kn7, kc7, rfl, o7, hb3⟩
            have hS3 := below_step hb3 hS1
            refine ⟨_, rfl, hS3, ?_⟩
            go_frame
            refine held_call (i := 34) (dst := some 108) rfl rfl (by kernel_rfl) rfl (by go_simp) (same_doc k3 rq3 rn3 rc3 kq3 kn3 kc3 _ k7 rq7 rn7 rc7 kq7 kn7 kc7 _ _ (hCe.out.below hS3 (Nat.le_refl _)) o7) ?_
            rintro e u4 ⟨rfl, hb4⟩
            rw [fewC_idem]
            have hS4 := below_step hb4 hS3
            refine ⟨_, rfl, hS4, ?_⟩
            go_frame
            refine held_take (i := 35) (dst := some 109) (v := .bool false) rfl rfl (by kernel_rfl) (by kernel_rfl) (by kernel_rfl) (fun _ _ _ h => h) (.inl ⟨rfl, fun u hu => by go_simp⟩) hS4 ?_
            go_frame
            refine held_take (i := 36) (dst := some 110) (v := .bool false) rfl rfl (by kernel_rfl) (by kernel_rfl) (by kernel_rfl) (fun _ _ _ h => h) (.inl ⟨rfl, fun u hu => by go_simp⟩) hS4 ?_
            go_frame
            refine wpAnyH_done (by kernel_rfl) ?_ _
            have hnew := Lib.hid (below_step hS4 hDe.out)
            clear hS0 hS3 hS4 hb3 hb4 o7 hS1 hb1 o8 hby m9
            go_wp2
            go_roundw
            case rel => exact ⟨i + 1, by omega, by go_num, hnew⟩
            case measure => simp [RowKit.intOf]; omega
          · go_wp2
            refine wp_region_held (S := fun u => Below w6.heap.size w6 u) (by kernel_rfl) ?_
            change wpAnyH _ _ _ _ _ _ _ _ (World.drew w6)
            have hS0 : Below w6.heap.size w6 w6.drew := below_drew _
            refine held_take (i := 0) (dst := some 41) (v := .int .i64 160) rfl rfl (by kernel_rfl) (by kernel_rfl) (by kernel_rfl) (fun _ _ _ h => h) (y_move (.tmp 10) rfl rfl rfl) hS0 ?_
            go_frame
            refine held_take (i := 1) (dst := some 42) (v := .bool false) rfl rfl (by kernel_rfl) (by kernel_rfl) (by kernel_rfl) (fun _ _ _ h => h) (.inl ⟨rfl, fun u hu => by go_simp⟩) hS0 ?_
            go_frame
            refine held_take (i := 2) (dst := some 43) (v := .bool false) rfl rfl (by kernel_rfl) (by kernel_rfl) (by kernel_rfl) (fun _ _ _ h => h) (y_move (.tmp 9) rfl rfl rfl) hS0 ?_
            go_frame
            refine held_take (i := 3) (dst := some 44) (v := .bool false) rfl rfl (by kernel_rfl) (by kernel_rfl) (by kernel_rfl) (fun _ _ _ h => h) (.inl ⟨rfl, fun u hu => by go_simp⟩) hS0 ?_
            go_frame
            refine held_take (i := 4) (dst := some 45) (v := .bool false) rfl rfl (by kernel_rfl) (by kernel_rfl) (by kernel_rfl) (fun _ _ _ h => h) (y_move (.tmp 44) rfl rfl rfl) hS0 ?_
            go_frame
            refine held_take (i := 5) (dst := some 46) (v := .bool false) rfl rfl (by kernel_rfl) (by kernel_rfl) (by kernel_rfl) (fun _ _ _ h => h) (y_move (.tmp 9) rfl rfl rfl) hS0 ?_
            go_frame
            refine held_take (i := 6) (dst := some 47) (v := .bool true) rfl rfl (by kernel_rfl) (by kernel_rfl) (by kernel_rfl) (fun _ _ _ h => h) (.inl ⟨rfl, fun u hu => by go_simp⟩) hS0 ?_
            go_frame
            refine held_take (i := 7) (dst := some 48) (v := .bool true) rfl rfl (by kernel_rfl) (by kernel_rfl) (by kernel_rfl) (fun _ _ _ h => h) (y_move (.tmp 47) rfl rfl rfl) hS0 ?_
            go_frame
            refine held_take (i := 8) (dst := some 49) (v := .int .i64 160) rfl rfl (by kernel_rfl) (by kernel_rfl) (by kernel_rfl) (fun _ _ _ h => h) (y_move (.tmp 10) rfl rfl rfl) hS0 ?_
            go_frame
            refine held_take (i := 9) (dst := some 50) (v := .bool false) rfl rfl (by kernel_rfl) (by kernel_rfl) (by kernel_rfl) (fun _ _ _ h => h) (.inl ⟨rfl, fun u hu => by go_simp⟩) hS0 ?_
            go_frame
            refine held_take (i := 10) (dst := some 51) (v := .bool false) rfl rfl (by kernel_rfl) (by kernel_rfl) (by kernel_rfl) (fun _ _ _ h => h) (.inl ⟨rfl, fun u hu => by go_simp⟩) hS0 ?_
            go_frame
            refine held_take (i := 11) (dst := some 52) (v := .bool false) rfl rfl (by kernel_rfl) (by kernel_rfl) (by kernel_rfl) (fun _ _ _ h => h) (.inl ⟨rfl, fun u hu => by go_simp⟩) hS0 ?_
            go_frame
            refine held_take (i := 12) (dst := some 53) (v := .bool false) rfl rfl (by kernel_rfl) (by kernel_rfl) (by kernel_rfl) (fun _ _ _ h => h) (y_move (.tmp 52) rfl rfl rfl) hS0 ?_
            go_frame
            refine held_take (i := 13) (dst := some 54) rfl rfl (by kernel_rfl) (by kernel_rfl) (by kernel_rfl) (fun _ _ _ h => h) (y_load_agg 27 (.tmp 7) rfl rfl rfl (fun u hu => run_loadVar_at Try.underlying27 rfl hsc3 _ ((B7c.out.below hu (Nat.le_refl _)).all))) hS0 ?_
            go_frame
            refine held_take (i := 14) (dst := some 55) rfl rfl (by kernel_rfl) (by kernel_rfl) (by kernel_rfl) (fun _ _ _ h => h) (y_load_agg 27 (.tmp 8) rfl rfl rfl (fun u hu => run_loadVar_at Try.underlying27 rfl hsc4 _ ((B8c.out.below hu (Nat.le_refl _)).all))) hS0 ?_
            go_frame
            refine held_take (i := 16) (dst := some 57) rfl rfl (by kernel_rfl) (by kernel_rfl) (by kernel_rfl) (fun _ _ _ h => h) (y_load_agg 27 (.tmp 7) rfl rfl rfl (fun u hu => run_loadVar_at Try.underlying27 rfl hsc3 _ ((B7c.out.below hu (Nat.le_refl _)).all))) hS0 ?_
            go_frame
            refine held_take (i := 17) (dst := some 58) rfl rfl (by kernel_rfl) (by kernel_rfl) (by kernel_rfl) (fun _ _ _ h => h) (y_load_agg 27 (.tmp 8) rfl rfl rfl (fun u hu => run_loadVar_at Try.underlying27 rfl hsc4 _ ((B8c.out.below hu (Nat.le_refl _)).all))) hS0 ?_
            go_frame
            refine held_call (i := 15) (dst := some 56) rfl rfl (by kernel_rfl) rfl (by go_simp) (hsm1.out _ hS0) ?_
            rintro e u1 ⟨rfl, hb1⟩
            have hS1 := below_step hb1 hS0
            refine ⟨_, rfl, hS1, ?_⟩
            go_frame
            refine held_call (i := 18) (dst := some 59) rfl rfl (by kernel_rfl) rfl (by go_simp) (hsm2.out _ hS1) ?_
            rintro e u2 ⟨rfl, hb2⟩
            have hS2 := below_step hb2 hS1
            refine ⟨_, rfl, hS2, ?_⟩
            go_frame
            refine held_take (i := 19) (dst := some 60) (v := .bool false) rfl rfl (by kernel_rfl) (by kernel_rfl) (by kernel_rfl) (fun _ _ _ h => h) (.inl ⟨rfl, fun u hu => by go_simp⟩) hS2 ?_
            go_frame
            refine held_take (i := 20) (dst := some 61) (v := .bool false) rfl rfl (by kernel_rfl) (by kernel_rfl) (by kernel_rfl) (fun _ _ _ h => h) (.inl ⟨rfl, fun u hu => by go_simp⟩) hS2 ?_
            go_frame
            refine held_take (i := 21) (dst := some 62) (v := .bool false) rfl rfl (by kernel_rfl) (by kernel_rfl) (by kernel_rfl) (fun _ _ _ h => h) (y_move (.tmp 61) rfl rfl rfl) hS2 ?_
            go_frame
            refine held_take (i := 22) (dst := some 63) rfl rfl (by kernel_rfl) (by kernel_rfl) (by kernel_rfl) (fun _ _ _ h => h) (y_load_agg 27 (.tmp 7) rfl rfl rfl (fun u hu => run_loadVar_at Try.underlying27 rfl hsc3 _ ((B7c.out.below hu (Nat.le_refl _)).all))) hS2 ?_
            go_frame
            refine held_take (i := 23) (dst := some 64) rfl rfl (by kernel_rfl) (by kernel_rfl) (by kernel_rfl) (fun _ _ _ h => h) (y_load_agg 27 (.tmp 6) rfl rfl rfl (fun u hu => run_loadVar_at Try.underlying27 rfl hsc1 _ ((B6c.out.below hu (Nat.le_refl _)).all))) hS2 ?_
            go_frame
            refine held_call (i := 24) (dst := some 65) rfl rfl (by kernel_rfl) rfl (by go_simp) (few_any k1 rq1 rn1 rc1 kq1 kn1 kc1 x1 _ (hXc.out.below hS2 (Nat.le_refl _))) ?_
            rintro e u3 ⟨k7, rq7, rn7, rc7, kq7, kn7, kc7, rfl, o7, hb3⟩
            have hS3 := below_step hb3 hS2
            refine ⟨_, rfl, hS3, ?_⟩
            go_frame
            refine held_call (i := 25) (dst := some 66) rfl rfl (by kernel_rfl) rfl (by go_simp) (same_c k3 rq3 rn3 rc3 kq3 kn3 kc3 _ k7 rq7 rn7 rc7 kq7 kn7 kc7 _ _ (hCc.out.below hS3 (Nat.le_refl _)) o7) ?_
            rintro e u4 ⟨rfl, hb4⟩
            rw [fewC_idem]
            have hS4 := below_step hb4 hS3
            refine ⟨_, rfl, hS4, ?_⟩
            go_frame
            refine held_take (i := 26) (dst := some 67) (v := .bool false) rfl rfl (by kernel_rfl) (by kernel_rfl) (by kernel_rfl) (fun _ _ _ h => h) (.inl ⟨rfl, fun u hu => by go_simp⟩) hS4 ?_
            go_frame
            refine held_take (i := 27) (dst := some 68) (v := .bool false) rfl rfl (by kernel_rfl) (by kernel_rfl) (by kernel_rfl) (fun _ _ _ h => h) (.inl ⟨rfl, fun u hu => by go_simp⟩) hS4 ?_
            go_frame
            refine wpAnyH_done (by kernel_rfl) ?_ _
            have hbz := Lib.hid hS4
            obtain ⟨wz, hwz⟩ : ∃ x, x = u4 := ⟨_, rfl⟩
            subst hwz
            have hG := Lib.hid hg
            have B6d := Lib.hid (B6c.out.below hbz.out (Nat.le_refl _))
            have B7d := Lib.hid (B7c.out.below hbz.out (Nat.le_refl _))
            have B8d := Lib.hid (B8c.out.below hbz.out (Nat.le_refl _))
            have hXd := Lib.hid (hXc.out.below hbz.out (Nat.le_refl _))
            have hCd := Lib.hid (hCc.out.below hbz.out (Nat.le_refl _))
            have hFd := Lib.hid (hFc.out.below hbz.out (Nat.le_refl _))
            have hDd := Lib.hid (below_step hbz.out hDc.out)
            clear B6c B7c B8c hXc hCc hFc hDc
            clear hsm1 hsm2 hS0 hS1 hS2 hS3 hS4 hb1 hb2 hb3 hb4 o7 hbz hg hgo hxe' hrt'
            go_wp2_with (first
              | (with_reducible refine wpList_load_at rfl 27 (.tmp 7) rfl Try.underlying27 rfl hsc3 rfl B7d.out.all ?_))
            refine (content_any k3 rq3 rn3 rc3 kq3 kn3 kc3 (fewC x1) _ hCd.out).mono ?_
            rintro e w9 ⟨q9, n9, cp9, er9, rfl, hr9, hb9⟩
            have hb9' := Lib.hid hb9
            have B6e := Lib.hid (B6d.out.below hb9'.out (Nat.le_refl _))
            have B7e := Lib.hid (B7d.out.below hb9'.out (Nat.le_refl _))
            have B8e := Lib.hid (B8d.out.below hb9'.out (Nat.le_refl _))
            have hXe := Lib.hid (hXd.out.below hb9'.out (Nat.le_refl _))
            have hCe := Lib.hid (hCd.out.below hb9'.out (Nat.le_refl _))
            have hFe := Lib.hid (hFd.out.below hb9'.out (Nat.le_refl _))
            have hDe := Lib.hid (below_step hb9'.out hDd.out)
            clear B6d B7d B8d hXd hCd hFd hDd
            clear hb9 hb9'
            rcases hr9 with ⟨_, hg9, _⟩ | ⟨rfl, hg9, rfl, rfl, rfl⟩
            · exact absurd hg9 hG.out
            clear hg9
            go_wp2
            refine wp_region_held (S := fun u => Below w9.heap.size w9 u) (by kernel_rfl) ?_
            change wpAnyH _ _ _ _ _ _ _ _ (World.drew w9)
            have hS0 : Below w9.heap.size w9 w9.drew := below_drew _
            refine held_take (i := 0) (dst := some 74) (v := .bool false) rfl rfl (by kernel_rfl) (by kernel_rfl) (by kernel_rfl) (fun _ _ _ h => h) (y_move (.tmp 9) rfl rfl rfl) hS0 ?_
            go_frame
            refine held_take (i := 1) (dst := some 75) (v := .bool false) rfl rfl (by kernel_rfl) (by kernel_rfl) (by kernel_rfl) (fun _ _ _ h => h) (y_move (.tmp 74) rfl rfl rfl) hS0 ?_
            go_frame
            refine held_take (i := 2) (dst := some 76) (v := undef) rfl rfl (by kernel_rfl) (by kernel_rfl) (by kernel_rfl) (fun _ _ _ h => h) (.inr ⟨rfl, rfl⟩) hS0 ?_
            go_frame
            refine held_take (i := 3) (dst := some 77) (v := undef) rfl rfl (by kernel_rfl) (by kernel_rfl) (by kernel_rfl) (fun _ _ _ h => h) (.inr ⟨rfl, rfl⟩) hS0 ?_
            go_frame
            refine held_take (i := 4) (dst := some 78) (v := undef) rfl rfl (by kernel_rfl) (by kernel_rfl) (by kernel_rfl) (fun _ _ _ h => h) (.inr ⟨rfl, rfl⟩) hS0 ?_
            go_frame
            refine held_take (i := 5) (dst := some 79) (v := undef) rfl rfl (by kernel_rfl) (by kernel_rfl) (by kernel_rfl) (fun _ _ _ h => h) (.inr ⟨rfl, rfl⟩) hS0 ?_
            go_frame
            refine held_take (i := 6) (dst := some 80) (v := undef) rfl rfl (by kernel_rfl) (by kernel_rfl) (by kernel_rfl) (fun _ _ _ h => h) (.inr ⟨rfl, rfl⟩) hS0 ?_
            go_frame
            refine held_take (i := 7) (dst := some 81) (v := undef) rfl rfl (by kernel_rfl) (by kernel_rfl) (by kernel_rfl) (fun _ _ _ h => h) (.inr ⟨rfl, rfl⟩) hS0 ?_
            go_frame
            refine held_take (i := 8) (dst := some 82) (v := undef) rfl rfl (by kernel_rfl) (by kernel_rfl) (by kernel_rfl) (fun _ _ _ h => h) (.inr ⟨rfl, rfl⟩) hS0 ?_
            go_frame
            refine held_take (i := 9) (dst := some 83) (v := undef) rfl rfl (by kernel_rfl) (by kernel_rfl) (by kernel_rfl) (fun _ _ _ h => h) (.inr ⟨rfl, rfl⟩) hS0 ?_
            go_frame
            refine held_take (i := 10) (dst := some 84) (v := undef) rfl rfl (by kernel_rfl) (by kernel_rfl) (by kernel_rfl) (fun _ _ _ h => h) (.inr ⟨rfl, rfl⟩) hS0 ?_
            go_frame
            refine held_take (i := 11) (dst := some 85) (v := undef) rfl rfl (by kernel_rfl) (by kernel_rfl) (by kernel_rfl) (fun _ _ _ h => h) (.inr ⟨rfl, rfl⟩) hS0 ?_
            go_frame
            refine held_take (i := 12) (dst := some 86) (v := undef) rfl rfl (by kernel_rfl) (by kernel_rfl) (by kernel_rfl) (fun _ _ _ h => h) (.inr ⟨rfl, rfl⟩) hS0 ?_
            go_frame
            refine held_take (i := 13) (dst := some 87) (v := undef) rfl rfl (by kernel_rfl) (by kernel_rfl) (by kernel_rfl) (fun _ _ _ h => h) (.inr ⟨rfl, rfl⟩) hS0 ?_
            go_frame
            refine held_take (i := 14) (dst := some 88) (v := undef) rfl rfl (by kernel_rfl) (by kernel_rfl) (by kernel_rfl) (fun _ _ _ h => h) (.inr ⟨rfl, rfl⟩) hS0 ?_
            go_frame
            refine held_take (i := 15) (dst := some 89) (v := undef) rfl rfl (by kernel_rfl) (by kernel_rfl) (by kernel_rfl) (fun _ _ _ h => h) (.inr ⟨rfl, rfl⟩) hS0 ?_
            go_frame
            refine held_take (i := 16) (dst := some 90) (v := .bool false) rfl rfl (by kernel_rfl) (by kernel_rfl) (by kernel_rfl) (fun _ _ _ h => h) (.inl ⟨rfl, fun u hu => by go_simp⟩) hS0 ?_
            go_frame
            refine held_take (i := 17) (dst := some 91) (v := .bool false) rfl rfl (by kernel_rfl) (by kernel_rfl) (by kernel_rfl) (fun _ _ _ h => h) (y_move (.tmp 90) rfl rfl rfl) hS0 ?_
            go_frame
            refine held_take (i := 18) (dst := some 92) (v := .bool false) rfl rfl (by kernel_rfl) (by kernel_rfl) (by kernel_rfl) (fun _ _ _ h => h) (y_move (.tmp 9) rfl rfl rfl) hS0 ?_
            go_frame
            refine held_take (i := 19) (dst := some 93) (v := .bool true) rfl rfl (by kernel_rfl) (by kernel_rfl) (by kernel_rfl) (fun _ _ _ h => h) (.inl ⟨rfl, fun u hu => by go_simp⟩) hS0 ?_
            go_frame
            refine held_take (i := 20) (dst := some 94) (v := .bool true) rfl rfl (by kernel_rfl) (by kernel_rfl) (by kernel_rfl) (fun _ _ _ h => h) (y_move (.tmp 93) rfl rfl rfl) hS0 ?_
            go_frame
            refine held_take (i := 21) (dst := some 95) (v := .int .i64 160) rfl rfl (by kernel_rfl) (by kernel_rfl) (by kernel_rfl) (fun _ _ _ h => h) (y_move (.tmp 12) rfl rfl rfl) hS0 ?_
            go_frame
            refine held_take (i := 22) (dst := some 96) (v := .bool false) rfl rfl (by kernel_rfl) (by kernel_rfl) (by kernel_rfl) (fun _ _ _ h => h) (.inl ⟨rfl, fun u hu => by go_simp⟩) hS0 ?_
            go_frame
            refine held_take (i := 23) (dst := some 97) (v := .bool false) rfl rfl (by kernel_rfl) (by kernel_rfl) (by kernel_rfl) (fun _ _ _ h => h) (y_move (.tmp 96) rfl rfl rfl) hS0 ?_
            go_frame
            refine held_take (i := 24) (dst := some 98) (v := .slice none 0 0) rfl rfl (by kernel_rfl) (by kernel_rfl) (by kernel_rfl) (fun _ _ _ h => h) (y_move (.tmp 11) rfl rfl rfl) hS0 ?_
            go_frame
            refine held_take (i := 25) (dst := some 99) (v := .int .i64 0) rfl rfl (by kernel_rfl) (by kernel_rfl) (by kernel_rfl) (fun _ _ _ h => h) (.inl ⟨rfl, fun u hu => by go_simp⟩) hS0 ?_
            go_frame
            refine held_take (i := 26) (dst := some 100) (v := .bool false) rfl rfl (by kernel_rfl) (by kernel_rfl) (by kernel_rfl) (fun _ _ _ h => h) (.inl ⟨rfl, fun u hu => by go_simp⟩) hS0 ?_
            go_frame
            refine held_take (i := 27) (dst := some 101) (v := .bool false) rfl rfl (by kernel_rfl) (by kernel_rfl) (by kernel_rfl) (fun _ _ _ h => h) (.inl ⟨rfl, fun u hu => by go_simp⟩) hS0 ?_
            go_frame
            refine held_take (i := 28) (dst := some 102) (v := .bool false) rfl rfl (by kernel_rfl) (by kernel_rfl) (by kernel_rfl) (fun _ _ _ h => h) (.inl ⟨rfl, fun u hu => by go_simp⟩) hS0 ?_
            go_frame
            refine held_take (i := 29) (dst := some 103) (v := .bool false) rfl rfl (by kernel_rfl) (by kernel_rfl) (by kernel_rfl) (fun _ _ _ h => h) (.inl ⟨rfl, fun u hu => by go_simp⟩) hS0 ?_
            go_frame
            refine held_take (i := 30) (dst := some 104) (v := .bool false) rfl rfl (by kernel_rfl) (by kernel_rfl) (by kernel_rfl) (fun _ _ _ h => h) (y_move (.tmp 103) rfl rfl rfl) hS0 ?_
            go_frame
            refine held_take (i := 31) (dst := some 105) rfl rfl (by kernel_rfl) (by kernel_rfl) (by kernel_rfl) (fun _ _ _ h => h) (y_load_agg 27 (.tmp 7) rfl rfl rfl (fun u hu => run_loadVar_at Try.underlying27 rfl hsc3 _ ((B7e.out.below hu (Nat.le_refl _)).all))) hS0 ?_
            go_frame
            refine held_take (i := 32) (dst := some 106) rfl rfl (by kernel_rfl) (by kernel_rfl) (by kernel_rfl) (fun _ _ _ h => h) (y_load_agg 27 (.tmp 6) rfl rfl rfl (fun u hu => run_loadVar_at Try.underlying27 rfl hsc1 _ ((B6e.out.below hu (Nat.le_refl _)).all))) hS0 ?_
            go_frame
            refine held_call (i := 33) (dst := some 107) rfl rfl (by kernel_rfl) rfl (by go_simp) (few_any k1 rq1 rn1 rc1 kq1 kn1 kc1 x1 _ (hXe.out.below hS0 (Nat.le_refl _))) ?_
            rintro e u3 ⟨k7, rq7, rn7, rc7, kq7, kn7, kc7, rfl, o7, hb3⟩
            have hS3 := below_step hb3 hS0
            refine ⟨_, rfl, hS3, ?_⟩
            go_frame
            refine held_call (i := 34) (dst := some 108) rfl rfl (by kernel_rfl) rfl (by go_simp) (same_doc k3 rq3 rn3 rc3 kq3 kn3 kc3 _ k7 rq7 rn7 rc7 kq7 kn7 kc7 _ _ (hCe.out.below hS3 (Nat.le_refl _)) o7) ?_
            rintro e u4 ⟨rfl, hb4⟩
            rw [fewC_idem]
            have hS4 := below_step hb4 hS3
            refine ⟨_, rfl, hS4, ?_⟩
            go_frame
            refine held_take (i := 35) (dst := some 109) (v := .bool false) rfl rfl (by kernel_rfl) (by kernel_rfl) (by kernel_rfl) (fun _ _ _ h => h) (.inl ⟨rfl, fun u hu => by go_simp⟩) hS4 ?_
            go_frame
            refine held_take (i := 36) (dst := some 110) (v := .bool false) rfl rfl (by kernel_rfl) (by kernel_rfl) (by kernel_rfl) (fun _ _ _ h => h) (.inl ⟨rfl, fun u hu => by go_simp⟩) hS4 ?_
            go_frame
            refine wpAnyH_done (by kernel_rfl) ?_ _
            have hnew := Lib.hid (below_step hS4 hDe.out)
            clear hS0 hS3 hS4 hb3 hb4 o7
            go_wp2
            go_roundw
            case rel => exact ⟨i + 1, by omega, by go_num, hnew⟩
            case measure => simp [RowKit.intOf]; omega
    · obtain rfl : ln = i := by omega
      have hbE := Lib.hid hbr.out
      go_wp2
      go_loopw [114] (fun v114 wr => ∃ j : Nat, j ≤ sn ∧ v114 = .int .i64 j ∧ Hid (Below w.heap.size w wr)) (fun v114 _ => sn - (RowKit.intOf v114).toNat)
      case atStart => exact ⟨0, Nat.zero_le _, rfl, hbE⟩
      case round =>
        obtain ⟨j, hj, rfl, hbj⟩ := hrel
        by_cases hlj : j < sn
        · obtain ⟨B, ⟨⟨t, id⟩, v, s⟩, hqB, hx, hok, hcB⟩ := (hRR.out.below hbj.out (Nat.le_refl _)).at hlj
          subst hqB
          have hcellB : Hid (∀ jj x, ([.int .i64 t, .int .u16 id, .int .i64 v, .string s] : List Value)[jj]? = some x → wr.cell? ((B.add (j * 4)).add jj) = some x) := hcB
          have hs1 := sizeRow t id v s
          have hsn := Lib.hid hok.note
          have hid := hok.key.id
          have hokS := Lib.hid (shortR_ok hok)
          have j0 : (0 : Int) ≤ j := by omega
          have j1 : (j : Int) < sn := by omega
          obtain ⟨W1, hW1⟩ : ∃ W', wr.alloc (.cells #[.int .i64 t, .int .u16 id, .int .i64 v, .string s] 42) = W' := ⟨_, rfl⟩
          have hbB := Lib.hid (one_box (xs := [.int .i64 t, .int .u16 id, .int .i64 v, .string s]) hW1)
          have hdB := Lib.hid (below_step hbB.out.1 hbj.out)
          clear hx hok hcB
          by_cases h20 : j = 20
          · have d20 : ((j : Int) == 20) = true := by rw [beq_iff_eq]; omega
            clear h20
            go_wp2_with (first
              | (with_reducible refine wpList_load_at rfl 42 (.tmp 117) rfl Try.underlying42 rfl hs1 rfl hcellB.out ?_))
            clear hW1
            go_ret
            exact ⟨rfl, hdB.out⟩
          · have d20 : ((j : Int) == 20) = false := by rw [beq_eq_false_iff_ne]; omega
            clear h20
            go_wp2_with (first
              | (with_reducible refine wpList_load_at rfl 42 (.tmp 117) rfl Try.underlying42 rfl hs1 rfl hcellB.out ?_)
              | (with_reducible refine wpList_load_at rfl 42 (.tmp 14) rfl Try.underlying42 rfl hs1 rfl hbB.out.2.1.all ?_))
            try rw [hW1]
            clear hW1
            refine (short_any t id v s W1 hsn.out).mono ?_
            rintro e w12 ⟨rfl, hb12⟩
            obtain ⟨S, hS⟩ : ∃ S, s.extract 0 (min s.size 9) = S := ⟨_, rfl⟩
            have hok2 : Hid (RowOk ⟨⟨t, id⟩, v, S⟩) := by have h := hokS.out; unfold shortR at h; rw [hS] at h; exact h
            rw [hS]
            have hd12 := Lib.hid (below_step hb12 hdB.out)
            clear hb12 hS hokS
            obtain ⟨W2, hW2⟩ : ∃ W', w12.alloc (.cells #[.int .i64 t, .int .u16 id, .int .i64 v, .string S] 42) = W' := ⟨_, rfl⟩
            have hbC := Lib.hid (one_box (xs := [.int .i64 t, .int .u16 id, .int .i64 v, .string S]) hW2)
            have hdC := Lib.hid (below_step hbC.out.1 hd12.out)
            have hs2 := sizeRow t id v S
            have hrr := Lib.hid (fun u => rightRow_any t id v S u)
            have hra := Lib.hid (fun u => row_any t id v S u hok2.out)
            have hca := Lib.hid (fun u => checkRow_any t id v S u hok2.out.note)
            obtain ⟨G, hG⟩ : ∃ G, okRow ⟨⟨t, id⟩, v, S⟩ = G := ⟨_, rfl⟩
            rw [hG] at hrr
            have hG' := Lib.hid hG
            clear hG
            go_wp2_with (first
              | (with_reducible refine wpList_load_at rfl 42 (.tmp 15) rfl Try.underlying42 rfl hs2 rfl hbC.out.2.1.all ?_))
            clear hW2
            refine (hrr.out _).mono ?_
            rintro e w13 ⟨rfl, hb13⟩
            have bx13 := Lib.hid (hbC.out.2.1.below hb13 (Nat.le_refl _))
            have hd13 := Lib.hid (below_step hb13 hdC.out)
            clear hb13 hrr
            go_wp2_with (first
              | (with_reducible refine wpList_load_at rfl 42 (.tmp 15) rfl Try.underlying42 rfl hs2 rfl bx13.out.all ?_))
            refine (hra.out _).mono ?_
            rintro e w14 ⟨q14, n14, cp14, er14, rfl, hr14, hb14⟩
            have bx14 := Lib.hid (bx13.out.below hb14 (Nat.le_refl _))
            have hd14 := Lib.hid (below_step hb14 hd13.out)
            clear hb14 hra
            cases G with
            | true =>
              have ht3 := okRow_tab hG'.out
              have h8 : S.size ≤ 8 := by have h := hG'.out; unfold okRow at h; rw [Bool.and_eq_true] at h; exact of_decide_eq_true h.2
              have hz := okRow_iff.1 hG'.out
              rw [hz] at hca
              rcases hr14 with ⟨rfl, _, ho14⟩ | ⟨_, hz2, _⟩
              rotate_left
              · rw [hz] at hz2; cases hz2
              have m14 := Lib.hid ho14.holds.1
              clear ho14 hz
              go_wp2_with (first
                | (with_reducible refine wpList_load_at rfl 42 (.tmp 15) rfl Try.underlying42 rfl hs2 rfl bx14.out.all ?_))
              refine (hca.out _).mono ?_
              rintro e w15 ⟨rfl, hb15⟩
              have bx15 := Lib.hid (bx14.out.below hb15 (Nat.le_refl _))
              have hd15 := Lib.hid (below_step hb15 hd14.out)
              have m15 := Lib.hid (holds_below m14.out hb15 (Nat.le_refl _))
              clear hb15 hca m14 bx14 bx13
              have y0 := bx15.out.cell 0 rfl
              have y1 := bx15.out.cell 1 rfl
              have y2 := bx15.out.cell 2 rfl
              have y3 := bx15.out.cell 3 rfl
              go_wp2_with fail
              clear y0 y1 y2 y3
              refine (row_doc t id v S _ ht3.1 ht3.2 hid.1 hid.2 h8).mono ?_
              rintro e w16 ⟨q16, cp16, rfl, ho16, hb16⟩
              have m16 := Lib.hid ho16.holds.1
              have l15 := Lib.hid (holds_below m15.out hb16 (Nat.le_refl _))
              have hd16 := Lib.hid (below_step hb16 hd15.out)
              clear ho16 hb16
              go_wp2_with fail
              refine (equal_same l15.out m16.out).mono ?_
              rintro e w17 ⟨rfl, rfl⟩
              go_wp2
              go_roundw
              case rel => exact ⟨j + 1, by omega, by go_num, hd16⟩
              case measure => simp [RowKit.intOf]; omega
            | false =>
              have hz : chkRowC ⟨⟨t, id⟩, v, S⟩ = 151 := by
                rcases chkRowC_or ⟨⟨t, id⟩, v, S⟩ with h | h
                · have h2 := okRow_iff.2 h; rw [hG'.out] at h2; cases h2
                · exact h
              rw [hz] at hca
              rcases hr14 with ⟨_, hz2, _⟩ | ⟨rfl, _, rfl⟩
              · rw [hz] at hz2; cases hz2
              clear hz
              go_wp2_with (first
                | (with_reducible refine wpList_load_at rfl 42 (.tmp 15) rfl Try.underlying42 rfl hs2 rfl bx14.out.all ?_))
              refine (hca.out _).mono ?_
              rintro e w15 ⟨rfl, hb15⟩
              have hd15 := Lib.hid (below_step hb15 hd14.out)
              clear hb15 hca bx14 bx13
              go_wp2
              go_roundw
              case rel => exact ⟨j + 1, by omega, by go_num, hd15⟩
              case measure => simp [RowKit.intOf]; omega
        · obtain rfl : sn = j := by omega
          go_wp2
          go_ret
          exact ⟨rfl, hbj.out⟩

set_option maxRecDepth 1000000 in
theorem lays_lifted (os : Os) (started : os.Started) (H : Type) (enc : TypeId × Value → H) :
    ReturnsInHanded {} Try.checked os 3 .any (Rows.codecLaysSpec.pre6 enc Try.prog Try.f3 Rows.codecLaysRow.domain false) (Rows.codecLaysSpec.post enc Try.prog Try.f3 false true false false) := by
  refine returnsInHanded_of_change (C := Try.checked) own started (by kernel_rfl) Try.func3
    (ChangeSpec.witness6 (enc := enc) (C := Try.checked) false ⟨#[], #[.slice none 0 0, .slice none 0 0], []⟩ 8 (by kernel_rfl) (by kernel_rfl) (by kernel_rfl) (by kernel_rfl)) ?_
  intro W base args ds gs before hval0 hW _ _
  have hval : ∀ (j : Nat) t v, Try.f3.params[j]? = some t → args[j]? = some v → Value.okWide Try.prog W .any base t v := hval0
  have hW' := hW
  obtain ⟨p, q, hA0, hV, rfl, _, _⟩ := hW
  have hA : DataW.TrodAll enc Try.prog W 0 (fun _ => true) true Try.f3.params.toList args.toList ds p := hA0
  rw [Try.params3] at hA hval
  obtain ⟨v0, v1, d0, d1, p0, p1, rfl, rfl, rfl, h0, h1⟩ := trodAll_two hA
  obtain ⟨rfl, rfl⟩ := trodVars_none hV
  obtain ⟨a0, len0, cap0, rfl⟩ := okWide_slice Try.underlying22 (hval 0 22 v0 rfl rfl)
  obtain ⟨l0, hl0⟩ := open_conts h0
  obtain ⟨a1, len1, cap1, rfl⟩ := okWide_slice Try.underlying23 (hval 1 23 v1 rfl rfl)
  obtain ⟨l1, hl1⟩ := open_rowsL h1
  refine (lays_law a0 len0 cap0 l0 a1 len1 cap1 l1 W hl0 hl1).mono fun e W' ⟨he, hb⟩ => ?_
  subst he
  exact ⟨_, rfl, law_post laidOut (of_decide_eq_true (by kernel_rfl)) rfl (by kernel_rfl) Try.underlying4 hW' ⟨rfl, rfl, rfl⟩ hb⟩

set_option maxRecDepth 1000000 in
theorem lays_holds : Rows.CodecLaysSaid :=
  OpenClaim.holds_of_wide 3 Try.f3 rfl rfl rfl rfl rfl rfl rfl ⟨rfl, rfl, rfl, rfl, rfl⟩ rfl rfl rfl rfl rfl (by kernel_rfl) Try.func3 (by kernel_rfl)
    (of_decide_eq_true (by kernel_rfl)) (by unfold Func.isWrapper; first | (rw [if_pos (by decide +kernel)]; kernel_rfl) | (rw [if_neg (by decide +kernel)]; exact ⟨rfl, rfl⟩))
    (fun os started H enc _ => lays_lifted os started H enc)
end Go.Proofs.Ytcniolmihpkmmaa
