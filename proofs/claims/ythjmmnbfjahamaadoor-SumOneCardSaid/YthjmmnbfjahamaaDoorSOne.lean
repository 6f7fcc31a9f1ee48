/- SumOne: for every two rows of bytes the law returns true, and its arguments read as they did, where the table of steps is laid as the program's text lays it. No other condition. -/
import Derived.Test.YthjmmnbfjahamaaDoorTied
import Derived.Test.YthjmmnbfjahamaaDoorTie
import Derived.Test.YthjmmnbfjahamaaDoorCards
namespace Go.Proofs.YthjmmnbfjahamaaDoor
open Go.ChangeShapes Go.WideShapes Go.ChangeAt Go.RowKit

theorem length_le4 (v : BitVec 32) : (le4 v).length = 4 := length_les 4 v
theorem ck_signed (l : List UInt8) : ck (l ++ le4 (crc l)) = 0 := by
  have h : (l ++ le4 (crc l)).length - 4 = l.length := by rw [List.length_append, length_le4]; omega
  unfold ck signed
  rw [h, List.drop_left, List.take_left, decide_eq_true (by rw [List.length_append, length_le4]; omega)]
  simp

theorem one_guard (p1 p2 : Option Addr) (n1 n2 c1 c2 : Nat) (w : World) (hL : Laid w) (h : 2000 < n1 ∨ (n1 ≤ 2000 ∧ 2000 < n2)) :
    Calls Tryd.prog 6 #[.slice p1 n1 c1, .slice p2 n2 c2] w (fun e w' => e = .returned (.bool true) ∧ Below w.heap.size w w') := by
  have hL1 := Lib.hid hL
  clear hL
  rcases h with h | ⟨h1, h⟩
  all_goals
    go_enter Tryd.func6, Tryd.ntmps6
    go_wp2_with fail
    refine (wakes_any w hL1.out).mono ?_
    rintro e w1 ⟨rfl, hb⟩
    have hb1 := Lib.hid hb
    clear hb
    go_wp2_with fail
    go_ret
    exact ⟨rfl, hb1.out⟩

set_option maxRecDepth 100000 in
set_option maxHeartbeats 2000000 in
theorem one_any (p1 p2 : Option Addr) (n1 n2 c1 c2 : Nat) (a b : List UInt8) (w : World) (hL : Laid w) (h1 : Lib.HoldsBytes w (.slice p1 n1 c1) a) (h2 : Lib.HoldsBytes w (.slice p2 n2 c2) b)
    (k1 : n1 ≤ c1) (k2 : n2 ≤ c2) (m1 : n1 ≤ 2000) (m2 : n2 ≤ 2000) :
    Calls Tryd.prog 6 #[.slice p1 n1 c1, .slice p2 n2 c2] w (fun e w' => e = .returned (.bool true) ∧ Below w.heap.size w w') := by
  have hL1 := Lib.hid hL
  have g1 := Lib.hid h1
  have g2 := Lib.hid h2
  have e1 := Lib.hid (holds_len h1)
  have ca := Lib.hid (ck_signed a)
  have cb := Lib.hid (ck_signed b)
  have cs := Lib.hid (ck_signed (a ++ le4 (crc a)))
  have sa := Lib.hid (crc_signed a)
  have sb := Lib.hid (crc_signed b)
  clear hL h1 h2
  go_enter Tryd.func6, Tryd.ntmps6
  go_wp2_with fail
  refine (wakes_any w hL1.out).mono ?_
  rintro e w1 ⟨rfl, hb⟩
  have hb1 := Lib.hid hb
  clear hb
  go_wp2_with fail
  refine (sign_any p1 n1 c1 a w1 (hL1.out.keep hb1.out hL1.out.size) (holds_below g1.out hb1.out (Nat.le_refl _)) (by omega) k1).mono ?_
  rintro e w2 ⟨q1, d1, rfl, ho, hb⟩
  have ho1 := Lib.hid ho
  have hb2 := Lib.hid (hb1.out.trans (hb.mono hb1.out.size))
  clear ho hb
  go_wp2_with fail
  refine (sign_any p2 n2 c2 b w2 (hL1.out.keep hb2.out hL1.out.size) (holds_below g2.out hb2.out (Nat.le_refl _)) (by omega) k2).mono ?_
  rintro e w3 ⟨q2, d2, rfl, ho, hb⟩
  have hx3 := Lib.hid (ho1.out.below hb)
  have hy3 := Lib.hid ho
  have hb3 := Lib.hid (hb2.out.trans (hb.mono hb2.out.size))
  clear ho hb ho1
  go_wp2_with fail
  refine (check_any q1 (n1 + 4) d1 _ w3 (hL1.out.keep hb3.out hL1.out.size) hx3.out.holds.1 (by omega) hx3.out.holds.2.1).mono ?_
  rintro e w4 ⟨rfl, hb⟩
  rw [ca.out]
  have hx4 := Lib.hid (hx3.out.below hb)
  have hy4 := Lib.hid (hy3.out.below hb)
  have hb4 := Lib.hid (hb3.out.trans (hb.mono hb3.out.size))
  clear hb hx3 hy3
  go_wp2_with fail
  refine (check_any q2 (n2 + 4) d2 _ w4 (hL1.out.keep hb4.out hL1.out.size) hy4.out.holds.1 (by omega) hy4.out.holds.2.1).mono ?_
  rintro e w5 ⟨rfl, hb⟩
  rw [cb.out]
  have hx5 := Lib.hid (hx4.out.below hb)
  have hy5 := Lib.hid (hy4.out.below hb)
  have hb5 := Lib.hid (hb4.out.trans (hb.mono hb4.out.size))
  clear hb hx4 hy4
  go_wp2_with fail
  refine (sign_any q1 (n1 + 4) d1 _ w5 (hL1.out.keep hb5.out hL1.out.size) hx5.out.holds.1 (by omega) hx5.out.holds.2.1).mono ?_
  rintro e w6 ⟨q3, d3, rfl, ho, hb⟩
  have hx6 := Lib.hid (hx5.out.below hb)
  have hy6 := Lib.hid (hy5.out.below hb)
  have hz6 := Lib.hid ho
  have hb6 := Lib.hid (hb5.out.trans (hb.mono hb5.out.size))
  clear ho hb hx5 hy5
  go_wp2_with fail
  refine (check_any q3 (n1 + 4 + 4) d3 _ w6 (hL1.out.keep hb6.out hL1.out.size) hz6.out.holds.1 (by omega) hz6.out.holds.2.1).mono ?_
  rintro e w7 ⟨rfl, hb⟩
  rw [cs.out]
  have hx7 := Lib.hid (hx6.out.below hb)
  have hy7 := Lib.hid (hy6.out.below hb)
  have hb7 := Lib.hid (hb6.out.trans (hb.mono hb6.out.size))
  clear hb hx6 hy6 hz6
  go_wp2_with fail
  refine (sum_any q1 (n1 + 4) d1 _ w7 (hL1.out.keep hb7.out hL1.out.size) hx7.out.holds.1 (by omega)).mono ?_
  rintro e w8 ⟨rfl, hb⟩
  rw [sa.out]
  have hx8 := Lib.hid (hx7.out.below hb)
  have hy8 := Lib.hid (hy7.out.below hb)
  have hb8 := Lib.hid (hb7.out.trans (hb.mono hb7.out.size))
  clear hb hx7 hy7
  go_wp2_with fail
  refine (sum_any q2 (n2 + 4) d2 _ w8 (hL1.out.keep hb8.out hL1.out.size) hy8.out.holds.1 (by omega)).mono ?_
  rintro e w9 ⟨rfl, hb⟩
  rw [sb.out]
  have hx9 := Lib.hid (hx8.out.below hb)
  have hb9 := Lib.hid (hb8.out.trans (hb.mono hb8.out.size))
  have hle := hx9.out.holds.2.1
  clear hb hx8 hy8
  have hv9 := Lib.hid (holds_take (k := n1) hx9.out.holds.1 (Below.refl _ _) (by omega))
  rw [e1.out, List.take_left, ← e1.out] at hv9
  go_wp2_with fail
  refine (equal_any q1 p1 n1 d1 n1 c1 a a w9 hv9.out (holds_below g1.out hb9.out (Nat.le_refl _))).mono ?_
  rintro e w10 ⟨rfl, rfl⟩
  have same : (a == a) = true := by rw [beq_iff_eq]
  go_wp2_with fail
  go_ret
  exact ⟨rfl, hb9.out⟩

theorem one_lifted (os : Os) (started : os.Started) (H : Type) (enc : TypeId × Value → H) :
    ReturnsInHanded {} Tryd.checked os 6 .any (fun w args => (Rows.sumOneSpec.pre enc Tryd.prog Tryd.f6 [] false w args ∧ laidMetH Tryd.prog [("bursary/sum.steps", Rows.laid_bursary_sum_steps)] w) ∧ sizedMet enc Tryd.prog Tryd.f6 (OpenSpec.ofChange Rows.sumOneSpec) false w args)
      (Rows.sumOneSpec.post enc Tryd.prog Tryd.f6 false true false false) := by
  refine returnsInHanded_of_change_and (C := Tryd.checked) (X := fun w _ => laidMetH Tryd.prog [("bursary/sum.steps", Rows.laid_bursary_sum_steps)] w) (fun _ _ _ hh h => h.of_heap hh) own started (by kernel_rfl) Tryd.func6
    (ChangeSpec.witness_shaped (enc := enc) (C := Tryd.checked) (os := os) (X := fun w _ => laidMetH Tryd.prog [("bursary/sum.steps", Rows.laid_bursary_sum_steps)] w) false (World.doorLaid Tryd.prog 400 os) #[.slice none 0 0, .slice none 0 0] 8 rfl (World.shaped_of_RefB (by kernel_rfl) (by kernel_rfl)) (by kernel_rfl) (by kernel_rfl) (by kernel_rfl) (door_met os _)) ?_
  intro W base args ds gs before hval0 hW _ _ hL _
  have hval : ∀ (j : Nat) t v, Tryd.f6.params[j]? = some t → args[j]? = some v → Value.okWide Tryd.prog W .any base t v := hval0
  have hW' := hW
  obtain ⟨p, q, hA0, hV, rfl, _, _⟩ := hW
  have hA : DataW.TrodAll enc Tryd.prog W 0 (fun _ => true) true Tryd.f6.params.toList args.toList ds p := hA0
  rw [Tryd.params6] at hA hval
  obtain ⟨v0, v1, d0, d1, q0, q1, rfl, rfl, rfl, h0, h1⟩ := trodAll_two hA
  obtain ⟨rfl, rfl⟩ := trodVars_none hV
  have hT := of_laid hL
  obtain ⟨a0, len0, cap0, rfl⟩ := okWide_slice Tryd.underlying22 (hval 0 22 v0 rfl rfl)
  obtain ⟨l0, hl0, hlen0, hcap0⟩ := open_bytes h0
  obtain ⟨a1, len1, cap1, rfl⟩ := okWide_slice Tryd.underlying22 (hval 1 22 v1 rfl rfl)
  obtain ⟨l1, hl1, hlen1, hcap1⟩ := open_bytes h1
  have key : Calls Tryd.prog 6 #[.slice a0 len0 cap0, .slice a1 len1 cap1] W (fun e w' => e = .returned (.bool true) ∧ Below W.heap.size W w') := by
    by_cases hg : len0 ≤ 2000 ∧ len1 ≤ 2000
    · exact one_any a0 a1 len0 len1 cap0 cap1 l0 l1 W hT hl0 hl1 hcap0 hcap1 hg.1 hg.2
    · exact one_guard a0 a1 len0 len1 cap0 cap1 W hT (by omega)
  refine (key).mono fun e W' ⟨he, hb⟩ => ?_
  subst he
  exact ⟨_, rfl, law_post laidOut (of_decide_eq_true (by kernel_rfl)) rfl (by kernel_rfl) Tryd.underlying4 hW' ⟨rfl, rfl, rfl⟩ hb⟩

theorem one_said : Rows.SumOneSaid :=
  OpenClaim.holds_of_wide 6 Tryd.f6 rfl rfl rfl rfl rfl rfl rfl ⟨rfl, rfl, rfl, rfl, rfl⟩ rfl rfl rfl rfl rfl (by kernel_rfl) Tryd.func6 (by kernel_rfl)
    (of_decide_eq_true (by kernel_rfl)) (by unfold Func.isWrapper; first | (rw [if_pos (by decide +kernel)]; kernel_rfl) | (rw [if_neg (by decide +kernel)]; exact ⟨rfl, rfl⟩))
    (fun os started H enc _ => one_lifted os started H enc)

theorem one_holds : Rows.SumOneCardSaid :=
  Claim7.holds_tied_plain_at .later [] [.data] true Rows.sumOneCard.stood.harness false
    one_said (fun _ h => by cases h) (by kernel_rfl) (fun _ h => by cases h) sumOne_row_tie rfl ⟨rfl, rfl⟩ (by kernel_rfl) rfl
    (fun f fn hf hfn => by
      obtain rfl : f = 6 := Option.some.inj ((show Tryd.prog.funcNamed "bursary/bursarylaw03.SumOne" = some 6 by kernel_rfl).symm.trans hf) |>.symm
      obtain rfl : fn = Tryd.f6 := (Option.some.inj (Tryd.func6.symm.trans hfn)).symm
      exact ⟨by kernel_rfl, fun j t ht => by
        rw [Tryd.params6] at ht
        have hm : t ∈ [22] := by simpa using Array.mem_of_getElem? ht
        have hall : ([22].all fun u => !Tryd.prog.wantsStandIn u) = true := by kernel_rfl
        exact (show Tryd.prog.wantsStandIn t = false by simpa using List.all_eq_true.1 hall t hm)⟩)
    (by kernel_rfl)

end Go.Proofs.YthjmmnbfjahamaaDoor
