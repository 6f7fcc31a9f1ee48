/- SumDivides: for every two rows of bytes the law returns true, and its arguments read as they did, where the table of steps is laid as the program's text lays it. No other condition. -/
import Derived.Test.YthjmmnbfjahamaaDoorSame
import Derived.Test.YthjmmnbfjahamaaDoorSRefSum
import Derived.Test.YthjmmnbfjahamaaDoorTie
import Derived.Test.YthjmmnbfjahamaaDoorCards
namespace Go.Proofs.YthjmmnbfjahamaaDoor
open Go.ChangeShapes Go.WideShapes Go.ChangeAt Go.RowKit

theorem divides_guard (p1 p2 : Option Addr) (n1 n2 c1 c2 : Nat) (w : World) (hL : Laid w) (h : 500 < n1 ∨ (n1 ≤ 500 ∧ 500 < n2)) :
    Calls Tryd.prog 3 #[.slice p1 n1 c1, .slice p2 n2 c2] w (fun e w' => e = .returned (.bool true) ∧ Below w.heap.size w w') := by
  have hL1 := Lib.hid hL
  clear hL
  rcases h with h | ⟨h1, h⟩
  all_goals
    go_enter Tryd.func3, Tryd.ntmps3
    go_wp2_with fail
    refine (wakes_any w hL1.out).mono ?_
    rintro e w1 ⟨rfl, hb⟩
    have hb1 := Lib.hid hb
    clear hb
    go_wp2_with fail
    go_ret
    exact ⟨rfl, hb1.out⟩

set_option maxRecDepth 100000 in
set_option maxHeartbeats 2000000 in
theorem divides_any (p1 p2 : Option Addr) (n1 n2 c1 c2 : Nat) (a b : List UInt8) (w : World) (hL : Laid w) (h1 : Lib.HoldsBytes w (.slice p1 n1 c1) a) (h2 : Lib.HoldsBytes w (.slice p2 n2 c2) b)
    (m1 : n1 ≤ 500) (m2 : n2 ≤ 500) :
    Calls Tryd.prog 3 #[.slice p1 n1 c1, .slice p2 n2 c2] w (fun e w' => e = .returned (.bool true) ∧ Below w.heap.size w w') := by
  have hL1 := Lib.hid hL
  have g1 := Lib.hid h1
  have g2 := Lib.hid h2
  clear hL h1 h2
  go_enter Tryd.func3, Tryd.ntmps3
  go_wp2_with fail
  refine (wakes_any w hL1.out).mono ?_
  rintro e w1 ⟨rfl, hb⟩
  have hb1 := Lib.hid hb
  clear hb
  have ho0 : ∀ W : World, Own (W.alloc (.cells #[] 5)) W.heap.size (.slice (some ⟨W.heap.size, 0, none⟩) 0 0) [] := fun W => Own.made (n := 0) (Nat.zero_le _)
  have ho0 := Lib.hid ho0
  go_wp2_with (first
    | (refine wpList_append_bytes rfl (.tmp 17) (.tmp 18) rfl rfl rfl (ho0.out w1) (holds_below g1.out (hb1.out.alloc hb1.out.size (.cells #[] 5)) (Nat.le_refl _)) (by omega) (by simp) ?_; intro q3 c3 w3 ho3 hg3
       obtain ⟨x1, x2, x3⟩ := own_copy hb1.out ho3 hg3
       have hb3 := Lib.hid x1
       have hO3 := Lib.hid x2
       clear x1 x2 x3 ho3 hg3)
    | (refine wpList_append_bytes rfl (.tmp 20) (.tmp 21) rfl rfl rfl (ho0.out w3) (holds_below g1.out (hb3.out.alloc hb3.out.size (.cells #[] 5)) (Nat.le_refl _)) (by omega) (by simp) ?_; intro q4 c4 w4 ho4 hg4
       obtain ⟨x1, x2, x3⟩ := own_copy hb3.out ho4 hg4
       have hb4 := Lib.hid x1
       have hA4 := Lib.hid x2
       have hO4 := Lib.hid (hO3.out.below x3)
       have hs4 := Lib.hid x3.size
       have hl3 := Lib.hid (fun x hx => (hO3.out.holds.2.2 x hx).2)
       clear x1 x2 x3 ho4 hg4 hO3)
    | (refine wpList_append_bytes rfl (.tmp 22) (.tmp 23) rfl rfl rfl hA4.out (holds_below g2.out hb4.out (Nat.le_refl _)) (by omega) hs4.out ?_; intro q5 c5 w5 ho5 hg5))
  have hA5 := Lib.hid ho5
  have hb5 := Lib.hid (hb4.out.grown hg5 hb4.out.size (fun j e => by
    unfold blockOf at e
    cases q4 with
    | none => cases e
    | some b => cases e; exact Nat.le_trans hb3.out.size (hA4.out.holds.2.2 b rfl).1))
  have hO5 : Hid (Own w5 w1.heap.size (.slice q3 n1 c3) a) := hO4.out.kept (fun x hx => by
    have hx3 := hl3.out x hx
    refine hg5.block _ (Nat.lt_of_lt_of_le hx3 hs4.out) ?_
    unfold blockOf
    cases q4 with
    | none => simp
    | some b =>
      have := (hA4.out.holds.2.2 b rfl).1
      simp; omega)
  have hcr := Lib.hid (crc_append a b)
  clear ho5 hg5 hA4 hO4 hl3
  refine (sum_any p1 n1 c1 a w5 (hL1.out.keep hb5.out hL1.out.size) (holds_below g1.out hb5.out (Nat.le_refl _)) (by omega)).mono ?_
  rintro e w6 ⟨rfl, hb⟩
  have hb6 := Lib.hid (hb5.out.trans (hb.mono hb5.out.size))
  have hO6 := Lib.hid (hO5.out.below hb)
  have hA6 := Lib.hid (hA5.out.below hb)
  clear hb hO5 hA5
  go_wp2_with fail
  refine (refsum_any p1 n1 c1 a w6 (holds_below g1.out hb6.out (Nat.le_refl _)) (by omega)).mono ?_
  rintro e w7 ⟨rfl, hb⟩
  have hb7 := Lib.hid (hb6.out.trans (hb.mono hb6.out.size))
  have hO7 := Lib.hid (hO6.out.below hb)
  have hA7 := Lib.hid (hA6.out.below hb)
  clear hb hO6 hA6
  go_wp2_with fail
  refine (sum_any p1 n1 c1 a w7 (hL1.out.keep hb7.out hL1.out.size) (holds_below g1.out hb7.out (Nat.le_refl _)) (by omega)).mono ?_
  rintro e w8 ⟨rfl, hb⟩
  have hb8 := Lib.hid (hb7.out.trans (hb.mono hb7.out.size))
  have hO8 := Lib.hid (hO7.out.below hb)
  have hA8 := Lib.hid (hA7.out.below hb)
  clear hb hO7 hA7
  go_wp2_with fail
  refine (join_any (crc a) p2 n2 c2 b w8 (hL1.out.keep hb8.out hL1.out.size) (holds_below g2.out hb8.out (Nat.le_refl _)) (by omega)).mono ?_
  rintro e w9 ⟨rfl, hb⟩
  rw [← hcr.out]
  have hb9 := Lib.hid (hb8.out.trans (hb.mono hb8.out.size))
  have hO9 := Lib.hid (hO8.out.below hb)
  have hA9 := Lib.hid (hA8.out.below hb)
  clear hb hO8 hA8
  go_wp2_with fail
  refine (refsum_any q5 (n1 + n2) c5 (a ++ b) w9 hA9.out.holds.1 (by omega)).mono ?_
  rintro e w10 ⟨rfl, hb⟩
  have hb10 := Lib.hid (hb9.out.trans (hb.mono hb9.out.size))
  have hO10 := Lib.hid (hO9.out.below hb)
  clear hb hO9 hA9
  go_wp2_with fail
  refine (same_below p1 q3 n1 c1 n1 c3 a a w10 (holds_below g1.out hb10.out (Nat.le_refl _)) hO10.out.holds.1 (by omega)).mono ?_
  rintro e w11 ⟨rfl, hb⟩
  have hb11 := Lib.hid (hb10.out.trans (hb.mono hb10.out.size))
  have same1 : (a == a) = true := by rw [beq_iff_eq]
  clear hb
  go_wp2_with fail
  go_ret
  exact ⟨rfl, hb11.out⟩

theorem divides_lifted (os : Os) (started : os.Started) (H : Type) (enc : TypeId × Value → H) :
    ReturnsInHanded {} Tryd.checked os 3 .any (fun w args => (Rows.sumDividesSpec.pre enc Tryd.prog Tryd.f3 [] false w args ∧ laidMetH Tryd.prog [("bursary/sum.steps", Rows.laid_bursary_sum_steps)] w) ∧ sizedMet enc Tryd.prog Tryd.f3 (OpenSpec.ofChange Rows.sumDividesSpec) false w args)
      (Rows.sumDividesSpec.post enc Tryd.prog Tryd.f3 false true false false) := by
  refine returnsInHanded_of_change_and (C := Tryd.checked) (X := fun w _ => laidMetH Tryd.prog [("bursary/sum.steps", Rows.laid_bursary_sum_steps)] w) (fun _ _ _ hh h => h.of_heap hh) own started (by kernel_rfl) Tryd.func3
    (ChangeSpec.witness_shaped (enc := enc) (C := Tryd.checked) (os := os) (X := fun w _ => laidMetH Tryd.prog [("bursary/sum.steps", Rows.laid_bursary_sum_steps)] w) false (World.doorLaid Tryd.prog 400 os) #[.slice none 0 0, .slice none 0 0] 8 rfl (World.shaped_of_RefB (by kernel_rfl) (by kernel_rfl)) (by kernel_rfl) (by kernel_rfl) (by kernel_rfl) (door_met os _)) ?_
  intro W base args ds gs before hval0 hW _ _ hL _
  have hval : ∀ (j : Nat) t v, Tryd.f3.params[j]? = some t → args[j]? = some v → Value.okWide Tryd.prog W .any base t v := hval0
  have hW' := hW
  obtain ⟨p, q, hA0, hV, rfl, _, _⟩ := hW
  have hA : DataW.TrodAll enc Tryd.prog W 0 (fun _ => true) true Tryd.f3.params.toList args.toList ds p := hA0
  rw [Tryd.params3] at hA hval
  obtain ⟨v0, v1, d0, d1, q0, q1, rfl, rfl, rfl, h0, h1⟩ := trodAll_two hA
  obtain ⟨rfl, rfl⟩ := trodVars_none hV
  have hT := of_laid hL
  obtain ⟨a0, len0, cap0, rfl⟩ := okWide_slice Tryd.underlying22 (hval 0 22 v0 rfl rfl)
  obtain ⟨l0, hl0, hlen0, hcap0⟩ := open_bytes h0
  obtain ⟨a1, len1, cap1, rfl⟩ := okWide_slice Tryd.underlying22 (hval 1 22 v1 rfl rfl)
  obtain ⟨l1, hl1, hlen1, hcap1⟩ := open_bytes h1
  have key : Calls Tryd.prog 3 #[.slice a0 len0 cap0, .slice a1 len1 cap1] W (fun e w' => e = .returned (.bool true) ∧ Below W.heap.size W w') := by
    by_cases hg : len0 ≤ 500 ∧ len1 ≤ 500
    · exact divides_any a0 a1 len0 len1 cap0 cap1 l0 l1 W hT hl0 hl1 hg.1 hg.2
    · exact divides_guard a0 a1 len0 len1 cap0 cap1 W hT (by omega)
  refine (key).mono fun e W' ⟨he, hb⟩ => ?_
  subst he
  exact ⟨_, rfl, law_post laidOut (of_decide_eq_true (by kernel_rfl)) rfl (by kernel_rfl) Tryd.underlying4 hW' ⟨rfl, rfl, rfl⟩ hb⟩

theorem divides_said : Rows.SumDividesSaid :=
  OpenClaim.holds_of_wide 3 Tryd.f3 rfl rfl rfl rfl rfl rfl rfl ⟨rfl, rfl, rfl, rfl, rfl⟩ rfl rfl rfl rfl rfl (by kernel_rfl) Tryd.func3 (by kernel_rfl)
    (of_decide_eq_true (by kernel_rfl)) (by unfold Func.isWrapper; first | (rw [if_pos (by decide +kernel)]; kernel_rfl) | (rw [if_neg (by decide +kernel)]; exact ⟨rfl, rfl⟩))
    (fun os started H enc _ => divides_lifted os started H enc)

theorem divides_holds : Rows.SumDividesCardSaid :=
  Claim7.holds_tied_plain_at .later [] [.data] true Rows.sumDividesCard.stood.harness false
    divides_said (fun _ h => by cases h) (by kernel_rfl) (fun _ h => by cases h) sumDivides_row_tie rfl ⟨rfl, rfl⟩ (by kernel_rfl) rfl
    (fun f fn hf hfn => by
      obtain rfl : f = 3 := Option.some.inj ((show Tryd.prog.funcNamed "bursary/bursarylaw03.SumDivides" = some 3 by kernel_rfl).symm.trans hf) |>.symm
      obtain rfl : fn = Tryd.f3 := (Option.some.inj (Tryd.func3.symm.trans hfn)).symm
      exact ⟨by kernel_rfl, fun j t ht => by
        rw [Tryd.params3] at ht
        have hm : t ∈ [22] := by simpa using Array.mem_of_getElem? ht
        have hall : ([22].all fun u => !Tryd.prog.wantsStandIn u) = true := by kernel_rfl
        exact (show Tryd.prog.wantsStandIn t = false by simpa using List.all_eq_true.1 hall t hm)⟩)
    (by kernel_rfl)

end Go.Proofs.YthjmmnbfjahamaaDoor
