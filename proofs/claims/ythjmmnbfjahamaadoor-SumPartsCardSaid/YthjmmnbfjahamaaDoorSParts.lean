/- SumParts: for every list of rows of bytes the law returns true, and its argument reads as it did, where the table of steps is laid as the program's text lays it. No other condition. -/
import Derived.Test.YthjmmnbfjahamaaDoorAppend
import Derived.Test.YthjmmnbfjahamaaDoorTie
import Derived.Test.YthjmmnbfjahamaaDoorCards
namespace Go.Proofs.YthjmmnbfjahamaaDoor
open Go.ChangeShapes Go.WideShapes Go.ChangeAt Go.RowKit

/-- the first k rows, one behind the other -/
def cat (L : Nat → List UInt8) : Nat → List UInt8
  | 0 => []
  | k + 1 => cat L k ++ L k

structure PartsRel (w wr : World) (q : Option Addr) (m d : Nat) (L : Nat → List UInt8) (k : Nat) : Prop where
  below : Below w.heap.size w wr
  own : Own wr w.heap.size (.slice q m d) (cat L k)
  len : m ≤ 500 * k

theorem parts_guard (p : Option Addr) (n c : Nat) (w : World) (hL : Laid w) (h : 50 < n) :
    Calls Tryd.prog 8 #[.slice p n c] w (fun e w' => e = .returned (.bool true) ∧ Below w.heap.size w w') := by
  have hL1 := Lib.hid hL
  clear hL
  go_enter Tryd.func8, Tryd.ntmps8
  go_wp2_with fail
  refine (wakes_any w hL1.out).mono ?_
  rintro e w1 ⟨rfl, hb⟩
  have hb1 := Lib.hid hb
  clear hb
  go_wp2_with fail
  go_ret
  exact ⟨rfl, hb1.out⟩

set_option maxHeartbeats 1000000 in
theorem parts_any (p : Option Addr) (n c : Nat) (L : Nat → List UInt8) (w : World) (hL : Laid w) (hr : RowsIn w p n L) (hn : n ≤ 50) :
    Calls Tryd.prog 8 #[.slice p n c] w (fun e w' => e = .returned (.bool true) ∧ Below w.heap.size w w') := by
  have hL1 := Lib.hid hL
  have hr1 := Lib.hid hr
  clear hL hr
  go_enter Tryd.func8, Tryd.ntmps8
  go_wp2_with fail
  refine (wakes_any w hL1.out).mono ?_
  rintro e w1 ⟨rfl, hb⟩
  have hrel0 : Hid (PartsRel w w1 none 0 0 L 0) := ⟨hb, World.ownsRow_nil w1 w.heap.size 5 1, by omega⟩
  have e0 : Hid ((0 : Int) = un (join 0#32 (cat L 0))) := by rw [cat, join_nil]; exact rfl
  clear hb
  go_wp2_with fail
  go_loopw [3, 4, 14] (fun v3 v4 v14 wr => ∃ (k : Nat) (q : Option Addr) (m d : Nat), k ≤ n ∧ v14 = .int .i64 k ∧ v3 = .int .u32 (un (join 0#32 (cat L k))) ∧ v4 = .slice q m d ∧ PartsRel w wr q m d L k) (fun _ _ v14 _ => n - (intOf v14).toNat)
  case atStart => exact ⟨0, none, 0, 0, Nat.zero_le _, rfl, by rw [← e0.out], rfl, hrel0.out⟩
  case round =>
    obtain ⟨k, q, m, d, hk, rfl, rfl, rfl, hrel⟩ := hrel
    have hb0 := Lib.hid hrel.below
    have ho := Lib.hid hrel.own
    have hm := hrel.len
    clear hrel
    by_cases hlt : k < n
    · obtain ⟨a, q1, m1, d1, rfl, hc, hv, hmd⟩ := hr1.out.get k hlt
      have hc1 : wr.cell? (a.add k) = some (.slice q1 m1 d1) := Lib.Below.cellOf hb0.out hc (Nat.le_refl _)
      have hv1 := Lib.hid hv
      clear hc hv
      by_cases hbig : m1 ≤ 500
      · go_wp2_with fail
        refine (join_any (join 0#32 (cat L k)) q1 m1 d1 (L k) wr (hL1.out.keep hb0.out hL1.out.size) (holds_below hv1.out hb0.out (Nat.le_refl _)) (by omega)).mono ?_
        rintro e w2 ⟨rfl, hb⟩
        have hb2 := Lib.hid (hb0.out.trans (hb.mono hb0.out.size))
        have ho2 := Lib.hid (ho.out.below hb)
        have hv2 := Lib.hid (holds_below hv1.out hb2.out (Nat.le_refl _))
        have hs2 : Hid (w.heap.size ≤ w2.heap.size) := hb2.out.size
        have ej : Hid (join (join 0#32 (cat L k)) (L k) = join 0#32 (cat L (k + 1))) := (join_append _ _ _).symm
        clear hb hc1
        rw [ej.out]
        go_wp2_with (at_builtin; refine wpList_append_bytes rfl _ _ rfl rfl rfl ho2.out hv2.out (by omega) hs2.out ?_; intro q3 c3 w3 ho hg)
        have hnext : Hid (PartsRel w w3 q3 (m + m1) c3 L (k + 1)) := ⟨hb2.out.grown hg hb2.out.size (fun j e => by
          unfold blockOf at e
          cases q with
          | none => cases e
          | some b => cases e; exact (ho2.out.holds.2.2 b rfl).1), ho, by omega⟩
        clear ho hg ho2
        go_wp2_with fail
        go_roundw
        case rel => exact ⟨k + 1, q3, m + m1, c3, by omega, by go_num, rfl, rfl, hnext.out⟩
        case measure => simp [intOf]; omega
      · go_wp2_with fail
        go_ret
        exact ⟨rfl, hb0.out⟩
    · obtain rfl : n = k := by omega
      go_wp2_with fail
      refine (sum_any q m d (cat L n) wr (hL1.out.keep hb0.out hL1.out.size) ho.out.holds.1 (by omega)).mono ?_
      rintro e w2 ⟨rfl, hb⟩
      have hb2 := Lib.hid (hb0.out.trans (hb.mono hb0.out.size))
      have ec : crc (cat L n) = join 0#32 (cat L n) := rfl
      rw [ec]
      clear hb ec
      go_wp2_with fail
      go_ret
      exact ⟨rfl, hb2.out⟩

theorem parts_lifted (os : Os) (started : os.Started) (H : Type) (enc : TypeId × Value → H) :
    ReturnsInHanded {} Tryd.checked os 8 .any (fun w args => (Rows.sumPartsSpec.pre enc Tryd.prog Tryd.f8 [] false w args ∧ laidMetH Tryd.prog [("bursary/sum.steps", Rows.laid_bursary_sum_steps)] w) ∧ sizedMet enc Tryd.prog Tryd.f8 (OpenSpec.ofChange Rows.sumPartsSpec) false w args)
      (Rows.sumPartsSpec.post enc Tryd.prog Tryd.f8 false true false false) := by
  refine returnsInHanded_of_change_and (C := Tryd.checked) (X := fun w _ => laidMetH Tryd.prog [("bursary/sum.steps", Rows.laid_bursary_sum_steps)] w) (fun _ _ _ hh h => h.of_heap hh) own started (by kernel_rfl) Tryd.func8
    (ChangeSpec.witness_shaped (enc := enc) (C := Tryd.checked) (os := os) (X := fun w _ => laidMetH Tryd.prog [("bursary/sum.steps", Rows.laid_bursary_sum_steps)] w) false (World.doorLaid Tryd.prog 400 os) #[.slice none 0 0] 8 rfl (World.shaped_of_RefB (by kernel_rfl) (by kernel_rfl)) (by kernel_rfl) (by kernel_rfl) (by kernel_rfl) (door_met os _)) ?_
  intro W base args ds gs before hval0 hW _ _ hL _
  have hval : ∀ (j : Nat) t v, Tryd.f8.params[j]? = some t → args[j]? = some v → Value.okWide Tryd.prog W .any base t v := hval0
  have hW' := hW
  obtain ⟨p, q, hA0, hV, rfl, _, _⟩ := hW
  have hA : DataW.TrodAll enc Tryd.prog W 0 (fun _ => true) true Tryd.f8.params.toList args.toList ds p := hA0
  rw [Tryd.params8] at hA hval
  obtain ⟨v0, d0, rfl, rfl, h0⟩ := trodAll_one hA
  obtain ⟨rfl, rfl⟩ := trodVars_none hV
  have hT := of_laid hL
  obtain ⟨a0, len0, cap0, rfl⟩ := okWide_slice Tryd.underlying35 (hval 0 35 v0 rfl rfl)
  obtain ⟨L, hrows⟩ := open_rows h0
  have key : Calls Tryd.prog 8 #[.slice a0 len0 cap0] W (fun e w' => e = .returned (.bool true) ∧ Below W.heap.size W w') := by
    by_cases hg : len0 ≤ 50
    · exact parts_any a0 len0 cap0 L W hT hrows hg
    · exact parts_guard a0 len0 cap0 W hT (by omega)
  refine (key).mono fun e W' ⟨he, hb⟩ => ?_
  subst he
  exact ⟨_, rfl, law_post laidOut (of_decide_eq_true (by kernel_rfl)) rfl (by kernel_rfl) Tryd.underlying4 hW' ⟨rfl, rfl, rfl⟩ hb⟩

theorem parts_said : Rows.SumPartsSaid :=
  OpenClaim.holds_of_wide 8 Tryd.f8 rfl rfl rfl rfl rfl rfl rfl ⟨rfl, rfl, rfl, rfl, rfl⟩ rfl rfl rfl rfl rfl (by kernel_rfl) Tryd.func8 (by kernel_rfl)
    (of_decide_eq_true (by kernel_rfl)) (by unfold Func.isWrapper; first | (rw [if_pos (by decide +kernel)]; kernel_rfl) | (rw [if_neg (by decide +kernel)]; exact ⟨rfl, rfl⟩))
    (fun os started H enc _ => parts_lifted os started H enc)

theorem parts_holds : Rows.SumPartsCardSaid :=
  Claim7.holds_tied_plain_at .later [] [.data] true Rows.sumPartsCard.stood.harness false
    parts_said (fun _ h => by cases h) (by kernel_rfl) (fun _ h => by cases h) sumParts_row_tie rfl ⟨rfl, rfl⟩ (by kernel_rfl) rfl
    (fun f fn hf hfn => by
      obtain rfl : f = 8 := Option.some.inj ((show Tryd.prog.funcNamed "bursary/bursarylaw03.SumParts" = some 8 by kernel_rfl).symm.trans hf) |>.symm
      obtain rfl : fn = Tryd.f8 := (Option.some.inj (Tryd.func8.symm.trans hfn)).symm
      exact ⟨by kernel_rfl, fun j t ht => by
        rw [Tryd.params8] at ht
        have hm : t ∈ [35] := by simpa using Array.mem_of_getElem? ht
        have hall : ([35].all fun u => !Tryd.prog.wantsStandIn u) = true := by kernel_rfl
        exact (show Tryd.prog.wantsStandIn t = false by simpa using List.all_eq_true.1 hall t hm)⟩)
    (by kernel_rfl)

end Go.Proofs.YthjmmnbfjahamaaDoor
