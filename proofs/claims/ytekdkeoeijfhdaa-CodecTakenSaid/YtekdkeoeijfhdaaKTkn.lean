/- CodecTaken: for every row of bytes the law returns true, and its argument reads as it did. No condition. -/
import Derived.Test.YtekdkeoeijfhdaaKArg
namespace Go.Proofs.Ytekdkeoeijfhdaa
open Go.ChangeShapes Go.WideShapes Go.ChangeAt Go.RowKit

set_option maxRecDepth 100000 in
set_option maxHeartbeats 8000000 in
theorem taken_law (p : Option Addr) (n c : Nat) (b0 : List UInt8) (w : World) (hv0 : Lib.HoldsBytes w (.slice p n c) b0) (hnc : n ≤ c) (hcm : c ≤ maxLen) :
    Calls Try.prog 5 #[.slice p n c] w (fun e w' => e = .returned (.bool true) ∧ Below w.heap.size w w') := by
  unfold maxLen at hcm
  obtain ⟨m, hm⟩ : ∃ m : Nat, m = min n 300 := ⟨_, rfl⟩
  have hmn : min (n : Int) 300 = (m : Int) := by omega
  have hml : m ≤ n := by omega
  have hmc : m ≤ c := by omega
  have hm3 : m ≤ 300 := by omega
  have hsl := fun u => slice_bytes p n c m hml hnc u
  have hv := Lib.hid (holds_front hv0 hml)
  obtain ⟨b, hb⟩ : ∃ b, b0.take m = b := ⟨_, rfl⟩
  rw [hb] at hv
  have hbl : Hid (b.length = m) := (holds_len hv.out).symm
  clear hv0 hm hb
  go_enter Try.func5, Try.ntmps5
  go_wp2_with fail
  refine (wakes_any _).mono ?_
  rintro e w1 ⟨rfl, hb1⟩
  have hd1 := Lib.hid hb1
  clear hb1
  go_wp2_with fail
  refine (takeRow_any p m c b w1 (holds_below hv.out hd1.out (Nat.le_refl _)) hmc (by omega)).mono ?_
  rintro e w2 ⟨r, nn, er, ht, rfl, hb2⟩
  have ht' := Lib.hid ht
  unfold rowV
  obtain ⟨⟨rt, ri⟩, rv, rs⟩ := r
  have hd2 := Lib.hid (hd1.out.trans (hb2.mono hd1.out.size))
  clear ht hb2 hsl hmn
  obtain ⟨W3, hW3⟩ : ∃ W3, w2.alloc (.cells #[.int .i64 rt, .int .u16 ri, .int .i64 rv, .string rs] 42) = W3 := ⟨_, rfl⟩
  have hb3 := Lib.hid (one_box (xs := [.int .i64 rt, .int .u16 ri, .int .i64 rv, .string rs]) hW3)
  have hd3 := Lib.hid (hd2.out.trans (hb3.out.1.mono hd2.out.size))
  have hs2 := sizeRow rt ri rv rs
  by_cases he : er = 0
  · subst he
    obtain ⟨hck, hok, hnn, hle, heq⟩ := takeR_sound ht'.out
    obtain ⟨K, hK⟩ : ∃ K, (encRow ⟨⟨rt, ri⟩, rv, rs⟩).length = K := ⟨_, rfl⟩
    rw [hK] at hnn hle heq
    subst hnn
    rw [hbl.out] at hle
    have heq' := Lib.hid heq
    have hck' := Lib.hid hck
    have hok' := Lib.hid hok
    have hK' := Lib.hid hK
    clear hck hok heq hK
    go_wp2_with (first
      | (with_reducible refine wpList_load_at rfl 42 (.tmp 3) rfl Try.underlying42 rfl hs2 rfl hb3.out.2.1.all ?_))
    clear hW3
    refine (row_any rt ri rv rs W3 hok'.out).mono ?_
    rintro e w4 ⟨q4, n4, cp4, er4, rfl, hr4, hb4⟩
    rcases hr4 with ⟨rfl, _, ho⟩ | ⟨_, h151, _⟩
    · have hn4 : n4 = K := by have h := holds_len ho.holds.1; rw [hK'.out] at h; exact h
      subst hn4
      have ho' := Lib.hid ho
      have hd4 := Lib.hid (hd3.out.trans (hb4.mono hd3.out.size))
      have hsl2 := fun u => slice_bytes p m c n4 hle hmc u
      have hvk : Hid (Lib.HoldsBytes w4 (.slice p n4 c) (encRow ⟨⟨rt, ri⟩, rv, rs⟩)) := by
        have h := holds_front (holds_below hv.out hd4.out (Nat.le_refl _)) hle
        rw [← heq'.out] at h
        exact h
      have heql := Lib.hid (equal_same ho'.out.holds.1 hvk.out)
      clear ho hb4
      go_wp2_with fail
      refine heql.out.mono ?_
      clear heql hsl2
      rintro e w4' ⟨rfl, rfl⟩
      have hdZ := hd4
      go_wp2_with fail
      refine (takeContent_any p m c b w4 (holds_below hv.out hdZ.out (Nat.le_refl _)) hmc (by omega)).mono ?_
      rintro e w5 ⟨ct, nn5, er5, k, rq, rn, rc, kq, kn, kc, ht5, rfl, hon, _, _, hb5⟩
      have ht5' := Lib.hid ht5
      have hon' := Lib.hid hon
      have hd5 := Lib.hid (hdZ.out.trans (hb5.mono hdZ.out.size))
      clear ht5 hon hb5
      obtain ⟨W6, hW6⟩ : ∃ W6, w5.alloc (.cells #[.int .i64 k, .slice rq rn rc, .slice kq kn kc] 27) = W6 := ⟨_, rfl⟩
      have hb6 := Lib.hid (one_box (xs := [.int .i64 k, .slice rq rn rc, .slice kq kn kc]) hW6)
      have hd6 := Lib.hid (hd5.out.trans (hb6.out.1.mono hd5.out.size))
      have hsc := sizeCont (.int .i64 k) (.slice rq rn rc) (.slice kq kn kc)
      by_cases he5 : er5 = 0
      · subst he5
        obtain ⟨hg, hnn, hle5, h82, heq5⟩ := takeC_sound ht5'.out
        obtain ⟨K5, hK5⟩ : ∃ K, (encC ct).length = K := ⟨_, rfl⟩
        rw [hK5] at hnn hle5 heq5 h82
        subst hnn
        rw [hbl.out] at hle5
        have hg' := Lib.hid hg
        have heq5' := Lib.hid heq5
        have hK5' := Lib.hid hK5
        have hon6 := Lib.hid (hon'.out.below hb6.out.1 (Nat.le_refl _))
        clear hg heq5 hK5
        go_wp2_with (first
          | (with_reducible refine wpList_load_at rfl 27 (.tmp 8) rfl Try.underlying27 rfl hsc rfl hb6.out.2.1.all ?_))
        clear hW6
        refine (content_any k rq rn rc kq kn kc ct W6 hon6.out).mono ?_
        rintro e w7 ⟨q7, n7, cp7, er7, rfl, hr7, hb7⟩
        rcases hr7 with ⟨rfl, _, ho7⟩ | ⟨_, hbad, _⟩
        · have hn7 : n7 = K5 := by have h := holds_len ho7.holds.1; rw [hK5'.out] at h; exact h
          subst hn7
          have ho7' := Lib.hid ho7
          have hd7 := Lib.hid (hd6.out.trans (hb7.mono hd6.out.size))
          have hsl7 := fun u => slice_bytes p m c n7 hle5 hmc u
          have hvk7 : Hid (Lib.HoldsBytes w7 (.slice p n7 c) (encC ct)) := by
            have h := holds_front (holds_below hv.out hd7.out (Nat.le_refl _)) hle5
            rw [← heq5'.out] at h
            exact h
          have heql7 := Lib.hid (equal_same ho7'.out.holds.1 hvk7.out)
          clear ho7 hb7
          go_wp2_with fail
          refine heql7.out.mono ?_
          clear heql7 hsl7
          rintro e w8 ⟨rfl, rfl⟩
          have hle82 : decide ((n7 : Int) ≤ 82) = true := decide_eq_true (by omega)
          go_wp2
          go_ret
          exact ⟨rfl, hd7.out⟩
        · exact absurd hg'.out hbad
      · obtain ⟨hz, hn0⟩ := takeC_not ht5'.out he5
        subst hz hn0
        have hrn : rn = 0 := hon'.out.rows.len.symm
        have hkn : kn = 0 := hon'.out.kids.len.symm
        subst hrn hkn
        have x1 := hb6.out.2.1.cell 1 rfl
        have x2 := hb6.out.2.1.cell 2 rfl
        go_wp2
        go_ret
        exact ⟨rfl, hd6.out⟩
    · exact absurd (hck'.out.symm.trans h151) (by decide)
  · have hdZ := hd3
    go_wp2_with fail
    clear hW3
    refine (takeContent_any p m c b W3 (holds_below hv.out hdZ.out (Nat.le_refl _)) hmc (by omega)).mono ?_
    rintro e w5 ⟨ct, nn5, er5, k, rq, rn, rc, kq, kn, kc, ht5, rfl, hon, _, _, hb5⟩
    have ht5' := Lib.hid ht5
    have hon' := Lib.hid hon
    have hd5 := Lib.hid (hdZ.out.trans (hb5.mono hdZ.out.size))
    clear ht5 hon hb5
    obtain ⟨W6, hW6⟩ : ∃ W6, w5.alloc (.cells #[.int .i64 k, .slice rq rn rc, .slice kq kn kc] 27) = W6 := ⟨_, rfl⟩
    have hb6 := Lib.hid (one_box (xs := [.int .i64 k, .slice rq rn rc, .slice kq kn kc]) hW6)
    have hd6 := Lib.hid (hd5.out.trans (hb6.out.1.mono hd5.out.size))
    have hsc := sizeCont (.int .i64 k) (.slice rq rn rc) (.slice kq kn kc)
    by_cases he5 : er5 = 0
    · subst he5
      obtain ⟨hg, hnn, hle5, h82, heq5⟩ := takeC_sound ht5'.out
      obtain ⟨K5, hK5⟩ : ∃ K, (encC ct).length = K := ⟨_, rfl⟩
      rw [hK5] at hnn hle5 heq5 h82
      subst hnn
      rw [hbl.out] at hle5
      have hg' := Lib.hid hg
      have heq5' := Lib.hid heq5
      have hK5' := Lib.hid hK5
      have hon6 := Lib.hid (hon'.out.below hb6.out.1 (Nat.le_refl _))
      clear hg heq5 hK5
      go_wp2_with (first
        | (with_reducible refine wpList_load_at rfl 27 (.tmp 8) rfl Try.underlying27 rfl hsc rfl hb6.out.2.1.all ?_))
      clear hW6
      refine (content_any k rq rn rc kq kn kc ct W6 hon6.out).mono ?_
      rintro e w7 ⟨q7, n7, cp7, er7, rfl, hr7, hb7⟩
      rcases hr7 with ⟨rfl, _, ho7⟩ | ⟨_, hbad, _⟩
      · have hn7 : n7 = K5 := by have h := holds_len ho7.holds.1; rw [hK5'.out] at h; exact h
        subst hn7
        have ho7' := Lib.hid ho7
        have hd7 := Lib.hid (hd6.out.trans (hb7.mono hd6.out.size))
        have hsl7 := fun u => slice_bytes p m c n7 hle5 hmc u
        have hvk7 : Hid (Lib.HoldsBytes w7 (.slice p n7 c) (encC ct)) := by
          have h := holds_front (holds_below hv.out hd7.out (Nat.le_refl _)) hle5
          rw [← heq5'.out] at h
          exact h
        have heql7 := Lib.hid (equal_same ho7'.out.holds.1 hvk7.out)
        clear ho7 hb7
        go_wp2_with fail
        refine heql7.out.mono ?_
        clear heql7 hsl7
        rintro e w8 ⟨rfl, rfl⟩
        have hle82 : decide ((n7 : Int) ≤ 82) = true := decide_eq_true (by omega)
        go_wp2
        go_ret
        exact ⟨rfl, hd7.out⟩
      · exact absurd hg'.out hbad
    · obtain ⟨hz, hn0⟩ := takeC_not ht5'.out he5
      subst hz hn0
      have hrn : rn = 0 := hon'.out.rows.len.symm
      have hkn : kn = 0 := hon'.out.kids.len.symm
      subst hrn hkn
      have x1 := hb6.out.2.1.cell 1 rfl
      have x2 := hb6.out.2.1.cell 2 rfl
      go_wp2
      go_ret
      exact ⟨rfl, hd6.out⟩

set_option maxRecDepth 1000000 in
theorem taken_lifted (os : Os) (started : os.Started) (H : Type) (enc : TypeId × Value → H) :
    ReturnsInHanded {} Try.checked os 5 .any (Rows.codecTakenSpec.pre6 enc Try.prog Try.f5 Rows.codecTakenRow.domain false) (Rows.codecTakenSpec.post enc Try.prog Try.f5 false true false false) := by
  refine returnsInHanded_of_change (C := Try.checked) own started (by kernel_rfl) Try.func5
    (ChangeSpec.witness6 (enc := enc) (C := Try.checked) false ⟨#[], #[.slice none 0 0], []⟩ 8 (by kernel_rfl) (by kernel_rfl) (by kernel_rfl) (by kernel_rfl)) ?_
  intro W base args ds gs before hval0 hW _ _
  have hval : ∀ (j : Nat) t v, Try.f5.params[j]? = some t → args[j]? = some v → Value.okWide Try.prog W .any base t v := hval0
  have hW' := hW
  obtain ⟨p, q, hA0, hV, rfl, _, _⟩ := hW
  have hA : DataW.TrodAll enc Try.prog W 0 (fun _ => true) true Try.f5.params.toList args.toList ds p := hA0
  rw [Try.params5] at hA hval
  obtain ⟨v0, d0, rfl, rfl, h0⟩ := trodAll_one hA
  obtain ⟨rfl, rfl⟩ := trodVars_none hV
  obtain ⟨a0, len0, cap0, rfl⟩ := okWide_slice Try.underlying33 (hval 0 33 v0 rfl rfl)
  obtain ⟨l0, hl0, _, hle0⟩ := open_bytes h0
  have hcap0 := open_cap h0
  refine (taken_law a0 len0 cap0 l0 W hl0 hle0 hcap0).mono fun e W' ⟨he, hb⟩ => ?_
  subst he
  exact ⟨_, rfl, law_post laidOut (of_decide_eq_true (by kernel_rfl)) rfl (by kernel_rfl) Try.underlying4 hW' ⟨rfl, rfl, rfl⟩ hb⟩

set_option maxRecDepth 1000000 in
theorem taken_holds : Rows.CodecTakenSaid :=
  OpenClaim.holds_of_wide 5 Try.f5 rfl rfl rfl rfl rfl rfl rfl ⟨rfl, rfl, rfl, rfl, rfl⟩ rfl rfl rfl rfl rfl (by kernel_rfl) Try.func5 (by kernel_rfl)
    (of_decide_eq_true (by kernel_rfl)) (by unfold Func.isWrapper; first | (rw [if_pos (by decide +kernel)]; kernel_rfl) | (rw [if_neg (by decide +kernel)]; exact ⟨rfl, rfl⟩))
    (fun os started H enc _ => taken_lifted os started H enc)
end Go.Proofs.Ytekdkeoeijfhdaa
