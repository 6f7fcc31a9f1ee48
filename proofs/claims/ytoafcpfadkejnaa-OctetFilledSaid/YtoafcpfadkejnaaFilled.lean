/- OctetFilled: for every bytes and every two numbers the law returns true, and its arguments read as they did. No condition. -/
import Derived.Test.YtoafcpfadkejnaaHalves
import Derived.Deep.LoopGhost
namespace Go.Proofs.Ytoafcpfadkejnaa
open Go.ChangeShapes Go.WideShapes Go.ChangeAt Go.RowKit

structure FilledRel (w wr : World) (g : Nat) (d : Option Nat) (fB : Nat) (F : List UInt8) (k : Nat) : Prop where
  below : Below w.heap.size w wr
  rdr : Rdr wr g d (zs k) 0
  row : Row 5 wr fB F

theorem zs_succ (k : Nat) : zs (k + 1) = [0] ++ zs k := by simp [zs, List.replicate_succ]
theorem num_zero : num [0] = 0 := rfl

theorem FilledRel.next {w wr w' : World} {g fB k : Nat} {d : Option Nat} {F : List UInt8} (h : FilledRel w wr g d fB F (k + 1)) (hg : wr.grownBy w' (some g)) (hr : Rdr w' g d (zs k) 0) (h1 : w.heap.size ≤ g) (h2 : fB ≠ g) : FilledRel w w' g d fB F k :=
  ⟨h.below.grown hg h.below.size (fun j e => by cases e; exact h1), hr, h.row.block (hg.block _ h.row.lt (by simpa using h2))⟩

set_option maxHeartbeats 1000000 in
theorem filled_any (p : Option Addr) (N c m n : Nat) (l : List UInt8) (w : World) (hv : Lib.HoldsBytes w (.slice p N c) l) (hN : N ≤ 2000) (hm : m ≤ 4000) (hn : n ≤ 4000) (h1 : N ≤ m) (h2 : m ≤ n) :
    Calls Try.prog 8 #[.slice p N c, .int .i64 m, .int .i64 n] w (fun e w' => e = .returned (.bool true) ∧ Below w.heap.size w w') := by
  have hv0 := Lib.hid hv
  have hlen := Lib.hid (holds_len hv)
  clear hv
  go_enter Try.func8, Try.ntmps8
  go_wp2_with fail
  refine (wakes_any w).mono ?_
  rintro e w1 ⟨rfl, hb⟩
  have hb1 := Lib.hid hb
  have hv1 := Lib.hid (holds_below hv0.out hb (Nat.le_refl _))
  clear hb
  go_wp2_with fail
  refine (fill_ok p N c n l w1 hv1.out (by omega) (by omega)).mono ?_
  rintro e w2 ⟨rfl, hrow, hb⟩
  have hb2 := Lib.hid (hb1.out.trans (hb.mono hb1.out.size))
  have hF2 := Lib.hid hrow
  have hn2 : Hid ((l ++ zs (n - N)).length = n) := by show _ = _; rw [List.length_append, length_zs, ← hlen.out]; omega
  clear hrow hb hv1
  go_wp2_with fail
  refine (read_any (some ⟨w1.heap.size, 0, none⟩) n n (l ++ zs (n - N)) w2 (hF2.out.hold hn2.out n) (by omega)).mono ?_
  rintro e w3 ⟨r, dr, rfl, hr, hg, hd, hb⟩
  have hb3 := Lib.hid (hb2.out.trans (hb.mono hb2.out.size))
  have hF3 := Lib.hid (hF2.out.below hb)
  have hR3 := Lib.hid hr
  have hg3 : Hid (w.heap.size ≤ r) := Nat.le_trans hb2.out.size hg
  have hrF : Hid (w1.heap.size ≠ r) := by have := hF2.out.lt; show _ ≠ _; omega
  clear hr hg hd hb hF2
  go_wp2_with fail
  refine (raw_to (raw_any r dr N 0 (l ++ zs (n - N)) w3 hR3.out) N l (zs (n - N)) 0 (rawL_app hlen.out) hlen.out.symm (nextL_app hlen.out) (nextE_app hlen.out)).mono ?_
  rintro e w4 ⟨q, c', rfl, hq, hg, hr⟩
  have hb4 := Lib.hid (hb3.out.grown hg hb3.out.size (fun k e => by cases e; exact hg3.out))
  have hR4 := Lib.hid hr
  have hF4 := Lib.hid (hF3.out.block (hg.block _ hF3.out.lt (by simpa using hrF.out)))
  have hq4 := Lib.hid hq
  have hv4 := Lib.hid (holds_below hv0.out hb4.out (Nat.le_refl _))
  clear hr hg hq hR3 hF3
  go_wp2_with fail
  refine (equal_any q p N c' N c l l w4 hq4.out hv4.out).mono ?_
  rintro e w5 ⟨rfl, rfl⟩
  have same3 : (l == l) = true := by rw [beq_iff_eq]
  go_wp2_with fail
  clear same3
  have hrel0 : Hid (FilledRel w w4 r dr w1.heap.size (l ++ zs (n - N)) (n - N)) := ⟨hb4.out, hR4.out, hF4.out⟩
  clear hq4 hv4 hR4 hF4
  go_loopg [] (n - N) (fun k wr => Hid (FilledRel w wr r dr w1.heap.size (l ++ zs (n - N)) k))
  case atStart => exact hrel0
  case round =>
    go_wp2_with fail
    refine (left_any r dr 0 _ wr hrel.out.rdr).mono ?_
    rintro e w6 ⟨rfl, rfl⟩
    by_cases hk : gk = 0
    · subst hk
      have lz : (zs 0).length = 0 := rfl
      have hb5 := Lib.hid hrel.out.below
      have hF5 := Lib.hid hrel.out.row
      have hR5 := Lib.hid hrel.out.rdr
      have hv5 := Lib.hid (holds_below hv0.out hb5.out (Nat.le_refl _))
      clear hrel
      go_wp2_with fail
      refine (fill_ok p N c m l wr hv5.out (by omega) (by omega)).mono ?_
      rintro e w6 ⟨rfl, hrow, hb⟩
      have hb6 := Lib.hid (hb5.out.trans (hb.mono hb5.out.size))
      have hF6 := Lib.hid (hF5.out.below hb)
      have hR6 := Lib.hid (hR5.out.below hb)
      have hG6 := Lib.hid (hrow.hold (n := m) (by rw [List.length_append, length_zs, ← hlen.out]; omega) m)
      clear hrow hb hv5 hF5 hR5
      go_wp2_with fail
      refine (fill_ok (some ⟨wr.heap.size, 0, none⟩) m m n (l ++ zs (m - N)) w6 hG6.out (by omega) (by omega)).mono ?_
      rintro e w7 ⟨rfl, hrow, hb⟩
      have hb7 := Lib.hid (hb6.out.trans (hb.mono hb6.out.size))
      have hF7 := Lib.hid ((hF6.out.below hb).hold hn2.out n)
      have hR7 := Lib.hid (hR6.out.below hb)
      have eqH : Hid (l ++ zs (m - N) ++ zs (n - m) = l ++ zs (n - N)) := by
        show _ = _
        rw [List.append_assoc]
        congr 1
        simp only [zs, List.replicate_append_replicate]
        congr 1
        omega
      rw [eqH.out] at hrow
      have hH7 := Lib.hid (hrow.hold hn2.out n)
      clear hrow hb hF6 hR6 hG6
      have same4 : (l ++ zs (n - N) == l ++ zs (n - N)) = true := by rw [beq_iff_eq]
      go_wp2_with fail
      refine (equal_any (some ⟨w1.heap.size, 0, none⟩) (some ⟨w6.heap.size, 0, none⟩) n n n n (l ++ zs (n - N)) (l ++ zs (n - N)) w7 hF7.out hH7.out).mono ?_
      rintro e w8 ⟨rfl, rfl⟩
      go_wp2_with fail
      clear same4
      refine (err_any r dr 0 _ w7 hR7.out).mono ?_
      rintro e w9 ⟨rfl, rfl⟩
      go_wp2_with fail
      go_ret
      exact ⟨rfl, hb7.out⟩
    · obtain ⟨k, rfl⟩ : ∃ k, gk = k + 1 := ⟨gk - 1, by omega⟩
      have lz : (zs (k + 1)).length = k + 1 := length_zs _
      go_wp2_with fail
      refine (step_to (u8_any r dr 0 (zs (k + 1)) wr hrel.out.rdr) (zs k) 0 (.int .u8 0) ?_ ?_ ?_).mono ?_
      · rw [zs_succ]; exact nextL_app (n := 1) rfl
      · rw [zs_succ]; exact nextE_app (n := 1) rfl
      · rw [zs_succ]; exact congrArg (Value.int .u8) (numV_app (n := 1) (l := [0]) rfl)
      rintro e w7 ⟨rfl, hg, hr⟩
      have hnext := Lib.hid (hrel.out.next hg hr hg3.out hrF.out)
      clear hg hr
      go_wp2_with fail
      go_roundg k
      case measure => omega
      case rel => exact hnext

set_option maxHeartbeats 1000000 in
theorem filled_guard (p : Option Addr) (N c : Nat) (m n : Int) (w : World) (h : 2000 < N ∨ (N ≤ 2000 ∧ 4000 < m) ∨ (N ≤ 2000 ∧ m ≤ 4000 ∧ 4000 < n) ∨ (N ≤ 2000 ∧ m ≤ 4000 ∧ n ≤ 4000 ∧ m < N) ∨ (N ≤ 2000 ∧ m ≤ 4000 ∧ n ≤ 4000 ∧ N ≤ m ∧ n < m)) :
    Calls Try.prog 8 #[.slice p N c, .int .i64 m, .int .i64 n] w (fun e w' => e = .returned (.bool true) ∧ Below w.heap.size w w') := by
  rcases h with h | ⟨h1, h⟩ | ⟨h1, h2, h⟩ | ⟨h1, h2, h3, h⟩ | ⟨h1, h2, h3, h4, h⟩
  all_goals
    go_enter Try.func8, Try.ntmps8
    go_wp2_with fail
    refine (wakes_any w).mono ?_
    rintro e w1 ⟨rfl, hb⟩
    have hb1 := Lib.hid hb
    clear hb
    go_wp2_with fail
    go_ret
    exact ⟨rfl, hb1.out⟩

theorem filled_lifted (os : Os) (started : os.Started) (H : Type) (enc : TypeId × Value → H) :
    ReturnsInHanded {} Try.checked os 8 .any (Rows.octetFilledSpec.pre6 enc Try.prog Try.f8 Rows.octetFilledRow.domain false) (Rows.octetFilledSpec.post enc Try.prog Try.f8 false true false false) := by
  refine returnsInHanded_of_change (C := Try.checked) own started (by kernel_rfl) Try.func8
    (ChangeSpec.witness6 (enc := enc) (C := Try.checked) false ⟨#[], #[.slice none 0 0, .int .i64 0, .int .i64 0], []⟩ 8 (by kernel_rfl) (by kernel_rfl) (by kernel_rfl) (by kernel_rfl)) ?_
  intro W base args ds gs before hval0 hW _ _
  have hval : ∀ (j : Nat) t v, Try.f8.params[j]? = some t → args[j]? = some v → Value.okWide Try.prog W .any base t v := hval0
  have hW' := hW
  obtain ⟨p, q, hA0, hV, rfl, _, _⟩ := hW
  have hA : DataW.TrodAll enc Try.prog W 0 (fun _ => true) true Try.f8.params.toList args.toList ds p := hA0
  rw [Try.params8] at hA hval
  obtain ⟨v0, v1, v2, d0, d1, d2, p0, p1, p2, rfl, rfl, rfl, h0, h1, h2⟩ := trodAll_three hA
  obtain ⟨rfl, rfl⟩ := trodVars_none hV
  obtain ⟨a0, len0, cap0, rfl⟩ := okWide_slice Try.underlying22 (hval 0 22 v0 rfl rfl)
  obtain ⟨m, rfl, rfl, rfl, wm⟩ := open_int Try.underlying3 (hval 1 3 v1 rfl rfl) h1
  obtain ⟨n, rfl, rfl, rfl, wn⟩ := open_int Try.underlying3 (hval 2 3 v2 rfl rfl) h2
  obtain ⟨l, hl, hlen, _⟩ := open_bytes h0
  have key : Calls Try.prog 8 #[.slice a0 len0 cap0, .int .i64 m, .int .i64 n] W (fun e w' => e = .returned (.bool true) ∧ Below W.heap.size W w') := by
    by_cases hg : len0 ≤ 2000 ∧ m ≤ 4000 ∧ n ≤ 4000 ∧ len0 ≤ m ∧ m ≤ n
    · obtain ⟨g1, g2, g3, g4, g5⟩ := hg
      obtain ⟨M, rfl⟩ := Int.eq_ofNat_of_zero_le (show 0 ≤ m by omega)
      obtain ⟨K, rfl⟩ := Int.eq_ofNat_of_zero_le (show 0 ≤ n by omega)
      exact filled_any a0 len0 cap0 M K l W hl g1 (by omega) (by omega) (by omega) (by omega)
    · exact filled_guard a0 len0 cap0 m n W (by omega)
  refine key.mono fun e W' ⟨he, hb⟩ => ?_
  subst he
  exact ⟨_, rfl, law_post laidOut (of_decide_eq_true (by kernel_rfl)) rfl (by kernel_rfl) Try.underlying4 hW' ⟨rfl, rfl, rfl⟩ hb⟩

theorem filled_holds : Rows.OctetFilledSaid :=
  OpenClaim.holds_of_wide 8 Try.f8 rfl rfl rfl rfl rfl rfl rfl ⟨rfl, rfl, rfl, rfl, rfl⟩ rfl rfl rfl rfl rfl (by kernel_rfl) Try.func8 (by kernel_rfl)
    (of_decide_eq_true (by kernel_rfl)) (by unfold Func.isWrapper; first | (rw [if_pos (by decide +kernel)]; kernel_rfl) | (rw [if_neg (by decide +kernel)]; exact ⟨rfl, rfl⟩))
    (fun os started H enc _ => filled_lifted os started H enc)

end Go.Proofs.Ytoafcpfadkejnaa
