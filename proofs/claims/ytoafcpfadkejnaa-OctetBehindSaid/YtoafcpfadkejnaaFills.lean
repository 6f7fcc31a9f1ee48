/- OctetFills: for every bytes and every number the law returns true, and its arguments read as they did. No condition. -/
import Derived.Test.YtoafcpfadkejnaaRef
namespace Go.Proofs.Ytoafcpfadkejnaa
open Go.ChangeShapes Go.WideShapes Go.ChangeAt Go.RowKit

set_option maxHeartbeats 400000 in
theorem fills_guard (p : Option Addr) (N c : Nat) (n : Int) (w : World) (h : 4000 < N ∨ (N ≤ 4000 ∧ 5000 < n)) :
    Calls Try.prog 4 #[.slice p N c, .int .i64 n] w (fun e w' => e = .returned (.bool true) ∧ Below w.heap.size w w') := by
  rcases h with h | ⟨h1, h⟩
  all_goals
    go_enter Try.func4, Try.ntmps4
    go_wp2_with fail
    refine (wakes_any w).mono ?_
    rintro e w1 ⟨rfl, hb⟩
    have hb1 := Lib.hid hb
    clear hb
    go_wp2_with fail
    go_ret
    exact ⟨rfl, hb1.out⟩

theorem below_drewN {B : Nat} {a w : World} (h : Below B a w) (n : Nat) : Below B a (w.drewN n) := ⟨h.os, h.tape, h.output, h.size, h.block⟩

theorem same_below (p q : Option Addr) (n c m d : Nat) (l k : List UInt8) (w : World) (h1 : Lib.HoldsBytes w (.slice p n c) l) (h2 : Lib.HoldsBytes w (.slice q m d) k) (hn : n ≤ 140737488355328) :
    Calls Try.prog 11 #[.slice p n c, .slice q m d] w (fun e w' => e = .returned (.bool (l == k)) ∧ Below w.heap.size w w') :=
  (same_any p q n c m d l k w h1 h2 hn).mono fun _ _ ⟨he, j, hj⟩ => ⟨he, by subst hj; exact below_drewN (Below.refl _ _) j⟩

/-- 'append([]byte{}, b...)' behind whatever came before -/
theorem own_copy {w w1 w2 : World} {q : Option Addr} {n c : Nat} {l : List UInt8} {A : Obj} (hb : Below w.heap.size w w1) (ho : Own w2 w1.heap.size (.slice q (0 + n) c) ([] ++ l)) (hg : (w1.alloc A).grownBy w2 (blockOf (some ⟨w1.heap.size, 0, none⟩))) :
    Below w.heap.size w w2 ∧ Own w2 w1.heap.size (.slice q n c) l ∧ Below w1.heap.size w1 w2 := by
  have h := GrowRel.start ho hg
  exact ⟨hb.trans (h.below.mono hb.size), h.own, h.below⟩

set_option maxHeartbeats 1000000 in
theorem fills_no (p : Option Addr) (N c : Nat) (n : Int) (l : List UInt8) (w : World) (hv : Lib.HoldsBytes w (.slice p N c) l) (hN : N ≤ 4000) (hn5 : n ≤ 5000) (hn : n < 0 ∨ (0 ≤ n ∧ n < N)) :
    Calls Try.prog 4 #[.slice p N c, .int .i64 n] w (fun e w' => e = .returned (.bool true) ∧ Below w.heap.size w w') := by
  have hv0 := Lib.hid hv
  have hlen := Lib.hid (holds_len hv)
  have same0 : (([] : List UInt8) == []) = true := rfl
  clear hv
  rcases hn with hn | ⟨hn0, hn⟩
  all_goals
    go_enter Try.func4, Try.ntmps4
    go_wp2_with fail
    refine (wakes_any w).mono ?_
    rintro e w1 ⟨rfl, hb⟩
    have hb1 := Lib.hid hb
    clear hb
    go_wp2_with fail
    first
      | (refine (fill_neg p N c n w1 hn).mono ?_; rintro e w2 ⟨rfl, rfl⟩; go_wp2_with fail; refine (reffill_neg p N c n w1 hn).mono ?_; rintro e w2 ⟨rfl, rfl⟩)
      | (refine (fill_long p N c n w1 hn0 hn).mono ?_; rintro e w2 ⟨rfl, rfl⟩; go_wp2_with fail; refine (reffill_long p N c n w1 hn0 hn).mono ?_; rintro e w2 ⟨rfl, rfl⟩)
    go_wp2_with fail
    refine (same_below none none 0 0 0 0 [] [] w1 (holds_nil _) (holds_nil _) (by decide)).mono ?_
    rintro e w2 ⟨rfl, hb⟩
    have hb2 := Lib.hid (hb1.out.trans (hb.mono hb1.out.size))
    clear hb
    have ho0 : Hid (Own (w2.alloc (.cells #[] 5)) w2.heap.size (.slice (some ⟨w2.heap.size, 0, none⟩) 0 0) []) := Own.made (n := 0) (Nat.zero_le _)
    have hv1 := Lib.hid (holds_below hv0.out (hb2.out.alloc hb2.out.size (.cells #[] 5)) (Nat.le_refl _))
    go_wp2_with (at_builtin; refine wpList_append_bytes rfl _ _ rfl rfl rfl ho0.out hv1.out (by omega) (by simp) ?_; intro q' c' w3 ho hg)
    obtain ⟨k1, k2, k3⟩ := own_copy hb2.out ho hg
    have hb3 := Lib.hid k1
    have ho3 := Lib.hid k2
    clear k1 k2 k3 ho hg ho0 hv1 same0
    refine wp_loop_rounds 1 ?_
    rw [rounds_succ]
    go_wp2_with fail
    refine (same_below p q' N c N c' l l w3 (holds_below hv0.out hb3.out (Nat.le_refl _)) ho3.out.holds.1 (by omega)).mono ?_
    rintro e w4 ⟨rfl, hb⟩
    have hb4 := Lib.hid (hb3.out.trans (hb.mono hb3.out.size))
    have same1 : (l == l) = true := by rw [beq_iff_eq]
    clear hb
    go_wp2_with fail
    go_ret
    exact ⟨rfl, hb4.out⟩

/-- what the rounds that change the filled bytes leave alone -/
structure BumpRel (w wr : World) (g : Nat) (F : List UInt8) (q : Option Addr) (n c : Nat) (l : List UInt8) (base : Nat) : Prop where
  below : Below w.heap.size w wr
  row : ∃ G : List UInt8, G.length = F.length ∧ Row 5 wr g G
  own : Own wr base (.slice q n c) l

theorem BumpRel.next {w wr : World} {g n c base j : Nat} {F l : List UInt8} {q : Option Addr} (h : BumpRel w wr g F q n c l base) (hg : w.heap.size ≤ g) (hgb : g < base) (y : UInt8) :
    BumpRel w (wr.setCell ⟨g, j, none⟩ (.int .u8 (y.toNat : Int))) g F q n c l base := by
  obtain ⟨G, h1, h2⟩ := h.row
  refine ⟨h.below.setCell (p := ⟨g, j, none⟩) hg _, ⟨G.set j y, by rw [List.length_set, h1], h2.set j y⟩, h.own.kept fun a ha => ?_⟩
  have := (h.own.holds.2.2 a ha).1
  exact Below.heap_setCell _ _ _ _ (by show a.block ≠ g; omega)

set_option maxHeartbeats 1000000 in
theorem fills_ok (p : Option Addr) (N c n : Nat) (l : List UInt8) (w : World) (hv : Lib.HoldsBytes w (.slice p N c) l) (hN : N ≤ 4000) (hn5 : n ≤ 5000) (hn : N ≤ n) :
    Calls Try.prog 4 #[.slice p N c, .int .i64 n] w (fun e w' => e = .returned (.bool true) ∧ Below w.heap.size w w') := by
  have hv0 := Lib.hid hv
  have hlen := Lib.hid (holds_len hv)
  have hn2 : Hid ((l ++ zs (n - N)).length = n) := by show _ = _; rw [List.length_append, length_zs, ← hlen.out]; omega
  have same0 : (l ++ zs (n - N) == l ++ zs (n - N)) = true := by rw [beq_iff_eq]
  clear hv
  go_enter Try.func4, Try.ntmps4
  go_wp2_with fail
  refine (wakes_any w).mono ?_
  rintro e w1 ⟨rfl, hb⟩
  have hb1 := Lib.hid hb
  have hv1 := Lib.hid (holds_below hv0.out hb (Nat.le_refl _))
  clear hb
  go_wp2_with fail
  refine (fill_ok p N c n l w1 hv1.out hn (by omega)).mono ?_
  rintro e w2 ⟨rfl, hrow, hb⟩
  have hb2 := Lib.hid (hb1.out.trans (hb.mono hb1.out.size))
  have hF2 := Lib.hid hrow
  have hv2 := Lib.hid (holds_below hv0.out hb2.out (Nat.le_refl _))
  clear hrow hb
  go_wp2_with fail
  refine (reffill_ok p N c n l w2 hv2.out hn (by omega)).mono ?_
  rintro e w3 ⟨q, c', rfl, ho, hb⟩
  have hb3 := Lib.hid (hb2.out.trans (hb.mono hb2.out.size))
  have hF3 := Lib.hid (hF2.out.below hb)
  have ho3 := Lib.hid ho
  clear ho hb
  go_wp2_with fail
  refine (same_below (some ⟨w1.heap.size, 0, none⟩) q n n n c' (l ++ zs (n - N)) (l ++ zs (n - N)) w3 (hF3.out.hold hn2.out n) ho3.out.holds.1 (by omega)).mono ?_
  rintro e w4 ⟨rfl, hb⟩
  have hb4 := Lib.hid (hb3.out.trans (hb.mono hb3.out.size))
  have hF4 := Lib.hid (hF3.out.below hb)
  clear hb ho3
  have ho0 : Hid (Own (w4.alloc (.cells #[] 5)) w4.heap.size (.slice (some ⟨w4.heap.size, 0, none⟩) 0 0) []) := Own.made (n := 0) (Nat.zero_le _)
  have hv4 := Lib.hid (holds_below hv0.out (hb4.out.alloc hb4.out.size (.cells #[] 5)) (Nat.le_refl _))
  go_wp2_with (at_builtin; refine wpList_append_bytes rfl _ _ rfl rfl rfl ho0.out hv4.out (by omega) (by simp) ?_; intro q' c'' w5 ho hg)
  obtain ⟨k1, k2, k3⟩ := own_copy hb4.out ho hg
  have hr5 : Hid (BumpRel w w5 w1.heap.size (l ++ zs (n - N)) q' N c'' l w4.heap.size) := ⟨k1, ⟨_, rfl, hF4.out.below k3⟩, k2⟩
  have hg1 : Hid (w.heap.size ≤ w1.heap.size) := hb1.out.size
  have hg2 : Hid (w1.heap.size < w4.heap.size) := hF4.out.lt
  clear k1 k2 k3 ho hg ho0 hv4 same0 hF4 hF3 hF2 hb4 hb3 hb2
  go_loopw [46] (fun v46 wr => ∃ i : Nat, i ≤ n ∧ v46 = .int .i64 i ∧ Hid (BumpRel w wr w1.heap.size (l ++ zs (n - N)) q' N c'' l w4.heap.size)) (fun v46 _ => n - (intOf v46).toNat)
  case atStart => exact ⟨0, Nat.zero_le _, rfl, hr5⟩
  case round =>
    obtain ⟨i, hi, rfl, hr⟩ := hrel
    by_cases hlt : i < n
    · obtain ⟨y, hcell, hfree⟩ : ∃ y : UInt8, wr.cell? ⟨w1.heap.size, i, none⟩ = some (.int .u8 (y.toNat : Int)) ∧ wr.frozen? ⟨w1.heap.size, i, none⟩ = false := by
        obtain ⟨G, hG1, hG2⟩ := hr.out.row
        exact ⟨_, hG2.cell i (by rw [hG1, hn2.out]; exact hlt), hG2.free i⟩
      have hnext := Lib.hid (hr.out.next (j := i) hg1.out hg2.out (y + 1))
      have e : ((y.toNat : Int) + 1) % 256 = ((y + 1).toNat : Int) := by
        rw [UInt8.toNat_add]; simp
      have e' := Lib.hid e
      clear e hr
      go_wp2
      go_roundw
      case rel => exact ⟨i + 1, by omega, by go_num, by rw [e'.out]; exact hnext.out⟩
      case measure => simp [intOf]; omega
    · obtain rfl : i = n := by omega
      go_wp2_with fail
      refine (same_below p q' N c N c'' l l wr (holds_below hv0.out hr.out.below (Nat.le_refl _)) hr.out.own.holds.1 (by omega)).mono ?_
      rintro e w6 ⟨rfl, hb⟩
      have hb6 := Lib.hid (hr.out.below.trans (hb.mono hr.out.below.size))
      have same1 : (l == l) = true := by rw [beq_iff_eq]
      clear hb
      go_wp2_with fail
      go_ret
      exact ⟨rfl, hb6.out⟩

theorem fills_lifted (os : Os) (started : os.Started) (H : Type) (enc : TypeId × Value → H) :
    ReturnsInHanded {} Try.checked os 4 .any (Rows.octetFillsSpec.pre6 enc Try.prog Try.f4 Rows.octetFillsRow.domain false) (Rows.octetFillsSpec.post enc Try.prog Try.f4 false true false false) := by
  refine returnsInHanded_of_change (C := Try.checked) own started (by kernel_rfl) Try.func4
    (ChangeSpec.witness6 (enc := enc) (C := Try.checked) false ⟨#[], #[.slice none 0 0, .int .i64 0], []⟩ 8 (by kernel_rfl) (by kernel_rfl) (by kernel_rfl) (by kernel_rfl)) ?_
  intro W base args ds gs before hval0 hW _ _
  have hval : ∀ (j : Nat) t v, Try.f4.params[j]? = some t → args[j]? = some v → Value.okWide Try.prog W .any base t v := hval0
  have hW' := hW
  obtain ⟨p, q, hA0, hV, rfl, _, _⟩ := hW
  have hA : DataW.TrodAll enc Try.prog W 0 (fun _ => true) true Try.f4.params.toList args.toList ds p := hA0
  rw [Try.params4] at hA hval
  obtain ⟨v0, v1, d0, d1, p0, p1, rfl, rfl, rfl, h0, h1⟩ := trodAll_two hA
  obtain ⟨rfl, rfl⟩ := trodVars_none hV
  obtain ⟨a0, len0, cap0, rfl⟩ := okWide_slice Try.underlying22 (hval 0 22 v0 rfl rfl)
  obtain ⟨n, rfl, rfl, rfl, wn⟩ := open_int Try.underlying3 (hval 1 3 v1 rfl rfl) h1
  obtain ⟨l, hl, hlen, _⟩ := open_bytes h0
  have key : Calls Try.prog 4 #[.slice a0 len0 cap0, .int .i64 n] W (fun e w' => e = .returned (.bool true) ∧ Below W.heap.size W w') := by
    by_cases hg : len0 ≤ 4000 ∧ n ≤ 5000
    · by_cases hN : (len0 : Int) ≤ n
      · obtain ⟨K, rfl⟩ := Int.eq_ofNat_of_zero_le (show 0 ≤ n by omega)
        exact fills_ok a0 len0 cap0 K l W hl hg.1 (by omega) (by omega)
      · exact fills_no a0 len0 cap0 n l W hl hg.1 hg.2 (by omega)
    · exact fills_guard a0 len0 cap0 n W (by omega)
  refine key.mono fun e W' ⟨he, hb⟩ => ?_
  subst he
  exact ⟨_, rfl, law_post laidOut (of_decide_eq_true (by kernel_rfl)) rfl (by kernel_rfl) Try.underlying4 hW' ⟨rfl, rfl, rfl⟩ hb⟩

theorem fills_holds : Rows.OctetFillsSaid :=
  OpenClaim.holds_of_wide 4 Try.f4 rfl rfl rfl rfl rfl rfl rfl ⟨rfl, rfl, rfl, rfl, rfl⟩ rfl rfl rfl rfl rfl (by kernel_rfl) Try.func4 (by kernel_rfl)
    (of_decide_eq_true (by kernel_rfl)) (by unfold Func.isWrapper; first | (rw [if_pos (by decide +kernel)]; kernel_rfl) | (rw [if_neg (by decide +kernel)]; exact ⟨rfl, rfl⟩))
    (fun os started H enc _ => fills_lifted os started H enc)

end Go.Proofs.Ytoafcpfadkejnaa
