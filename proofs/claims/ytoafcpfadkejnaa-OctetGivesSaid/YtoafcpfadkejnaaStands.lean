/- OctetStands: for every bytes and every number of 64 bits the law returns true, and its arguments read as they did. No condition. -/
import Derived.Test.YtoafcpfadkejnaaFills
namespace Go.Proofs.Ytoafcpfadkejnaa
open Go.ChangeShapes Go.WideShapes Go.ChangeAt Go.RowKit

theorem slice_head22 (p : Option Addr) (n c k : Nat) (hk : k ≤ n) (hn : n ≤ c) (u : World) :
    (Instr.slice 22 (.slice p n c) none (some (.int .i64 (k : Int))) none).run Try.prog u = .ok (.slice p k c) u := by
  have h := run_slice_h (P := Try.prog) u 22 p n c (by kernel_rfl) .i64 (k : Int) (by omega) (by omega)
  rw [h, show (sizeOf (Try.prog.elem 22)).run Try.prog u = .ok 1 u by kernel_rfl]
  simp only [Result.andThen, sliced, Int.toNat_natCast, Nat.zero_mul, Nat.sub_zero]
  congr 2
  split
  · rfl
  · cases p <;> simp [add_zero]

theorem slice_tail22 (p : Option Addr) (n c k : Nat) (hk : k ≤ n) (u : World) :
    (Instr.slice 22 (.slice p n c) (some (.int .i64 (k : Int))) none none).run Try.prog u = .ok (.slice (tl p c k) (n - k) (c - k)) u := by
  have h := run_slice_l (P := Try.prog) u 22 p n c (by kernel_rfl) .i64 (k : Int) (by omega) (by omega)
  rw [h, show (sizeOf (Try.prog.elem 22)).run Try.prog u = .ok 1 u by kernel_rfl]
  simp only [Result.andThen, sliced, Int.toNat_natCast, Nat.mul_one]
  rfl

theorem stands_below {w w1 w2 : World} {A : Obj} (hb : Below w.heap.size w w1) (hg : (w1.alloc A).grownBy w2 (blockOf (some ⟨w1.heap.size, 0, none⟩))) : Below w.heap.size w w2 :=
  (hb.alloc hb.size A).grown hg (by have := hb.size; simp; omega) (fun k e => by cases e; exact hb.size)
theorem stands_size {w1 w2 : World} {A : Obj} {r : Option Nat} (hg : (w1.alloc A).grownBy w2 r) : w1.heap.size < w2.heap.size := by
  have := hg.size; simp at this; omega
theorem stands_below2 {w w2 w3 : World} {A : Obj} {base : Nat} {q : Option Addr} {n c : Nat} {l : List UInt8} (hb : Below w.heap.size w w2) (ho : Own w2 base (.slice q n c) l) (h : w.heap.size ≤ base) (hg : (w2.alloc A).grownBy w3 (blockOf q)) : Below w.heap.size w w3 :=
  (hb.alloc hb.size A).grown hg (by have := hb.size; simp; omega) (fun k e => by
    cases q with
    | none => cases e
    | some a => cases e; exact Nat.le_trans h (ho.holds.2.2 a rfl).1)

theorem room_cut {w : World} {q : Option Addr} {N c : Nat} {l m : List UInt8} (hl : N = l.length) (h : Lib.HoldsBytes w (.slice q (N + 9) c) (l ++ m)) : Lib.HoldsBytes w (.slice q N c) l := by
  have h1 := holds_take h (Below.refl _ _) (show N ≤ N + 9 by omega)
  rw [hl, List.take_left] at h1
  rw [hl]
  exact h1

theorem tl_some {w : World} {q : Option Addr} {n c k : Nat} {L : List UInt8} (h : Lib.HoldsBytes w (.slice q n c) L) (hn : 0 < n) : ∃ a, tl q c k = some a := by
  have e := holds_len h
  obtain ⟨_, _, he, h1, _⟩ := h
  cases he
  cases q with
  | none => rw [h1 rfl] at hn; simp at hn
  | some a => unfold tl; split <;> exact ⟨_, rfl⟩

theorem room_rest {w : World} {q : Option Addr} {N c : Nat} {l : List UInt8} {a : Addr} (hl : N = l.length) (hc : N + 9 ≤ c) (ha : tl q c N = some a) (h : Lib.HoldsBytes w (.slice q (N + 9) c) (l ++ [9, 9, 9, 9, 9, 9, 9, 9, 9])) (i : Nat) (hi : i < 9) : w.cell? (a.add i) = some (.int .u8 9) := by
  have h1 := holds_drop h (show N ≤ N + 9 by omega) hc
  rw [hl, List.drop_left, ← hl, ha] at h1
  obtain ⟨_, _, he, _, h2⟩ := h1
  injection he with e1
  have h3 := h2 a e1.symm i 9 (by
    have : i = 0 ∨ i = 1 ∨ i = 2 ∨ i = 3 ∨ i = 4 ∨ i = 5 ∨ i = 6 ∨ i = 7 ∨ i = 8 := by omega
    rcases this with rfl | rfl | rfl | rfl | rfl | rfl | rfl | rfl | rfl <;> rfl)
  exact h3

def nines : List UInt8 := [9, 9, 9, 9, 9, 9, 9, 9, 9]

set_option maxHeartbeats 1000000 in
theorem stands_ok (p : Option Addr) (N c X : Nat) (l : List UInt8) (w : World) (hv : Lib.HoldsBytes w (.slice p N c) l) (hN : N ≤ 4000) (hX : X < 18446744073709551616) :
    Calls Try.prog 3 #[.slice p N c, .int .u64 X] w (fun e w' => e = .returned (.bool true) ∧ Below w.heap.size w w') := by
  have hv0 := Lib.hid hv
  have hlen := Lib.hid (holds_len hv)
  have hmk : ∀ u : World, (Instr.makeSlice 22 (.int .i64 0) (.int .i64 ((N : Int) + 9))).run Try.prog u =
      .ok (.slice (some ⟨u.heap.size, 0, none⟩) 0 (N + 9)) (u.alloc (.cells (vals (zs (N + 9))).toArray 5)) := fun u => by
    obtain ⟨i0, hi, hz0, hz1, hz2⟩ := info_parts info5
    have h := run_make (P := Try.prog) u 22 5 i0 (.int .u8 0) Try.underlying22 hi hz0 .i64 .i64 0 ((N : Int) + 9) (by omega) (by omega) (by rw [hz2]; omega) (by omega)
    have e : ((N : Int) + 9).toNat = N + 9 := by omega
    rw [e, hz1, Nat.mul_one, show (Value.int .u8 0).cells = #[.int .u8 0] from rfl, made_zs] at h
    exact h
  clear hv
  go_enter Try.func3, Try.ntmps3
  go_wp2_with fail
  refine (wakes_any w).mono ?_
  rintro e w1 ⟨rfl, hb⟩
  have hb1 := Lib.hid hb
  clear hb
  have ho1 : Hid (Own (w1.alloc (.cells (vals (zs (N + 9))).toArray 5)) w1.heap.size (.slice (some ⟨w1.heap.size, 0, none⟩) 0 (N + 9)) []) := Own.made (n := N + 9) (by unfold maxLen; omega)
  have hbA := Lib.hid (hb1.out.alloc hb1.out.size (.cells (vals (zs (N + 9))).toArray 5))
  have hv1 := Lib.hid (holds_below hv0.out hbA.out (Nat.le_refl _))
  go_wp2_with (first
    | (at_builtin; refine wpList_append_bytes rfl _ _ rfl rfl rfl ho1.out hv1.out (by omega) (by simp) ?_; intro q2 c2 w2 ho hg
       have hb2 := Lib.hid (stands_below hb1.out hg)
       have hz2 := Lib.hid (stands_size hg)
       have ho2 : Hid (Own w2 w1.heap.size (.slice q2 N c2) l) := by rw [Nat.zero_add, List.nil_append] at ho; exact ho
       clear ho hg)
    | (at_builtin; refine wpList_append_bytes rfl _ _ rfl rfl rfl (ho2.out.below ((Below.refl _ _).alloc (Nat.le_refl _) _)) (Row.hold (T := 5) (l := nines) (heap_alloc_new w2 _) rfl 9) (by omega) (by have := hz2.out; simp; omega) ?_; intro q3 c3 w3 ho hg
       have hb3 := Lib.hid (stands_below2 hb2.out ho2.out hb1.out.size hg)
       have hz3 := Lib.hid (stands_size hg)
       have ho3 := Lib.hid ho
       have s1 := slice_head22 q3 (N + 9) c3 N (by omega) (by have := ho.holds.2.1; omega)
       have s2 := slice_tail22 q3 (N + 9) c3 N (by omega)
       obtain ⟨a, ha⟩ := tl_some (k := N) ho.holds.1 (by omega)
       rw [ha] at s2
       have ha3 := Lib.hid ha
       clear ha
       clear ho hg ho2 hb2 hz2))
  have hR3 : Hid (Lib.HoldsBytes w3 (.slice q3 (N + 9) c3) (l ++ nines)) := ho3.out.holds.1
  have w20 : 0 ≤ IntKind.u16.wrap (X : Int) ∧ IntKind.u16.wrap (X : Int) < 65536 := by rw [IntKind.wrap_u16]; omega
  have e2 : Hid (be 2 (IntKind.u16.wrap (X : Int)).toNat = be 2 X) := by show _ = _; rw [be_mod 2 X, IntKind.wrap_u16]; congr 1
  go_wp2_with fail
  refine (put16 q3 N c3 (IntKind.u16.wrap (X : Int)) l w3 (room_cut hlen.out hR3.out) (by omega) w20.1 w20.2).mono ?_
  rintro e w4 ⟨rfl, hrow, hb⟩
  have hb4 := Lib.hid (hb3.out.trans (hb.mono hb3.out.size))
  have hR4 := Lib.hid (holds_below hR3.out hb (Nat.le_refl _))
  rw [e2.out] at hrow
  have hA4 := Lib.hid hrow
  clear hrow hb hR3
  go_wp2_with fail
  refine (refput_any p N c X 2 l w4 (holds_below hv0.out hb4.out (Nat.le_refl _)) (by omega) hX (by decide) (by decide)).mono ?_
  rintro e w5 ⟨qa, ca, rfl, ho, hb⟩
  have hb5 := Lib.hid (hb4.out.trans (hb.mono hb4.out.size))
  have hR5 := Lib.hid (holds_below hR4.out hb (Nat.le_refl _))
  have hA5 := Lib.hid ((hA4.out.below hb).hold (n := N + 2) (by rw [List.length_append, length_be, hlen.out]) (N + 2))
  have hB5 := Lib.hid ho.holds.1
  clear ho hb hR4 hA4
  go_wp2_with fail
  refine (same_below (some ⟨w3.heap.size, 0, none⟩) qa (N + 2) (N + 2) (N + 2) ca (l ++ be 2 X) (l ++ be 2 X) w5 hA5.out hB5.out (by omega)).mono ?_
  rintro e w6 ⟨rfl, hb⟩
  have hb6 := Lib.hid (hb5.out.trans (hb.mono hb5.out.size))
  have hR6 := Lib.hid (holds_below hR5.out hb (Nat.le_refl _))
  have same2 : (l ++ be 2 X == l ++ be 2 X) = true := by rw [beq_iff_eq]
  clear hb hA5 hB5 hR5
  have w40 : 0 ≤ (X : Int) % 4294967296 ∧ (X : Int) % 4294967296 < 4294967296 := by omega
  have e4 : Hid (be 4 ((X : Int) % 4294967296).toNat = be 4 X) := by show _ = _; rw [be_mod 4 X]; congr 1
  go_wp2_with fail
  refine (put32 q3 N c3 ((X : Int) % 4294967296) l w6 (room_cut hlen.out hR6.out) (by omega) w40.1 w40.2).mono ?_
  rintro e w7 ⟨rfl, hrow, hb⟩
  have hb7 := Lib.hid (hb6.out.trans (hb.mono hb6.out.size))
  have hR7 := Lib.hid (holds_below hR6.out hb (Nat.le_refl _))
  rw [e4.out] at hrow
  have hA7 := Lib.hid hrow
  clear hrow hb hR6
  go_wp2_with fail
  refine (refput_any p N c X 4 l w7 (holds_below hv0.out hb7.out (Nat.le_refl _)) (by omega) hX (by decide) (by decide)).mono ?_
  rintro e w8 ⟨qa, ca, rfl, ho, hb⟩
  have hb8 := Lib.hid (hb7.out.trans (hb.mono hb7.out.size))
  have hR8 := Lib.hid (holds_below hR7.out hb (Nat.le_refl _))
  have hA8 := Lib.hid ((hA7.out.below hb).hold (n := N + 4) (by rw [List.length_append, length_be, hlen.out]) (N + 4))
  have hB8 := Lib.hid ho.holds.1
  clear ho hb hR7 hA7
  go_wp2_with fail
  refine (same_below (some ⟨w6.heap.size, 0, none⟩) qa (N + 4) (N + 4) (N + 4) ca (l ++ be 4 X) (l ++ be 4 X) w8 hA8.out hB8.out (by omega)).mono ?_
  rintro e w9 ⟨rfl, hb⟩
  have hb9 := Lib.hid (hb8.out.trans (hb.mono hb8.out.size))
  have hR9 := Lib.hid (holds_below hR8.out hb (Nat.le_refl _))
  have same4 : (l ++ be 4 X == l ++ be 4 X) = true := by rw [beq_iff_eq]
  clear hb hA8 hB8 hR8
  have w80 : 0 ≤ (X : Int) ∧ (X : Int) < 18446744073709551616 := by omega
  have e8 : Hid (be 8 ((X : Int)).toNat = be 8 X) := by show _ = _; rfl
  go_wp2_with fail
  refine (put64 q3 N c3 ((X : Int)) l w9 (room_cut hlen.out hR9.out) (by omega) w80.1).mono ?_
  rintro e w10 ⟨rfl, hrow, hb⟩
  have hb10 := Lib.hid (hb9.out.trans (hb.mono hb9.out.size))
  have hR10 := Lib.hid (holds_below hR9.out hb (Nat.le_refl _))
  rw [e8.out] at hrow
  have hA10 := Lib.hid hrow
  clear hrow hb hR9
  go_wp2_with fail
  refine (refput_any p N c X 8 l w10 (holds_below hv0.out hb10.out (Nat.le_refl _)) (by omega) hX (by decide) (by decide)).mono ?_
  rintro e w11 ⟨qa, ca, rfl, ho, hb⟩
  have hb11 := Lib.hid (hb10.out.trans (hb.mono hb10.out.size))
  have hR11 := Lib.hid (holds_below hR10.out hb (Nat.le_refl _))
  have hA11 := Lib.hid ((hA10.out.below hb).hold (n := N + 8) (by rw [List.length_append, length_be, hlen.out]) (N + 8))
  have hB11 := Lib.hid ho.holds.1
  clear ho hb hR10 hA10
  go_wp2_with fail
  refine (same_below (some ⟨w9.heap.size, 0, none⟩) qa (N + 8) (N + 8) (N + 8) ca (l ++ be 8 X) (l ++ be 8 X) w11 hA11.out hB11.out (by omega)).mono ?_
  rintro e w12 ⟨rfl, hb⟩
  have hb12 := Lib.hid (hb11.out.trans (hb.mono hb11.out.size))
  have hR12 := Lib.hid (holds_below hR11.out hb (Nat.le_refl _))
  have same8 : (l ++ be 8 X == l ++ be 8 X) = true := by rw [beq_iff_eq]
  clear hb hA11 hB11 hR11
  have hc3 : Hid (N + 9 ≤ c3) := ho3.out.holds.2.1
  clear same2 same4 same8
  go_wp2_with fail
  go_loop [7, 61] (fun v7 v61 => ∃ i : Nat, i ≤ 9 ∧ v61 = .int .i64 i ∧ v7 = .bool true) (fun _ v61 => 9 - (intOf v61).toNat)
  case atStart => exact ⟨0, by omega, by go_num, rfl⟩
  case round =>
    obtain ⟨i, hi, rfl, rfl⟩ := hrel
    by_cases hlt : i < 9
    · have hcell := room_rest hlen.out hc3.out ha3.out hR12.out i hlt
      go_wp2
      go_round
      case rel => exact ⟨i + 1, by omega, by go_num, rfl⟩
      case measure => simp [intOf]; omega
    · obtain rfl : i = 9 := by omega
      go_wp2_with fail
      refine (same_below q3 p N c3 N c l l w12 (room_cut hlen.out hR12.out) (holds_below hv0.out hb12.out (Nat.le_refl _)) (by omega)).mono ?_
      rintro e w13 ⟨rfl, hb⟩
      have hb13 := Lib.hid (hb12.out.trans (hb.mono hb12.out.size))
      have same1 : (l == l) = true := by rw [beq_iff_eq]
      clear hb
      go_wp2_with fail
      go_ret
      exact ⟨rfl, hb13.out⟩

set_option maxHeartbeats 400000 in
theorem stands_big (p : Option Addr) (N c : Nat) (x : Int) (w : World) (hN : 4000 < N) :
    Calls Try.prog 3 #[.slice p N c, .int .u64 x] w (fun e w' => e = .returned (.bool true) ∧ Below w.heap.size w w') := by
  go_enter Try.func3, Try.ntmps3
  go_wp2_with fail
  refine (wakes_any w).mono ?_
  rintro e w1 ⟨rfl, hb⟩
  have hb1 := Lib.hid hb
  clear hb
  go_wp2_with fail
  go_ret
  exact ⟨rfl, hb1.out⟩

theorem stands_lifted (os : Os) (started : os.Started) (H : Type) (enc : TypeId × Value → H) :
    ReturnsInHanded {} Try.checked os 3 .any (Rows.octetStandsSpec.pre6 enc Try.prog Try.f3 Rows.octetStandsRow.domain false) (Rows.octetStandsSpec.post enc Try.prog Try.f3 false true false false) := by
  refine returnsInHanded_of_change (C := Try.checked) own started (by kernel_rfl) Try.func3
    (ChangeSpec.witness6 (enc := enc) (C := Try.checked) false ⟨#[], #[.slice none 0 0, .int .u64 0], []⟩ 8 (by kernel_rfl) (by kernel_rfl) (by kernel_rfl) (by kernel_rfl)) ?_
  intro W base args ds gs before hval0 hW _ _
  have hval : ∀ (j : Nat) t v, Try.f3.params[j]? = some t → args[j]? = some v → Value.okWide Try.prog W .any base t v := hval0
  have hW' := hW
  obtain ⟨p, q, hA0, hV, rfl, _, _⟩ := hW
  have hA : DataW.TrodAll enc Try.prog W 0 (fun _ => true) true Try.f3.params.toList args.toList ds p := hA0
  rw [Try.params3] at hA hval
  obtain ⟨v0, v1, d0, d1, p0, p1, rfl, rfl, rfl, h0, h1⟩ := trodAll_two hA
  obtain ⟨rfl, rfl⟩ := trodVars_none hV
  obtain ⟨a0, len0, cap0, rfl⟩ := okWide_slice Try.underlying22 (hval 0 22 v0 rfl rfl)
  obtain ⟨b, rfl, rfl, rfl, wb⟩ := open_int Try.underlying23 (hval 1 23 v1 rfl rfl) h1
  have rb := u64_of_wf wb
  obtain ⟨l, hl, hlen, _⟩ := open_bytes h0
  have key : Calls Try.prog 3 #[.slice a0 len0 cap0, .int .u64 b] W (fun e w' => e = .returned (.bool true) ∧ Below W.heap.size W w') := by
    by_cases hn : len0 ≤ 4000
    · obtain ⟨X, rfl⟩ := Int.eq_ofNat_of_zero_le rb.1
      exact stands_ok a0 len0 cap0 X l W hl hn (by have := rb.2; omega)
    · exact stands_big a0 len0 cap0 b W (by omega)
  refine key.mono fun e W' ⟨he, hb⟩ => ?_
  subst he
  exact ⟨_, rfl, law_post laidOut (of_decide_eq_true (by kernel_rfl)) rfl (by kernel_rfl) Try.underlying4 hW' ⟨rfl, rfl, rfl⟩ hb⟩

theorem stands_holds : Rows.OctetStandsSaid :=
  OpenClaim.holds_of_wide 3 Try.f3 rfl rfl rfl rfl rfl rfl rfl ⟨rfl, rfl, rfl, rfl, rfl⟩ rfl rfl rfl rfl rfl (by kernel_rfl) Try.func3 (by kernel_rfl)
    (of_decide_eq_true (by kernel_rfl)) (by unfold Func.isWrapper; first | (rw [if_pos (by decide +kernel)]; kernel_rfl) | (rw [if_neg (by decide +kernel)]; exact ⟨rfl, rfl⟩))
    (fun os started H enc _ => stands_lifted os started H enc)

end Go.Proofs.Ytoafcpfadkejnaa
