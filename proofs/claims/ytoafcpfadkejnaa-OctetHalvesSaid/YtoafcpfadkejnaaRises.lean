/- OctetRises: for every two numbers of 64 bits the law returns true, and its arguments read as they did. No condition. -/
import Derived.Test.YtoafcpfadkejnaaLaw
namespace Go.Proofs.Ytoafcpfadkejnaa
open Go.ChangeShapes Go.WideShapes Go.ChangeAt Go.RowKit

theorem num_be : ∀ (k x : Nat), num (be k x) = x % 256 ^ k
  | 0, x => by simp [be, num, Nat.mod_one]
  | k + 1, x => by
    have e : (UInt8.ofNat x).toNat = x % 256 := by rw [UInt8.toNat_ofNat']
    rw [be, num_snoc, num_be k (x / 256), e, Nat.pow_succ', Nat.mod_mul, Nat.mul_comm, Nat.add_comm]

theorem num_cons_go : ∀ (l : List UInt8) (a : Nat), l.foldl (fun a b => a * 256 + b.toNat) a = a * 256 ^ l.length + num l
  | [], a => by simp [num]
  | b :: l, a => by
    have e : num (b :: l) = (0 * 256 + b.toNat) * 256 ^ l.length + num l := num_cons_go l (0 * 256 + b.toNat)
    rw [e, List.foldl_cons, num_cons_go l, List.length_cons, Nat.pow_succ', Nat.add_mul, Nat.zero_mul, Nat.zero_add, Nat.mul_assoc, Nat.add_assoc]

theorem num_cons (b : UInt8) (l : List UInt8) : num (b :: l) = b.toNat * 256 ^ l.length + num l := by
  rw [num, List.foldl_cons, num_cons_go]; simp

/-- of as many bytes the greater number has the greater ones -/
theorem compare_num : ∀ (l m : List UInt8), l.length = m.length → (Lib.compareBytes l m < 0 ↔ num l < num m)
  | [], [], _ => by simp [Lib.compareBytes]
  | [], _ :: _, h => by simp at h
  | _ :: _, [], h => by simp at h
  | a :: l, b :: m, h => by
    have hl : l.length = m.length := by simpa using h
    have ih := compare_num l m hl
    have h1 := num_lt l
    have h2 := num_lt m
    rw [num_cons, num_cons, hl]
    rw [hl] at h1
    generalize 256 ^ m.length = q at *
    unfold Lib.compareBytes
    by_cases hab : a < b
    · have hab' : a.toNat < b.toNat := UInt8.lt_iff_toNat_lt.1 hab
      have := Nat.mul_le_mul_right q (show a.toNat + 1 ≤ b.toNat from hab')
      rw [Nat.add_mul] at this
      rw [if_pos hab]
      constructor <;> intro _ <;> omega
    · by_cases hba : b < a
      · have hba' : b.toNat < a.toNat := UInt8.lt_iff_toNat_lt.1 hba
        have := Nat.mul_le_mul_right q (show b.toNat + 1 ≤ a.toNat from hba')
        rw [Nat.add_mul] at this
        rw [if_neg hab, if_pos hba]
        constructor <;> intro _ <;> omega
      · have e : a.toNat = b.toNat := by
          have h3 : ¬ a.toNat < b.toNat := fun h => hab (UInt8.lt_iff_toNat_lt.2 h)
          have h4 : ¬ b.toNat < a.toNat := fun h => hba (UInt8.lt_iff_toNat_lt.2 h)
          omega
        rw [if_neg hab, if_neg hba, e, ih]
        exact ⟨fun h => Nat.add_lt_add_left h _, Nat.lt_of_add_lt_add_left⟩

theorem be_inj {k x y : Nat} (h : be k x = be k y) : x % 256 ^ k = y % 256 ^ k := by rw [← num_be, ← num_be, h]
theorem be_mod : ∀ (k x : Nat), be k x = be k (x % 256 ^ k)
  | 0, x => rfl
  | k + 1, x => by
    rw [be, be, be_mod k (x / 256), be_mod k (x % 256 ^ (k + 1) / 256)]
    have e1 : x % 256 ^ (k + 1) / 256 % 256 ^ k = x / 256 % 256 ^ k := by
      rw [Nat.pow_succ, Nat.mul_comm, Nat.mod_mul_right_div_self, Nat.mod_mod]
    have e2 : UInt8.ofNat (x % 256 ^ (k + 1)) = UInt8.ofNat x := by
      apply UInt8.toNat_inj.1
      rw [UInt8.toNat_ofNat', UInt8.toNat_ofNat']
      exact Nat.mod_mod_of_dvd _ (by rw [Nat.pow_succ]; exact Nat.dvd_mul_left _ _)
    rw [e1, e2]

theorem compare_be (k x y : Nat) (hx : x < 256 ^ k) (hy : y < 256 ^ k) : Lib.compareBytes ([] ++ be k x) ([] ++ be k y) < 0 ↔ x < y := by
  rw [List.nil_append, List.nil_append, compare_num _ _ (by rw [length_be, length_be]), num_be, num_be, Nat.mod_eq_of_lt hx, Nat.mod_eq_of_lt hy]

theorem holds_nil (w : World) : Lib.HoldsBytes w (.slice none 0 0) [] := ⟨none, 0, rfl, fun _ => rfl, fun a ha => by cases ha⟩

set_option maxHeartbeats 1000000 in
theorem rises_any (x y : Int) (w : World) (hx : 0 ≤ x) (hx1 : x < 18446744073709551616) (hy : 0 ≤ y) (hy1 : y < 18446744073709551616) :
    Calls Try.prog 9 #[.int .u64 x, .int .u64 y] w (fun e w' => e = .returned (.bool true) ∧ Below w.heap.size w w') := by
  go_enter Try.func9, Try.ntmps9
  go_wp2_with fail
  refine (wakes_any w).mono ?_
  rintro e w1 ⟨rfl, hb⟩
  have hb1 := Lib.hid hb
  clear hb
  go_wp2_with fail
  refine (put64 none 0 0 x [] w1 (holds_nil _) (by decide) hx).mono ?_
  rintro e w2 ⟨rfl, hrow, hb⟩
  have hb2 := Lib.hid (hb1.out.trans (hb.mono hb1.out.size))
  have hr2 := Lib.hid hrow
  clear hrow hb
  go_wp2_with fail
  refine (put64 none 0 0 y [] w2 (holds_nil _) (by decide) hy).mono ?_
  rintro e w3 ⟨rfl, hrow, hb⟩
  have hb3 := Lib.hid (hb2.out.trans (hb.mono hb2.out.size))
  have hr3 := Lib.hid hrow
  have hr2' := Lib.hid (hr2.out.block (hb.block _ hr2.out.lt))
  clear hrow hb
  go_wp2_with fail
  refine (compare_any _ _ 8 8 8 8 _ _ w3 (hr2'.out.holds 8) (hr3.out.holds 8)).mono ?_
  rintro e w4 ⟨rfl, rfl⟩
  have hc8 : (decide (Lib.compareBytes (be 8 x.toNat) (be 8 y.toNat) < 0) == decide (x < y)) = true := by
    have h := compare_be 8 x.toNat y.toNat (by omega) (by omega)
    rw [List.nil_append, List.nil_append] at h
    rw [beq_iff_eq, decide_eq_decide, h]; omega
  have hm := fun z : Int => (show 0 ≤ z % 4294967296 ∧ z % 4294967296 < 4294967296 by omega)
  have hmx := hm x
  have hmy := hm y
  have hn := fun z : Int => (show 0 ≤ z % 65536 ∧ z % 65536 < 65536 by omega)
  have hnx := hn x
  have hny := hn y
  clear hm hn hr2 hr2' hr3
  go_wp2_with fail
  refine (put32 none 0 0 (x % 4294967296) [] w3 (holds_nil _) (by decide) hmx.1 hmx.2).mono ?_
  rintro e w4 ⟨rfl, hrow, hb⟩
  have hb4 := Lib.hid (hb3.out.trans (hb.mono hb3.out.size))
  have hr4 := Lib.hid hrow
  clear hrow hb
  go_wp2_with fail
  refine (put32 none 0 0 (y % 4294967296) [] w4 (holds_nil _) (by decide) hmy.1 hmy.2).mono ?_
  rintro e w5 ⟨rfl, hrow, hb⟩
  have hb5 := Lib.hid (hb4.out.trans (hb.mono hb4.out.size))
  have hr5 := Lib.hid hrow
  have hr4' := Lib.hid (hr4.out.block (hb.block _ hr4.out.lt))
  clear hrow hb
  go_wp2_with fail
  refine (compare_any _ _ 4 4 4 4 _ _ w5 (hr4'.out.holds 4) (hr5.out.holds 4)).mono ?_
  rintro e w6 ⟨rfl, rfl⟩
  have hc4 : (decide (Lib.compareBytes (be 4 (x % 4294967296).toNat) (be 4 (y % 4294967296).toNat) < 0) == decide (x % 4294967296 < y % 4294967296)) = true := by
    have h := compare_be 4 (x % 4294967296).toNat (y % 4294967296).toNat (by omega) (by omega)
    rw [List.nil_append, List.nil_append] at h
    rw [beq_iff_eq, decide_eq_decide, h]; omega
  clear hr4 hr4' hr5 hc8
  go_wp2_with fail
  refine (put16 none 0 0 (x % 65536) [] w5 (holds_nil _) (by decide) hnx.1 hnx.2).mono ?_
  rintro e w7 ⟨rfl, hrow, hb⟩
  have hb7 := Lib.hid (hb5.out.trans (hb.mono hb5.out.size))
  have hr7 := Lib.hid hrow
  clear hrow hb
  go_wp2_with fail
  refine (put16 none 0 0 (y % 65536) [] w7 (holds_nil _) (by decide) hny.1 hny.2).mono ?_
  rintro e w8 ⟨rfl, hrow, hb⟩
  have hb8 := Lib.hid (hb7.out.trans (hb.mono hb7.out.size))
  have hr8 := Lib.hid hrow
  have hr7' := Lib.hid (hr7.out.block (hb.block _ hr7.out.lt))
  clear hrow hb
  go_wp2_with fail
  refine (equal_any _ _ 2 2 2 2 _ _ w8 (hr7'.out.holds 2) (hr8.out.holds 2)).mono ?_
  rintro e w9 ⟨rfl, rfl⟩
  go_wp2_with fail
  go_ret
  refine ⟨?_, hb8.out⟩
  have e : ((be 2 (x % 65536).toNat == be 2 (y % 65536).toNat) == (IntKind.u16.wrap x == IntKind.u16.wrap y)) = true := by
    rw [IntKind.wrap_u16, IntKind.wrap_u16, beq_iff_eq, Bool.eq_iff_iff, beq_iff_eq, beq_iff_eq]
    constructor
    · intro h
      have := be_inj h
      omega
    · intro h; rw [h]
  exact congrArg (fun b => Ending.returned (.bool b)) e

theorem rises_lifted (os : Os) (started : os.Started) (H : Type) (enc : TypeId × Value → H) :
    ReturnsInHanded {} Try.checked os 9 .any (Rows.octetRisesSpec.pre6 enc Try.prog Try.f9 Rows.octetRisesRow.domain false) (Rows.octetRisesSpec.post enc Try.prog Try.f9 false true false false) := by
  refine returnsInHanded_of_change (C := Try.checked) own started (by kernel_rfl) Try.func9
    (ChangeSpec.witness6 (enc := enc) (C := Try.checked) false ⟨#[], #[.int .u64 0, .int .u64 0], []⟩ 8 (by kernel_rfl) (by kernel_rfl) (by kernel_rfl) (by kernel_rfl)) ?_
  intro W base args ds gs before hval0 hW _ _
  have hval : ∀ (j : Nat) t v, Try.f9.params[j]? = some t → args[j]? = some v → Value.okWide Try.prog W .any base t v := hval0
  have hW' := hW
  obtain ⟨p, q, hA0, hV, rfl, _, _⟩ := hW
  have hA : DataW.TrodAll enc Try.prog W 0 (fun _ => true) true Try.f9.params.toList args.toList ds p := hA0
  rw [Try.params9] at hA hval
  obtain ⟨v0, v1, d0, d1, p0, p1, rfl, rfl, rfl, h0, h1⟩ := trodAll_two hA
  obtain ⟨rfl, rfl⟩ := trodVars_none hV
  obtain ⟨a, rfl, rfl, rfl, wa⟩ := open_int Try.underlying23 (hval 0 23 v0 rfl rfl) h0
  obtain ⟨b, rfl, rfl, rfl, wb⟩ := open_int Try.underlying23 (hval 1 23 v1 rfl rfl) h1
  have ra := u64_of_wf wa
  have rb := u64_of_wf wb
  refine (rises_any a b W ra.1 ra.2 rb.1 rb.2).mono fun e W' ⟨he, hb⟩ => ?_
  subst he
  exact ⟨_, rfl, law_post laidOut (of_decide_eq_true (by kernel_rfl)) rfl (by kernel_rfl) Try.underlying4 hW' ⟨rfl, rfl, rfl⟩ hb⟩

theorem rises_holds : Rows.OctetRisesSaid :=
  OpenClaim.holds_of_wide 9 Try.f9 rfl rfl rfl rfl rfl rfl rfl ⟨rfl, rfl, rfl, rfl, rfl⟩ rfl rfl rfl rfl rfl (by kernel_rfl) Try.func9 (by kernel_rfl)
    (of_decide_eq_true (by kernel_rfl)) (by unfold Func.isWrapper; first | (rw [if_pos (by decide +kernel)]; kernel_rfl) | (rw [if_neg (by decide +kernel)]; exact ⟨rfl, rfl⟩))
    (fun os started H enc _ => rises_lifted os started H enc)

end Go.Proofs.Ytoafcpfadkejnaa
