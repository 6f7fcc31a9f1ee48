/- The document's own answers (bursaryref01), by their contracts. -/
import Derived.Test.YtoafcpfadkejnaaOwn
namespace Go.Proofs.Ytoafcpfadkejnaa
open Go.RowKit

def dg (X i : Nat) : Nat := X / 256 ^ i
theorem dg_zero (X : Nat) : dg X 0 = X := by simp [dg]
theorem dg_succ (X i : Nat) : dg X (i + 1) = dg X i / 256 := by unfold dg; rw [Nat.pow_succ, Nat.div_div_eq_div_mul]
theorem dg_le (X i : Nat) : dg X i ≤ X := Nat.div_le_self _ _

def dgb (X k : Nat) : UInt8 := UInt8.ofNat (dg X k)
def DigitPost (X k : Nat) (w : World) (e : Ending) (w' : World) : Prop := e = .returned (.int .u8 ((dgb X k).toNat : Int)) ∧ w = w'

set_option maxHeartbeats 400000 in
theorem digit_any (X k : Nat) (w : World) (hX : X < 18446744073709551616) (hk : k ≤ 8) :
    Calls Try.prog 32 #[.int .u64 X, .int .i64 k] w (DigitPost X k w) := by
  go_enter Try.func32, Try.ntmps32
  go_wp2
  go_loop [0, 5] (fun v0 v5 => ∃ i : Nat, i ≤ k ∧ v5 = .int .i64 i ∧ v0 = .int .u64 (dg X i)) (fun _ v5 => k - (intOf v5).toNat)
  case atStart => exact ⟨0, Nat.zero_le _, rfl, by rw [dg_zero]⟩
  case round =>
    obtain ⟨i, hi, rfl, rfl⟩ := hrel
    have hd : dg X i < 18446744073709551616 := Nat.lt_of_le_of_lt (dg_le _ _) hX
    by_cases hlt : i < k
    · go_wp2
      go_round
      case rel => exact ⟨i + 1, by omega, by go_num, by rw [dg_succ]; go_num⟩
      case measure => simp [intOf]; omega
    · obtain rfl : i = k := by omega
      go_wp2
      go_ret
      refine ⟨?_, rfl⟩
      have e : ((dgb X i).toNat : Int) = (dg X i : Int) % 256 := by unfold dgb; rw [UInt8.toNat_ofNat']; omega
      rw [e]
      rfl

theorem digit_int (X : Nat) (m : Int) (w : World) (hX : X < 18446744073709551616) (hm : 0 ≤ m) (hm1 : m ≤ 8) :
    Calls Try.prog 32 #[.int .u64 X, .int .i64 m] w (DigitPost X m.toNat w) := by
  obtain ⟨k, rfl⟩ := Int.eq_ofNat_of_zero_le hm
  exact digit_any X k w hX (by omega)

theorem be_get : ∀ (k X j : Nat), j < k → (be k X)[j]? = some (dgb X (k - 1 - j))
  | 0, _, _, h => by omega
  | k + 1, X, 0, _ => by rw [be_cons]; rfl
  | k + 1, X, j + 1, h => by
    rw [be_cons, List.getElem?_cons_succ, be_get k X j (by omega)]
    congr 2
    omega

def lenOf : Value → Nat | .slice _ n _ => n | _ => 0

/-- The slice that is made: of these bytes, in memory of the call's own. -/
def MadePost (w : World) (n : Nat) (l : List UInt8) (e : Ending) (w' : World) : Prop :=
  ∃ q c, e = .returned (.slice q n c) ∧ Own w' w.heap.size (.slice q n c) l ∧ Below w.heap.size w w'

structure GrowRel (w wr : World) (q : Option Addr) (n c : Nat) (l : List UInt8) : Prop where
  below : Below w.heap.size w wr
  own : Own wr w.heap.size (.slice q n c) l

theorem GrowRel.next {w wr w1 : World} {q q1 : Option Addr} {n c n1 c1 : Nat} {l l1 : List UInt8} {A : Obj} (h : GrowRel w wr q n c l) (ho : Own w1 w.heap.size (.slice q1 n1 c1) l1) (hg : (wr.alloc A).grownBy w1 (blockOf q)) : GrowRel w w1 q1 n1 c1 l1 :=
  ⟨(h.below.alloc h.below.size A).grown hg (by have := h.below.size; simp; omega) (fun k e => by
    cases q with
    | none => cases e
    | some a => cases e; exact (h.own.holds.2.2 a rfl).1), ho⟩

theorem GrowRel.start {w w1 : World} {q : Option Addr} {n c : Nat} {l : List UInt8} {A : Obj} (ho : Own w1 w.heap.size (.slice q (0 + n) c) ([] ++ l)) (hg : (w.alloc A).grownBy w1 (blockOf (some ⟨w.heap.size, 0, none⟩))) : GrowRel w w1 q n c l :=
  ⟨((Below.refl w.heap.size w).alloc (Nat.le_refl _) A).grown hg (by simp) (fun k e => by cases e; exact Nat.le_refl _), by rw [Nat.zero_add, List.nil_append] at ho; exact ho⟩

theorem holds_new1 (w : World) (b : UInt8) : Lib.HoldsBytes (w.alloc (.cells #[.int .u8 (b.toNat : Int)] 5)) (.slice (some ⟨w.heap.size, 0, none⟩) 1 1) [b] :=
  Row.hold (T := 5) (l := [b]) (heap_alloc_new _ _) rfl 1

set_option maxHeartbeats 1000000 in
theorem refput_any (p : Option Addr) (n c X k : Nat) (l : List UInt8) (w : World) (hv : Lib.HoldsBytes w (.slice p n c) l) (hn : n ≤ 140737488355) (hX : X < 18446744073709551616) (hk : k ≤ 8) (hk1 : 1 ≤ k) :
    Calls Try.prog 13 #[.slice p n c, .int .u64 X, .int .i64 k] w (MadePost w (n + k) (l ++ be k X)) := by
  have hv0 := Lib.hid hv
  have hb0 := Lib.hid ((Below.refl w.heap.size w).alloc (Nat.le_refl _) (.cells #[] 5))
  have ho0 : Hid (Own (w.alloc (.cells #[] 5)) w.heap.size (.slice (some ⟨w.heap.size, 0, none⟩) 0 0) []) := Own.made (n := 0) (Nat.zero_le _)
  have hv1 := Lib.hid (holds_below hv hb0.out (Nat.le_refl _))
  clear hv
  go_enter Try.func13, Try.ntmps13
  go_wp2_with (at_builtin; refine wpList_append_bytes rfl _ _ rfl rfl rfl ho0.out hv1.out (by omega) (by simp) ?_; intro q' c' w1 ho hg)
  have hr0 : Hid (GrowRel w w1 q' (n + 0) c' (l ++ (be k X).take 0)) := by
    rw [List.take_zero, List.append_nil]
    exact GrowRel.start ho hg
  clear ho hg hb0 ho0 hv1
  go_loopw [7, 8] (fun v7 v8 wr => ∃ (j : Nat) (q : Option Addr) (c : Nat), j ≤ k ∧ v8 = .int .i64 ((k : Int) - 1 - j) ∧ v7 = .slice q (n + j) c ∧ Hid (GrowRel w wr q (n + j) c (l ++ (be k X).take j))) (fun _ v8 _ => (intOf v8 + 1).toNat)
  case atStart => exact ⟨0, q', c', Nat.zero_le _, by go_num, rfl, hr0⟩
  case round =>
    obtain ⟨j, q, c1, hj, rfl, rfl, hr⟩ := hrel
    by_cases hlt : j < k
    · go_wp2_with (first
        | (go_at_call 32; refine (digit_int X ((k : Int) - 1 - j) _ hX (by omega) (by omega)).mono ?_; rintro e w2 ⟨rfl, rfl⟩)
        | (at_builtin; refine wpList_append_bytes rfl _ _ rfl rfl rfl (hr.out.own.below ((Below.refl _ _).alloc (Nat.le_refl _) _)) (holds_new1 wr _) (by omega) (by have := hr.out.below.size; simp; omega) ?_; intro q2 c2 w2 ho hg))
      have hnext : Hid (GrowRel w w2 q2 (n + j + 1) c2 (l ++ (be k X).take (j + 1))) := by
        have e : (be k X).take (j + 1) = (be k X).take j ++ [dgb X (k - 1 - j)] := take_snoc' (be_get k X j hlt)
        rw [e, ← List.append_assoc]
        exact hr.out.next ho hg
      clear ho hg
      go_roundw
      case rel => exact ⟨j + 1, q2, c2, by omega, by go_num, rfl, hnext⟩
      case measure => simp [intOf]; omega
    · obtain rfl : j = k := by omega
      go_wp2
      go_ret
      refine ⟨q, c1, rfl, ?_, hr.out.below⟩
      have h := hr.out.own
      rw [List.take_of_length_le (by rw [length_be]; exact Nat.le_refl _)] at h
      exact h

set_option maxHeartbeats 400000 in
theorem reffill_neg (p : Option Addr) (n c : Nat) (m : Int) (w : World) (hm : m < 0) :
    Calls Try.prog 17 #[.slice p n c, .int .i64 m] w (fun e w' => e = .returned (.tuple #[.slice none 0 0, .int .i64 2]) ∧ w = w') := by
  go_enter Try.func17, Try.ntmps17
  go_wp2
  go_ret2
  exact ⟨rfl, rfl⟩

set_option maxHeartbeats 400000 in
theorem reffill_long (p : Option Addr) (n c : Nat) (m : Int) (w : World) (hm : 0 ≤ m) (hn : m < n) :
    Calls Try.prog 17 #[.slice p n c, .int .i64 m] w (fun e w' => e = .returned (.tuple #[.slice none 0 0, .int .i64 3]) ∧ w = w') := by
  go_enter Try.func17, Try.ntmps17
  go_wp2
  all_goals go_ret2
  all_goals exact ⟨rfl, rfl⟩

def Made2Post (w : World) (n : Nat) (l : List UInt8) (e : Ending) (w' : World) : Prop :=
  ∃ q c, e = .returned (.tuple #[.slice q n c, .int .i64 0]) ∧ Own w' w.heap.size (.slice q n c) l ∧ Below w.heap.size w w'

set_option maxHeartbeats 1000000 in
theorem reffill_ok (p : Option Addr) (n c m : Nat) (l : List UInt8) (w : World) (hv : Lib.HoldsBytes w (.slice p n c) l) (hn : n ≤ m) (hm : m ≤ 140737488355) :
    Calls Try.prog 17 #[.slice p n c, .int .i64 m] w (Made2Post w m (l ++ zs (m - n))) := by
  have hv0 := Lib.hid hv
  have hb0 := Lib.hid ((Below.refl w.heap.size w).alloc (Nat.le_refl _) (.cells #[] 5))
  have ho0 : Hid (Own (w.alloc (.cells #[] 5)) w.heap.size (.slice (some ⟨w.heap.size, 0, none⟩) 0 0) []) := Own.made (n := 0) (Nat.zero_le _)
  have hv1 := Lib.hid (holds_below hv hb0.out (Nat.le_refl _))
  clear hv
  go_enter Try.func17, Try.ntmps17
  go_wp2_with (at_builtin; refine wpList_append_bytes rfl _ _ rfl rfl rfl ho0.out hv1.out (by omega) (by simp) ?_; intro q' c' w1 ho hg)
  have hr0 : Hid (GrowRel w w1 q' (n + 0) c' (l ++ zs 0)) := by
    rw [show zs 0 = [] from rfl, List.append_nil]
    exact GrowRel.start ho hg
  clear ho hg hb0 ho0 hv1
  go_loopw [6] (fun v6 wr => ∃ (j : Nat) (q : Option Addr) (c : Nat), n + j ≤ m ∧ v6 = .slice q (n + j) c ∧ Hid (GrowRel w wr q (n + j) c (l ++ zs j))) (fun v6 _ => m - lenOf v6)
  case atStart => exact ⟨0, q', c', hn, rfl, hr0⟩
  case round =>
    obtain ⟨j, q, c1, hj, rfl, hr⟩ := hrel
    by_cases hlt : n + j < m
    · go_wp2_with (at_builtin; refine wpList_append_bytes rfl _ _ rfl rfl rfl (hr.out.own.below ((Below.refl _ _).alloc (Nat.le_refl _) _)) (holds_new1 wr 0) (by omega) (by have := hr.out.below.size; simp; omega) ?_; intro q2 c2 w2 ho hg)
      have hnext : Hid (GrowRel w w2 q2 (n + j + 1) c2 (l ++ zs (j + 1))) := by
        have e : zs (j + 1) = zs j ++ [0] := by simp [zs, List.replicate_succ']
        rw [e, ← List.append_assoc]
        exact hr.out.next ho hg
      clear ho hg
      go_roundw
      case rel => exact ⟨j + 1, q2, c2, by omega, rfl, hnext⟩
      case measure => simp [lenOf]; omega
    · obtain rfl : m = n + j := by omega
      go_wp2
      go_ret2
      refine ⟨q, c1, rfl, ?_, hr.out.below⟩
      have h := hr.out.own
      rw [Nat.add_sub_cancel_left]
      exact h

end Go.Proofs.Ytoafcpfadkejnaa
