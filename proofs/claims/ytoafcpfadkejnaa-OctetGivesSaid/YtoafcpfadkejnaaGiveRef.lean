/- Number and Gives (bursaryref01) by their contracts; the parts of a slice that OctetGives takes. -/
import Derived.Test.YtoafcpfadkejnaaBehind
namespace Go.Proofs.Ytoafcpfadkejnaa
open Go.RowKit

/-- 256 to the j-th, as a number of 64 bits -/
def wt (j : Nat) : Nat := 256 ^ j % 18446744073709551616
theorem wt_lt (j : Nat) : wt j < 18446744073709551616 := Nat.mod_lt _ (by decide)
theorem wt_succ (j : Nat) : IntKind.u64.wrap ((wt j : Int) * 256) = (wt (j + 1) : Int) := by
  rw [IntKind.wrap_u64]
  unfold wt
  rw [Nat.pow_succ, ← Nat.mod_mul_mod]
  omega
theorem wt_small {j : Nat} (h : j < 8) : wt j = 256 ^ j := by
  unfold wt
  apply Nat.mod_eq_of_lt
  have : 256 ^ j ≤ 256 ^ 7 := Nat.pow_le_pow_right (by decide) (by omega)
  have h7 : (256 : Nat) ^ 7 < 18446744073709551616 := by decide
  omega

/-- the number of the last j bytes -/
def sfx (l : List UInt8) (j : Nat) : Nat := num (l.drop (l.length - j))
theorem sfx_zero (l : List UInt8) : sfx l 0 = 0 := by simp [sfx, num]
theorem sfx_all (l : List UInt8) : sfx l l.length = num l := by simp [sfx]
theorem sfx_succ {l : List UInt8} {j : Nat} {b : UInt8} (hj : j < l.length) (hb : l[l.length - 1 - j]? = some b) : sfx l (j + 1) = b.toNat * 256 ^ j + sfx l j := by
  unfold sfx
  have e : l.length - (j + 1) = l.length - 1 - j := by omega
  have hi : l.length - 1 - j < l.length := by omega
  rw [e, List.drop_eq_getElem_cons hi]
  have hb2 : l[l.length - 1 - j] = b := by
    rw [List.getElem?_eq_getElem hi] at hb; exact Option.some.inj hb
  rw [hb2, num_cons]
  have e2 : l.length - 1 - j + 1 = l.length - j := by omega
  rw [e2, List.length_drop]
  congr 3
  omega

theorem sfx_lt (l : List UInt8) (j : Nat) (hj : j ≤ 8) : sfx l j < 18446744073709551616 := by
  have h := num_lt (l.drop (l.length - j))
  have h2 : 256 ^ (l.drop (l.length - j)).length ≤ 256 ^ 8 := Nat.pow_le_pow_right (by decide) (by rw [List.length_drop]; omega)
  have h8 : (256 : Nat) ^ 8 = 18446744073709551616 := by decide
  unfold sfx
  omega

theorem sfx_step {l : List UInt8} {j : Nat} {b : UInt8} (hj : j < l.length) (h8 : l.length ≤ 8) (hb : l[l.length - 1 - j]? = some b) :
    IntKind.u64.wrap ((sfx l j : Int) + IntKind.u64.wrap ((wt j : Int) * IntKind.u64.wrap (b.toNat : Int))) = (sfx l (j + 1) : Int) := by
  have hb0 := b.toNat_lt
  rw [IntWalk.u64_in (b.toNat : Int) (by omega)]
  have h1 := sfx_lt l (j + 1) (by omega)
  rw [sfx_succ hj hb] at h1 ⊢
  rw [wt_small (by omega)]
  have hb := b.toNat_lt
  generalize hm : b.toNat * 256 ^ j = m at *
  have e : ((256 ^ j : Nat) : Int) * (b.toNat : Int) = (m : Int) := by rw [← hm, Int.natCast_mul, Int.mul_comm]
  rw [e, IntKind.wrap_u64, IntKind.wrap_u64]
  omega

set_option maxHeartbeats 400000 in
theorem refnumber (p : Option Addr) (n c : Nat) (l : List UInt8) (w : World) (hv : Lib.HoldsBytes w (.slice p n c) l) (hn : n ≤ 8) :
    Calls Try.prog 24 #[.slice p n c] w (fun e w' => e = .returned (.int .u64 (num l : Int)) ∧ w = w') := by
  have hlen := Lib.hid (holds_len hv)
  have hv0 := Lib.hid hv
  clear hv
  go_enter Try.func24, Try.ntmps24
  go_wp2
  go_loop [3, 4, 5] (fun v3 v4 v5 => ∃ j : Nat, j ≤ n ∧ v5 = .int .i64 ((n : Int) - 1 - j) ∧ v4 = .int .u64 (wt j) ∧ v3 = .int .u64 (sfx l j)) (fun _ _ v5 => (intOf v5 + 1).toNat)
  case atStart => exact ⟨0, Nat.zero_le _, by go_num, rfl, by rw [sfx_zero]; rfl⟩
  case round =>
    obtain ⟨j, hj, rfl, rfl, rfl⟩ := hrel
    have hw := wt_lt j
    have hs := sfx_lt l j (by omega)
    by_cases hlt : j < n
    · obtain ⟨a, b, rfl, hb, hcell⟩ := holds_at hv0.out (n - 1 - j) (by omega)
      have hc : w.cell? (a.add (n - 1 - j)) = some (.int .u8 (b.toNat : Int)) := hcell 0
      clear hcell
      have st := Lib.hid (sfx_step (l := l) (j := j) (b := b) (by rw [← hlen.out]; exact hlt) (by rw [← hlen.out]; exact hn) (by rw [← hlen.out]; exact hb))
      have sw := Lib.hid (wt_succ j)
      clear hb
      go_wp2
      go_round
      case rel => exact ⟨j + 1, by omega, by go_num, by rw [sw.out], by rw [st.out]⟩
      case measure => simp [intOf]; omega
    · obtain rfl : j = n := by omega
      go_wp2
      go_ret
      refine ⟨congrArg (fun x : Nat => Ending.returned (.int .u64 (x : Int))) ?_, rfl⟩
      rw [hlen.out, sfx_all]

set_option maxHeartbeats 400000 in
theorem refgives (p : Option Addr) (N c : Nat) (at' n : Int) (w : World) (h0 : 0 ≤ at') (h1 : at' ≤ N) (hN : N ≤ 4000) :
    Calls Try.prog 25 #[.slice p N c, .int .i64 at', .int .i64 n] w (fun e w' => e = .returned (.int .i64 (if n < 0 then 2 else if (N : Int) - at' < n then 7 else 0)) ∧ w = w') := by
  by_cases hn : n < 0
  · rw [if_pos hn]
    go_enter Try.func25, Try.ntmps25
    go_wp2
    go_ret
    exact ⟨rfl, rfl⟩
  · rw [if_neg hn]
    by_cases hs : (N : Int) - at' < n
    · rw [if_pos hs]
      go_enter Try.func25, Try.ntmps25
      go_wp2
      go_ret
      exact ⟨rfl, rfl⟩
    · rw [if_neg hs]
      go_enter Try.func25, Try.ntmps25
      go_wp2
      go_ret
      exact ⟨rfl, rfl⟩

theorem gives_next {N A : Nat} {l : List UInt8} {n : Int} (hl : N = l.length) (hA : A ≤ N) : (if n < 0 then 2 else if (N : Int) - (A : Int) < n then 7 else 0) = nextE n (l.drop A) 0 := by
  have hlen : ((l.drop A).length : Int) = (N : Int) - A := by rw [List.length_drop]; omega
  unfold nextE gOk
  by_cases h1 : n < 0
  · rw [if_pos h1]
    have : decide (0 ≤ n) = false := by simpa using h1
    simp [this, h1]
  · rw [if_neg h1]
    have h0 : decide (0 ≤ n) = true := by simp; omega
    by_cases h2 : (N : Int) - A < n
    · rw [if_pos h2]
      have : decide (n ≤ ((l.drop A).length : Int)) = false := by rw [hlen]; simp; omega
      rw [this, Bool.and_false, if_neg (by decide), if_pos rfl, if_neg h1]
    · rw [if_neg h2]
      have : decide (n ≤ ((l.drop A).length : Int)) = true := by rw [hlen]; simp; omega
      rw [this, h0]
      rfl

theorem slice_lh22 (p : Option Addr) (N c A n : Nat) (hn : A + n ≤ N) (hc : N ≤ c) (u : World) :
    (Instr.slice 22 (.slice p N c) (some (.int .i64 (A : Int))) (some (.int .i64 ((A : Int) + n))) none).run Try.prog u = .ok (.slice (tl p c A) n (c - A)) u := by
  have h := run_slice_lh (P := Try.prog) u 22 p N c (by kernel_rfl) .i64 .i64 (A : Int) ((A : Int) + n) (by omega) (by omega) (by omega)
  rw [h, show (sizeOf (Try.prog.elem 22)).run Try.prog u = .ok 1 u by kernel_rfl]
  have e : ((A : Int) + n).toNat = A + n := by omega
  simp only [Result.andThen, sliced, Int.toNat_natCast, Nat.mul_one, e, Nat.add_sub_cancel_left]
  rfl

end Go.Proofs.Ytoafcpfadkejnaa
