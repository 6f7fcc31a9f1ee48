/- The document's own sum (bursaryref03.Sum32), by its contract: it is the sum that steps give. -/
import Derived.Test.YthjmmnbfjahamaaDoorSRef
namespace Go.Proofs.YthjmmnbfjahamaaDoor
open Go.RowKit

theorem div_cast (c m : Nat) : ((c : Int) / 2 ^ m) = ((c / 2 ^ m : Nat) : Int) := by norm_cast
theorem pow_val (m : Nat) (h : m < 32) : (bits .and .u32 ((517762881 : Int) / 2 ^ m) 1 == 1) = poly.getLsbD (31 - m) := by
  have e : ((517762881 : Int) / 2 ^ m) = ((517762881 / 2 ^ m : Nat) : Int) := div_cast 517762881 m
  have h2 : 517762881 / 2 ^ m ≤ 517762881 := Nat.div_le_self _ _
  have h3 : bits .and .u32 ((517762881 / 2 ^ m : Nat) : Int) ((1 : Nat) : Int) = ((517762881 / 2 ^ m &&& 1 : Nat) : Int) := u32_and_nat _ 1 (by omega) (by decide)
  have h4 := poly_bits (31 - m) (by omega)
  rw [show 31 - (31 - m) = m by omega, Nat.shiftRight_eq_div_pow] at h4
  rw [e, show (1 : Int) = ((1 : Nat) : Int) from rfl, h3, Nat.and_one_is_mod, ← h4, Nat.testBit_eq_decide_div_mod_eq, Nat.pow_zero, Nat.div_one, Bool.eq_iff_iff, beq_iff_eq, decide_eq_true_eq]
  omega

theorem power_nat (m : Nat) (w : World) (h : m < 32) : Calls Tryd.prog 22 #[.int .i64 (m : Int)] w (fun e w' => e = .returned (.bool (poly.getLsbD (31 - m))) ∧ w = w') := by
  have hv := pow_val m h
  go_enter Tryd.func22, Tryd.ntmps22
  go_wp2
  go_ret
  exact ⟨rfl, rfl⟩
theorem power_any (k : Nat) (w : World) (h : k < 32) : Calls Tryd.prog 22 #[.int .i64 (31 - (k : Int))] w (fun e w' => e = .returned (.bool (poly.getLsbD k)) ∧ w = w') := by
  have hp := power_nat (31 - k) w (by omega)
  rwa [show ((31 - k : Nat) : Int) = 31 - (k : Int) by omega, show 31 - (31 - k) = k by omega] at hp

theorem or_pow (r : BitVec 32) (k : Nat) : bits .or .u32 (un r) (2 ^ k % 4294967296) = un (r ||| (1#32 <<< k)) := by
  have e : (2 : Int) ^ k % 4294967296 = un (1#32 <<< k) := by
    unfold un
    rw [BitVec.toNat_shiftLeft, Nat.shiftLeft_eq, Int.natCast_emod]
    simp
  rw [e, or_val]

theorem GrowB.store {w wr : World} {g m c i : Nat} {R : List Bool} {b : Bool} (h : GrowB w wr (some ⟨g, 0, none⟩) m c R) (hb : R[i]? = some b) :
    i < m ∧ wr.cell? ⟨g, i, none⟩ = some (.bool b) ∧ wr.frozen? ⟨g, i, none⟩ = false ∧ ∀ x, GrowB w (wr.setCell ⟨g, i, none⟩ (.bool x)) (some ⟨g, 0, none⟩) m c (R.set i x) := by
  have hi : i < R.length := (List.getElem?_eq_some_iff.1 hb).1
  have hm := h.len
  obtain ⟨g', he, hg, _, _, hc, hf, hs⟩ := h.own.at (by omega)
  cases he
  refine ⟨by omega, hc i _ (by simp [bls, hb]), hf i, fun x => ⟨h.below.setCell (p := ⟨g, i, none⟩) hg _, ?_⟩⟩
  have := hs i (.bool x) (by omega)
  rwa [show (bls R).set i (.bool x) = bls (R.set i x) by simp [bls, List.map_set]] at this

set_option maxRecDepth 100000 in
set_option maxHeartbeats 1000000 in
theorem refsum_any (p : Option Addr) (n c : Nat) (l : List UInt8) (w : World) (hv : Lib.HoldsBytes w (.slice p n c) l) (hn : n ≤ 100000) :
    Calls Tryd.prog 11 #[.slice p n c] w (fun e w' => e = .returned (.int .u32 (un (crc l))) ∧ Below w.heap.size w w') := by
  have hlen := Lib.hid (holds_len hv)
  have hv1 := Lib.hid hv
  obtain ⟨M, hM0⟩ : ∃ M, M = 8 * l.length := ⟨_, rfl⟩
  have hM := Lib.hid hM0
  have hMb : M ≤ 800000 := by have := hlen.out; omega
  clear hv hM0
  go_enter Tryd.func11, Tryd.ntmps11
  go_wp2_with fail
  refine (refbits_any p n c l w hv1.out hn).mono ?_
  rintro e w1 ⟨q, m, d, rfl, hr⟩
  have hm := hr.len
  rw [mrow_len, ← hM.out] at hm
  subst hm
  obtain ⟨g, rfl, hrest⟩ := hr.own.at (by omega)
  clear hrest
  have hrel0 : Hid (GrowB w w1 (some ⟨g, 0, none⟩) (M + 32) d (flips (mrow l) 0)) := by
    rw [show flips (mrow l) 0 = mrow l by simp [flips]]; exact hr
  clear hr
  go_wp2
  go_loopw [4] (fun v4 wr => ∃ k : Nat, k ≤ 32 ∧ v4 = .int .i64 k ∧ GrowB w wr (some ⟨g, 0, none⟩) (M + 32) d (flips (mrow l) k)) (fun v4 _ => 32 - (intOf v4).toNat)
  case atStart => exact ⟨0, Nat.zero_le _, rfl, hrel0.out⟩
  case round =>
    obtain ⟨k, hk, rfl, hr⟩ := hrel
    have hr1 := Lib.hid hr
    clear hr
    by_cases hlt : k < 32
    · obtain ⟨b, hb⟩ : ∃ b, (mrow l)[k]? = some b := ⟨_, List.getElem?_eq_getElem (by rw [mrow_len]; omega)⟩
      obtain ⟨hf1, hf2⟩ := flips_step hb
      obtain ⟨hi, hc, hfr, hst⟩ := hr1.out.store hf1
      have hnext := Lib.hid (hst (!b))
      rw [hf2] at hnext
      clear hb hf1 hf2 hst
      go_wp2
      go_roundw
      case rel => exact ⟨k + 1, by omega, by go_num, hnext.out⟩
      case measure => simp [intOf]; omega
    · have hk2 : k = 32 := by omega
      rw [hk2] at hr1
      clear hk2
      have hat := Lib.hid (rowAt_start l)
      go_wp2
      go_loopw [5] (fun v5 wq => ∃ (i : Nat) (R : List Bool), i ≤ M ∧ v5 = .int .i64 i ∧ GrowB w wq (some ⟨g, 0, none⟩) (M + 32) d R ∧ RowAt l i R) (fun v5 _ => M - (intOf v5).toNat)
      case atStart => exact ⟨0, _, Nat.zero_le _, rfl, hr1.out, hat.out⟩
      case round =>
        obtain ⟨i, R, hi, rfl, hr, ha⟩ := hrel
        have hr2 := Lib.hid hr
        have ha2 := Lib.hid ha
        clear hr ha hr1 hat
        by_cases hlt2 : i < M
        · have hi8 : Hid (i < 8 * l.length) := by have := hM.out; show _ < _; omega
          obtain ⟨b, hb⟩ : ∃ b, R[i]? = some b := ⟨_, List.getElem?_eq_getElem (by rw [ha2.out.1]; have := hi8.out; omega)⟩
          obtain ⟨hi1, hc, hfr, hst⟩ := hr2.out.store hb
          have hb1 := Lib.hid hb
          have hst1 := Lib.hid hst
          clear hb hst
          cases b with
          | false =>
            have hnext := Lib.hid (rowAt_skip ha2.out hi8.out hb1.out)
            go_wp2
            go_roundw
            case rel => exact ⟨i + 1, R, by omega, by go_num, hr2.out, hnext.out⟩
            case measure => simp [intOf]; omega
          | true =>
            have htk0 := Lib.hid (taken_start (i := i) ha2.out.1)
            have hg0 := Lib.hid (hst1.out false)
            go_wp2
            clear hst1
            go_loopw [6] (fun v6 wz => ∃ (k : Nat) (R3 : List Bool), k ≤ 32 ∧ v6 = .int .i64 k ∧ GrowB w wz (some ⟨g, 0, none⟩) (M + 32) d R3 ∧ Taken l i k R R3) (fun v6 _ => 32 - (intOf v6).toNat)
            case atStart => exact ⟨0, _, Nat.zero_le _, rfl, hg0.out, htk0.out⟩
            case round =>
              obtain ⟨j, R3, hj, rfl, hr, ht⟩ := hrel
              have hr3 := Lib.hid hr
              have ht3 := Lib.hid ht
              clear hr ht hc hfr
              by_cases hlt3 : j < 32
              · obtain ⟨b3, hb3⟩ := taken_get ht3.out hi8.out hlt3
                obtain ⟨hi3, hc3, hfr3, hst3⟩ := hr3.out.store hb3
                have hb4 := Lib.hid hb3
                have hst4 := Lib.hid hst3
                clear hb3 hst3
                have hpw := Lib.hid (fun u => power_any j u hlt3)
                obtain ⟨B, hB⟩ : ∃ B, poly.getLsbD j = B := ⟨_, rfl⟩
                rw [hB] at hpw
                have hB1 := Lib.hid hB
                clear hB
                cases B with
                | false =>
                  have hnext := Lib.hid (taken_no ht3.out hB1.out)
                  go_wp2_with fail
                  refine (hpw.out _).mono ?_
                  rintro e w9 ⟨rfl, rfl⟩
                  go_wp2
                  go_roundw
                  case rel => exact ⟨j + 1, R3, by omega, by go_num, hr3.out, hnext.out⟩
                  case measure => simp [intOf]; omega
                | true =>
                  have hnext := Lib.hid (taken_yes ht3.out hb4.out hB1.out)
                  have hnr := Lib.hid (hst4.out (!b3))
                  clear hst4
                  go_wp2_with fail
                  refine (hpw.out _).mono ?_
                  rintro e w9 ⟨rfl, rfl⟩
                  go_wp2
                  go_roundw
                  case rel => exact ⟨j + 1, _, by omega, by go_num, hnr.out, hnext.out⟩
                  case measure => simp [intOf]; omega
              · obtain rfl : j = 32 := by omega
                have hnext := Lib.hid (rowAt_take ha2.out hi8.out hb1.out ht3.out)
                go_wp2
                go_roundw
                case rel => exact ⟨i + 1, R3, by omega, by go_num, hr3.out, hnext.out⟩
                case measure => simp [intOf]; omega
        · obtain rfl : M = i := by omega
          obtain ⟨S, hS⟩ : ∃ S, S = stOf l M := ⟨_, rfl⟩
          have hend : Hid (~~~S = crc l) := by rw [hS, hM.out]; exact stOf_end l
          have hget : Hid (∀ k, k < 32 → wr.cell? ⟨g, M + k, none⟩ = some (.bool (S.getLsbD k))) := fun k hk => by
            have h := rowAt_end (l := l) (R := R) (by rw [← hM.out]; exact ha2.out) hk
            rw [← hM.out, ← hS] at h
            exact (hr2.out.store h).2.1
          have hb2 := Lib.hid hr2.out.below
          have e0 : Hid ((0 : Int) = un (resOf S 0)) := by rw [res_zero]; exact rfl
          clear hr2 ha2 hS
          go_wp2
          go_loop [7, 8] (fun v7 v8 => ∃ k : Nat, k ≤ 32 ∧ v8 = .int .i64 k ∧ v7 = .int .u32 (un (resOf S k))) (fun _ v8 => 32 - (intOf v8).toNat)
          case atStart => exact ⟨0, Nat.zero_le _, rfl, by rw [← e0.out]⟩
          case round =>
            obtain ⟨k, hk, rfl, rfl⟩ := hrel
            by_cases hlt3 : k < 32
            · have hc := hget.out k hlt3
              have hyes := Lib.hid (fun h => res_yes (s := S) hlt3 h)
              have hno := Lib.hid (fun h => res_no (s := S) (k := k) h)
              obtain ⟨B, hB⟩ : ∃ B, S.getLsbD k = B := ⟨_, rfl⟩
              rw [hB] at hc hyes hno
              clear hB
              cases B
              · go_wp2
                go_round
                case rel => exact ⟨k + 1, by omega, by go_num, by rw [or_pow, hyes.out rfl]⟩
                case measure => simp [intOf]; omega
              · go_wp2
                go_round
                case rel => exact ⟨k + 1, by omega, by go_num, by rw [hno.out rfl]⟩
                case measure => simp [intOf]; omega
            · obtain rfl : k = 32 := by omega
              have hx : Hid (resOf S 32 = crc l) := by rw [res_end]; exact hend.out
              go_wp2
              go_ret
              exact ⟨ret_int (by rw [hx.out]), hb2.out⟩

end Go.Proofs.YthjmmnbfjahamaaDoor
