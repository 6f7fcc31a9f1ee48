/- SumNear: for every row of bytes, place and pattern the law returns true, and its arguments read as they did, where the table of steps is laid as the program's text lays it. No other condition. -/
import Derived.Test.YthjmmnbfjahamaaDoorTied
import Derived.Test.YthjmmnbfjahamaaDoorTie
import Derived.Test.YthjmmnbfjahamaaDoorCards
import Derived.StillTailTactics
namespace Go.Proofs.YthjmmnbfjahamaaDoor
open Go.ChangeShapes Go.WideShapes Go.ChangeAt Go.RowKit

theorem length_le4 (v : BitVec 32) : (le4 v).length = 4 := length_les 4 v

/-- so spoilt: four bytes at k -/
def zap (l : List UInt8) (k : Nat) (v : BitVec 32) : List UInt8 := l.take k ++ List.zipWith (· ^^^ ·) ((l.drop k).take 4) (le4 v) ++ l.drop (k + 4)

theorem cut4 (l : List UInt8) (k : Nat) : l.take k ++ (l.drop k).take 4 ++ l.drop (k + 4) = l := by
  rw [List.append_assoc, show l.drop (k + 4) = (l.drop k).drop 4 by rw [List.drop_drop], List.take_append_drop, List.take_append_drop]
theorem zap_crc {l : List UInt8} {k : Nat} {v : BitVec 32} (hk : k + 4 ≤ l.length) (hv : v ≠ 0#32) : crc (zap l k v) ≠ crc l := by
  have h := crc_near (l.take k) (l.drop (k + 4)) ((l.drop k).take 4) (le4 v) v rfl hv (by simp; omega)
  rwa [cut4] at h
theorem crc_of_signed {l : List UInt8} (h : signed l = true) : crc l = ~~~(shn 32 (~~~(0#32))) := by
  unfold signed at h
  simp only [Bool.and_eq_true, beq_iff_eq] at h
  have e : l = l.take (l.length - 4) ++ le4 (crc (l.take (l.length - 4))) := by rw [← h.2, List.take_append_drop]
  rw [e]
  exact crc_signed _
theorem ck_zap {b : List UInt8} {k : Nat} {v : BitVec 32} (hk : k + 4 ≤ (b ++ le4 (crc b)).length) (hv : v ≠ 0#32) : ck (zap (b ++ le4 (crc b)) k v) = 130 := by
  have h := zap_crc hk hv
  unfold ck
  rw [if_neg (fun hs => h (by rw [crc_of_signed hs, crc_signed]))]

theorem zap_len {l : List UInt8} {k : Nat} {v : BitVec 32} (hk : k + 4 ≤ l.length) : (zap l k v).length = l.length := by
  unfold zap
  simp [length_le4]; omega
theorem zap_get {l : List UInt8} {k j : Nat} {v : BitVec 32} {x y : UInt8} (hk : k + 4 ≤ l.length) (hj : j < 4) (hx : l[k + j]? = some x) (hy : (le4 v)[j]? = some y) : (zap l k v)[k + j]? = some (x ^^^ y) := by
  unfold zap
  rw [List.append_assoc, List.getElem?_append_right (by simp; omega), List.getElem?_append_left (by simp [length_le4]; omega)]
  have : k + j - (l.take k).length = j := by simp; omega
  rw [this, List.getElem?_zipWith, List.getElem?_take, if_pos hj, List.getElem?_drop, hx, hy]
theorem zap_front {l : List UInt8} {k : Nat} {v : BitVec 32} (hk : k + 4 ≤ l.length) : (zap l k v).take k = l.take k := by
  unfold zap
  rw [List.append_assoc, List.take_append_of_le_length (by simp; omega), List.take_take, Nat.min_self]
theorem zap_back {l : List UInt8} {k : Nat} {v : BitVec 32} (hk : k + 4 ≤ l.length) : (zap l k v).take (k + 4) ++ l.drop (k + 4) = zap l k v := by
  unfold zap
  rw [List.take_left' (by simp [length_le4]; omega)]
theorem set_mix {X Y : List UInt8} {k : Nat} {v : UInt8} (hx : X[k]? = some v) (hk : k < Y.length) : (X.take k ++ Y.drop k).set k v = X.take (k + 1) ++ Y.drop (k + 1) := by
  have hk2 : k < X.length := (List.getElem?_eq_some_iff.1 hx).1
  have e2 : X.take (k + 1) = X.take k ++ [v] := by rw [List.take_add_one, hx]; rfl
  rw [e2, List.drop_eq_getElem_cons hk, List.set_append_right _ _ (by simp; omega)]
  have : k - (X.take k).length = 0 := by simp; omega
  rw [this, List.set_cons_zero, List.append_assoc]
  rfl

theorem le4_get (v : BitVec 32) (j : Nat) (hj : j < 4) : ∃ y, (le4 v)[j]? = some y ∧ un v / 2 ^ (8 * j) % 256 = (y.toNat : Int) := by
  have a1 : (v >>> 8).toNat = v.toNat / 2 ^ 8 := by rw [BitVec.toNat_ushiftRight, Nat.shiftRight_eq_div_pow]
  have a2 : (v >>> 8 >>> 8).toNat = v.toNat / 2 ^ 16 := by rw [BitVec.toNat_ushiftRight, a1, Nat.shiftRight_eq_div_pow, Nat.div_div_eq_div_mul]
  have a3 : (v >>> 8 >>> 8 >>> 8).toNat = v.toNat / 2 ^ 24 := by rw [BitVec.toNat_ushiftRight, a2, Nat.shiftRight_eq_div_pow, Nat.div_div_eq_div_mul]
  unfold un le4
  simp only [les, a1, a2, a3]
  have h : j = 0 ∨ j = 1 ∨ j = 2 ∨ j = 3 := by omega
  rcases h with rfl | rfl | rfl | rfl
  all_goals
    refine ⟨_, rfl, ?_⟩
    simp

/-- a row of the call's own, at its block -/
theorem Own.some_of {w : World} {base : Nat} {q : Option Addr} {n c : Nat} {l : List UInt8} (h : Own w base (.slice q n c) l) (hn : 0 < n) :
    ∃ g, q = some ⟨g, 0, none⟩ ∧ base ≤ g ∧ n = l.length ∧ n ≤ c ∧ (∀ i (x : UInt8), l[i]? = some x → w.cell? ⟨g, i, none⟩ = some (.int .u8 (x.toNat : Int))) ∧ (∀ i, w.frozen? ⟨g, i, none⟩ = false) ∧
      (∀ i (x : UInt8), i < n → Own (w.setCell ⟨g, i, none⟩ (.int .u8 (x.toNat : Int))) base (.slice q n c) (l.set i x)) := by
  have hh := h.holds
  obtain ⟨hlen, ⟨he, h0⟩ | ⟨g, cap, cur, he, hg, hb, hle, hm, hsz, htk⟩⟩ := h
  · cases he; omega
  · simp only [Value.slice.injEq] at he
    obtain ⟨rfl, _, rfl⟩ := he
    have hlen2 : n = l.length := holds_len hh.1
    refine ⟨g, rfl, hg, hlen2, by omega, fun i x hx => ?_, fun i => frozen_of_row w g i _ _ hb, fun i x hi => ?_⟩
    · obtain ⟨_, _, he, _, h2⟩ := hh.1
      simp only [Value.slice.injEq] at he
      obtain ⟨rfl, _, _⟩ := he
      have := h2 _ rfl i x hx
      have hadd : (⟨g, 0, none⟩ : Addr).add i = ⟨g, i, none⟩ := by unfold Addr.add; split <;> simp_all
      rwa [hadd] at this
    · have hs := heap_setCell_same w g i _ 5 (.int .u8 (x.toNat : Int)) hb
      refine ⟨by simp [vals], .inr ⟨g, c, _, by rw [List.length_set, ← hlen2], hg, hs, by rw [List.length_set]; exact hle, hm, by simpa using hsz, ?_⟩⟩
      simp only [List.length_set, Nat.mul_one, Array.toList_setIfInBounds] at htk ⊢
      rw [List.take_set, htk, vals, vals, List.map_set]

theorem clone_own (a : Addr) (n c : Nat) (l : List UInt8) (w : World) (hv : Lib.HoldsBytes w (.slice (some a) n c) l) (hn : n ≤ 140737488355328) :
    Calls Tryd.prog 20 #[.slice (some a) n c] w (fun e w' => ∃ q c', e = .returned (.slice q n c') ∧ Own w' w.heap.size (.slice q n c') l ∧ Below w.heap.size w w') := by
  obtain ⟨q, cap, he, h1, h2⟩ := hv
  simp only [Value.slice.injEq] at he
  obtain ⟨rfl, rfl, rfl⟩ := he
  refine (Tryd.bytes_Clone_at a l.length c (Lib.numsL l) w (Lib.numsL_length l) hn (fun i hi => ?_)).mono ?_
  · rw [h2 a rfl i l[i] (List.getElem?_eq_getElem hi)]
    simp [Lib.numsL, List.getD, hi]
  rintro e w' ⟨v', rfl, hown, hne, hb⟩
  have ho : Own w' w.heap.size v' l := by
    unfold Own
    have e : vals l = (Lib.numsL l).map (Value.int .u8) := by simp [vals, Lib.numsL]
    rw [e]; exact hown
  obtain ⟨q', c', rfl⟩ := ho.shape
  exact ⟨q', c', rfl, ho, hb⟩

structure SpRel (w wr : World) (base : Nat) (q : Option Addr) (n c : Nat) (l : List UInt8) (k j : Nat) (v : BitVec 32) : Prop where
  below : Below base w wr
  row : Own wr base (.slice q n c) ((zap l k v).take (k + j) ++ l.drop (k + j))

theorem SpRel.step {w wr : World} {base g n c k j : Nat} {l : List UInt8} {v : BitVec 32} (h : SpRel w wr base (some ⟨g, 0, none⟩) n c l k j v) (hln : n = l.length) (hk : k + 4 ≤ l.length) (hj : j < 4) :
    ∃ b y : UInt8, wr.cell? ⟨g, k + j, none⟩ = some (.int .u8 (b.toNat : Int)) ∧ wr.frozen? ⟨g, k + j, none⟩ = false ∧ un v / 2 ^ (8 * j) % 256 = (y.toNat : Int) ∧
      (∀ x : Int, x = bits .xor .u8 (b.toNat : Int) (y.toNat : Int) → SpRel w (wr.setCell ⟨g, k + j, none⟩ (.int .u8 x)).drew base (some ⟨g, 0, none⟩) n c l k (j + 1) v) := by
  have hl : ((zap l k v).take (k + j) ++ l.drop (k + j)).length = l.length := by rw [List.length_append, List.length_take, zap_len hk, List.length_drop]; omega
  obtain ⟨g', he, hb, hn, hc, hcell, hfr, hset⟩ := h.row.some_of (by omega)
  cases he
  obtain ⟨y, hy, hy2⟩ := le4_get v j hj
  have hkj : k + j < l.length := by omega
  have hx : l[k + j]? = some l[k + j] := List.getElem?_eq_getElem hkj
  refine ⟨l[k + j], y, hcell _ _ ?_, hfr _, hy2, fun x hx2 => ?_⟩
  · rw [List.getElem?_append_right (by rw [List.length_take, zap_len hk]; omega), List.length_take, zap_len hk, List.getElem?_drop, Nat.min_eq_left (by omega), Nat.sub_self, Nat.add_zero]
    exact hx
  · have e : x = ((l[k + j] ^^^ y).toNat : Int) := by
      have h1 := l[k + j].toNat_lt
      have h2 := y.toNat_lt
      rw [hx2, u8_xor_nat _ _ (by omega) (by omega), ← UInt8.toNat_xor]
    have h1 := hset (k + j) (l[k + j] ^^^ y) (by omega)
    rw [set_mix (zap_get hk hj hx hy) hkj, ← e] at h1
    refine ⟨(h.below.setCell (p := ⟨g, k + j, none⟩) hb _).trans (below_drew _), h1.kept (w' := (wr.setCell ⟨g, k + j, none⟩ (.int .u8 x)).drew) (fun _ _ => rfl)⟩

set_option maxRecDepth 100000 in
set_option maxHeartbeats 1000000 in
theorem spoil_any (a : Addr) (n c k A ga gb : Nat) (at' : Int) (v : BitVec 32) (l : List UInt8) (w : World) (hv : Lib.HoldsBytes w (.slice (some a) n c) l) (hn4 : 4 ≤ n) (hn : n ≤ 1000000)
    (ha : w.heap[ga]? = some (.cells #[.int .i64 at'] 3 (0, 0))) (hb : w.heap[gb]? = some (.cells #[.int .u32 (un v)] 24 (0, 0))) (hA : IntKind.u64.wrap at' = (A : Int)) (hk : k = A % (n - 3)) :
    Calls Tryd.prog 19 #[.slice (some a) n c, .pointer (some ⟨ga, 0, none⟩), .pointer (some ⟨gb, 0, none⟩)] w
      (fun e w' => ∃ q c', e = .returned (.slice q n c') ∧ Own w' w.heap.size (.slice q n c') (zap l k v) ∧ Below w.heap.size w w') := by
  have hlen := Lib.hid (holds_len hv)
  have hv1 := Lib.hid hv
  have ha1 := Lib.hid ha
  have hb1 := Lib.hid hb
  have gla : ga < w.heap.size := (Array.getElem?_eq_some_iff.1 ha).1
  have glb : gb < w.heap.size := (Array.getElem?_eq_some_iff.1 hb).1
  have hk4 : k + 4 ≤ n := by have := Nat.mod_lt A (show 0 < n - 3 by omega); omega
  have hk2 : (A : Int) % ((n : Int) - 3) = (k : Int) := by
    rw [hk, Int.natCast_emod]; congr 1; omega
  clear hv ha hb hk
  go_enter Tryd.func19, Tryd.ntmps19
  go_wp2_with fail
  refine (clone_own a n c l w hv1.out (by omega)).mono ?_
  rintro e w1 ⟨q, c', rfl, ho, hb⟩
  have ca : w1.cell? ⟨ga, 0, none⟩ = some (.int .i64 at') := cell_of_one (by rw [hb.block ga gla]; exact ha1.out)
  have hbb := Lib.hid (show w1.heap[gb]? = some (.cells #[.int .u32 (un v)] 24 (0, 0)) by rw [hb.block gb glb]; exact hb1.out)
  obtain ⟨g, rfl, hg, hnl, hnc, hrest⟩ := ho.some_of (by omega)
  clear hnl hrest
  have hrel0 : Hid (SpRel w w1 w.heap.size (some ⟨g, 0, none⟩) n c' l k 0 v) := ⟨hb, by
    rw [Nat.add_zero, zap_front (by have := hlen.out; omega), List.take_append_drop]
    exact ho⟩
  clear ho
  have cb : w1.cell? ⟨gb, 0, none⟩ = some (.int .u32 (un v)) := cell_of_one hbb.out
  have hb2 := Lib.hid hb
  clear hb
  have hv0 := un_lo v
  have hv3 := un_hi v
  go_wp2_with fail
  clear ca cb hk2 hA
  go_loopw [18] (fun v18 wr => ∃ j : Nat, j ≤ 4 ∧ v18 = .int .i64 j ∧ SpRel w wr w.heap.size (some ⟨g, 0, none⟩) n c' l k j v) (fun v18 _ => 4 - (intOf v18).toNat)
  case atStart => exact ⟨0, Nat.zero_le _, rfl, hrel0.out⟩
  case round =>
    obtain ⟨j, hj, rfl, hr⟩ := hrel
    have hr1 := Lib.hid hr
    clear hr
    by_cases hlt : j < 4
    · obtain ⟨b, y, d1, d2, d3, hstep⟩ := hr1.out.step hlen.out (by have := hlen.out; omega) hlt
      have hnext := Lib.hid (hstep _ rfl)
      clear hstep
      have cb : wr.cell? ⟨gb, 0, none⟩ = some (.int .u32 (un v)) := cell_of_one (by rw [hr1.out.below.block gb glb]; exact hb1.out)
      have i0 : (0 : Int) ≤ (k : Int) + (j : Int) := by omega
      have i1 : (k : Int) + (j : Int) < (n : Int) := by omega
      have i3 : (8 : Int) * (j : Int) ≤ 24 := by omega
      have s1 : IntKind.i64.wrap ((k : Int) + (j : Int)) = (k : Int) + (j : Int) := IntWalk.i64_in _ (by omega)
      have s2 : ((k : Int) + (j : Int)).toNat = k + j := by omega
      have s3 : IntKind.i64.wrap ((8 : Int) * (j : Int)) = 8 * (j : Int) := IntWalk.i64_in _ (by omega)
      have s4 : ((8 : Int) * (j : Int)).toNat = 8 * j := by omega
      have s5 : (0 : Int) ≤ 8 * (j : Int) := by omega
      clear hv3
      go_wp2
      go_still_tail 13, (by kernel_rfl)
      go_wp2
      go_roundw
      case rel => exact ⟨j + 1, by omega, by go_num, hnext.out⟩
      case measure => simp [intOf]; omega
    · obtain rfl : j = 4 := by omega
      have hrow : Hid (Own wr w.heap.size (.slice (some ⟨g, 0, none⟩) n c') (zap l k v)) := by
        have h := hr1.out.row
        rw [zap_back (by have := hlen.out; omega)] at h
        exact h
      have hbz := Lib.hid hr1.out.below
      go_wp2
      go_ret
      exact ⟨_, _, rfl, hrow.out, hbz.out⟩

theorem heap_alloc_at (w : World) (o : Obj) (g : Nat) (hg : g = w.heap.size) : (w.alloc o).heap[g]? = some o := by
  subst hg; exact heap_alloc_new w o

theorem near_guard (p : Option Addr) (n c : Nat) (at' by' : Int) (w : World) (hL : Laid w) (h : n < 4 ∨ (4 ≤ n ∧ 2000 < n) ∨ (4 ≤ n ∧ n ≤ 2000 ∧ by' = 0)) :
    Calls Tryd.prog 7 #[.slice p n c, .int .i64 at', .int .u32 by'] w (fun e w' => e = .returned (.bool true) ∧ Below w.heap.size w w') := by
  have hb0 := Lib.hid (((Below.refl w.heap.size w).alloc (Nat.le_refl _) (.cells #[.int .i64 at'] 3)).alloc (by simp) (.cells #[.int .u32 by'] 24))
  have hL1 := Lib.hid hL
  clear hL
  rcases h with h | ⟨h1, h⟩ | ⟨h1, h2, rfl⟩
  all_goals
    go_enter Tryd.func7, Tryd.ntmps7
    go_wp2_with fail
    refine (wakes_any _ (hL1.out.keep hb0.out hL1.out.size)).mono ?_
    rintro e w1 ⟨rfl, hb⟩
    have hb1 := Lib.hid (hb0.out.trans (hb.mono hb0.out.size))
    have cb := cell_of_one (show w1.heap[w.heap.size + 1]? = some (.cells #[.int .u32 _] 24 (0, 0)) by
      rw [hb.block _ (by simp)]; exact heap_alloc_at _ _ _ (by simp))
    clear hb
    go_wp2_with fail
    go_ret
    exact ⟨rfl, hb1.out⟩

set_option maxRecDepth 100000 in
set_option maxHeartbeats 2000000 in
theorem near_any (a : Addr) (n c A : Nat) (at' : Int) (v : BitVec 32) (l : List UInt8) (w : World) (hL : Laid w) (hv : Lib.HoldsBytes w (.slice (some a) n c) l) (hn4 : 4 ≤ n) (hn : n ≤ 2000) (hnc : n ≤ c) (hv0 : v ≠ 0#32) (hA : IntKind.u64.wrap at' = (A : Int)) :
    Calls Tryd.prog 7 #[.slice (some a) n c, .int .i64 at', .int .u32 (un v)] w (fun e w' => e = .returned (.bool true) ∧ Below w.heap.size w w') := by
  have hb0 := Lib.hid (((Below.refl w.heap.size w).alloc (Nat.le_refl _) (.cells #[.int .i64 at'] 3)).alloc (by simp) (.cells #[.int .u32 (un v)] 24))
  have hL1 := Lib.hid hL
  have hv1 := Lib.hid hv
  have hlen := Lib.hid (holds_len hv)
  have hA1 := Lib.hid hA
  have k1 : Hid (A % (n - 3) + 4 ≤ n) := by have := Nat.mod_lt A (show 0 < n - 3 by omega); show _ ≤ _; omega
  have k2 : Hid (A % (n + 4 - 3) + 4 ≤ n + 4) := by have := Nat.mod_lt A (show 0 < n + 4 - 3 by omega); show _ ≤ _; omega
  have hz : (un v == 0) = false := by
    rw [beq_eq_false_iff_ne]
    intro h
    exact hv0 (un_inj (h.trans (show (0 : Int) = un 0#32 from rfl)))
  have d1 : Hid (crc (zap l (A % (n - 3)) v) ≠ crc l) := zap_crc (by have := hlen.out; have := k1.out; omega) hv0
  have d2 : Hid (ck (zap (l ++ le4 (crc l)) (A % (n + 4 - 3)) v) = 130) := ck_zap (by rw [List.length_append, length_le4]; have := hlen.out; have := k2.out; omega) hv0
  have d3 : Hid ((un (crc (zap l (A % (n - 3)) v)) != un (crc l)) = true) := by
    show (_ != _) = true
    rw [bne_iff_ne]
    exact fun h => d1.out (un_inj h)
  clear hL hv hv0 hA d1
  go_enter Tryd.func7, Tryd.ntmps7
  go_wp2_with fail
  refine (wakes_any _ (hL1.out.keep hb0.out hL1.out.size)).mono ?_
  rintro e w1 ⟨rfl, hb⟩
  have hb1 := Lib.hid (hb0.out.trans (hb.mono hb0.out.size))
  have hca := Lib.hid (show w1.heap[w.heap.size]? = some (.cells #[.int .i64 at'] 3 (0, 0)) by
    rw [hb.block _ (by simp; omega), heap_alloc_old _ _ (by simp)]; exact heap_alloc_new _ _)
  have hcb := Lib.hid (show w1.heap[w.heap.size + 1]? = some (.cells #[.int .u32 (un v)] 24 (0, 0)) by
    rw [hb.block _ (by simp)]; exact heap_alloc_at _ _ _ (by simp))
  have cb := cell_of_one hcb.out
  clear hb
  go_wp2_with fail
  clear cb hz
  refine (sign_any (some a) n c l w1 (hL1.out.keep hb1.out hL1.out.size) (holds_below hv1.out hb1.out (Nat.le_refl _)) (by omega) hnc).mono ?_
  rintro e w2 ⟨q2, c2, rfl, ho, hb⟩
  have ho2 := Lib.hid ho
  have hb2 := Lib.hid (hb1.out.trans (hb.mono hb1.out.size))
  have hca2 := Lib.hid ((hb.block _ (Array.getElem?_eq_some_iff.1 hca.out).1).trans hca.out)
  have hcb2 := Lib.hid ((hb.block _ (Array.getElem?_eq_some_iff.1 hcb.out).1).trans hcb.out)
  clear ho hb hca hcb
  go_wp2_with fail
  refine (spoil_any a n c (A % (n - 3)) A w.heap.size (w.heap.size + 1) at' v l w2 (holds_below hv1.out hb2.out (Nat.le_refl _)) hn4 (by omega) hca2.out hcb2.out hA1.out rfl).mono ?_
  rintro e w3 ⟨q3, c3, rfl, ho, hb⟩
  have hz3 := Lib.hid ho
  have ho3 := Lib.hid (ho2.out.below hb)
  have hb3 := Lib.hid (hb2.out.trans (hb.mono hb2.out.size))
  have hca3 := Lib.hid ((hb.block _ (Array.getElem?_eq_some_iff.1 hca2.out).1).trans hca2.out)
  have hcb3 := Lib.hid ((hb.block _ (Array.getElem?_eq_some_iff.1 hcb2.out).1).trans hcb2.out)
  clear ho hb hca2 hcb2 ho2
  go_wp2_with fail
  refine (sum_any q3 n c3 _ w3 (hL1.out.keep hb3.out hL1.out.size) hz3.out.holds.1 (by omega)).mono ?_
  rintro e w4 ⟨rfl, hb⟩
  have ho4 := Lib.hid (ho3.out.below hb)
  have hb4 := Lib.hid (hb3.out.trans (hb.mono hb3.out.size))
  have hca4 := Lib.hid ((hb.block _ (Array.getElem?_eq_some_iff.1 hca3.out).1).trans hca3.out)
  have hcb4 := Lib.hid ((hb.block _ (Array.getElem?_eq_some_iff.1 hcb3.out).1).trans hcb3.out)
  clear hb hca3 hcb3 ho3 hz3
  go_wp2_with fail
  refine (sum_any (some a) n c l w4 (hL1.out.keep hb4.out hL1.out.size) (holds_below hv1.out hb4.out (Nat.le_refl _)) (by omega)).mono ?_
  rintro e w5 ⟨rfl, hb⟩
  have ho5 := Lib.hid (ho4.out.below hb)
  have hb5 := Lib.hid (hb4.out.trans (hb.mono hb4.out.size))
  have hca5 := Lib.hid ((hb.block _ (Array.getElem?_eq_some_iff.1 hca4.out).1).trans hca4.out)
  have hcb5 := Lib.hid ((hb.block _ (Array.getElem?_eq_some_iff.1 hcb4.out).1).trans hcb4.out)
  clear hb hca4 hcb4 ho4
  have d4 := d3.out
  obtain ⟨g2, rfl, hg2, hnl, hle, hrest⟩ := ho5.out.some_of (by omega)
  clear hnl hrest
  go_wp2_with fail
  clear d4
  refine (spoil_any ⟨g2, 0, none⟩ (n + 4) c2 (A % (n + 4 - 3)) A w.heap.size (w.heap.size + 1) at' v _ w5 ho5.out.holds.1 (by omega) (by omega) hca5.out hcb5.out hA1.out rfl).mono ?_
  rintro e w6 ⟨q6, c6, rfl, ho, hb⟩
  have hz6 := Lib.hid ho
  have hb6 := Lib.hid (hb5.out.trans (hb.mono hb5.out.size))
  clear ho hb hca5 hcb5 ho5
  go_wp2_with fail
  refine (check_any q6 (n + 4) c6 _ w6 (hL1.out.keep hb6.out hL1.out.size) hz6.out.holds.1 (by omega) hz6.out.holds.2.1).mono ?_
  rintro e w7 ⟨rfl, hb⟩
  rw [d2.out]
  have hb7 := Lib.hid (hb6.out.trans (hb.mono hb6.out.size))
  clear hb hz6
  go_wp2_with fail
  go_ret
  exact ⟨rfl, hb7.out⟩

theorem near_lifted (os : Os) (started : os.Started) (H : Type) (enc : TypeId × Value → H) :
    ReturnsInHanded {} Tryd.checked os 7 .any (fun w args => (Rows.sumNearSpec.pre enc Tryd.prog Tryd.f7 [] false w args ∧ laidMetH Tryd.prog [("bursary/sum.steps", Rows.laid_bursary_sum_steps)] w) ∧ sizedMet enc Tryd.prog Tryd.f7 (OpenSpec.ofChange Rows.sumNearSpec) false w args)
      (Rows.sumNearSpec.post enc Tryd.prog Tryd.f7 false true false false) := by
  refine returnsInHanded_of_change_and (C := Tryd.checked) (X := fun w _ => laidMetH Tryd.prog [("bursary/sum.steps", Rows.laid_bursary_sum_steps)] w) (fun _ _ _ hh h => h.of_heap hh) own started (by kernel_rfl) Tryd.func7
    (ChangeSpec.witness_shaped (enc := enc) (C := Tryd.checked) (os := os) (X := fun w _ => laidMetH Tryd.prog [("bursary/sum.steps", Rows.laid_bursary_sum_steps)] w) false (World.doorLaid Tryd.prog 400 os) #[.slice none 0 0, .int .i64 0, .int .u32 0] 8 rfl (World.shaped_of_RefB (by kernel_rfl) (by kernel_rfl)) (by kernel_rfl) (by kernel_rfl) (by kernel_rfl) (door_met os _)) ?_
  intro W base args ds gs before hval0 hW _ _ hL _
  have hval : ∀ (j : Nat) t v, Tryd.f7.params[j]? = some t → args[j]? = some v → Value.okWide Tryd.prog W .any base t v := hval0
  have hW' := hW
  obtain ⟨p, q, hA0, hV, rfl, _, _⟩ := hW
  have hA : DataW.TrodAll enc Tryd.prog W 0 (fun _ => true) true Tryd.f7.params.toList args.toList ds p := hA0
  rw [Tryd.params7] at hA hval
  obtain ⟨v0, v1, v2, d0, d1, d2, q0, q1, q2, rfl, rfl, rfl, h0, h1, h2⟩ := trodAll_three hA
  obtain ⟨rfl, rfl⟩ := trodVars_none hV
  have hT := of_laid hL
  obtain ⟨a0, len0, cap0, rfl⟩ := okWide_slice Tryd.underlying22 (hval 0 22 v0 rfl rfl)
  obtain ⟨l0, hl0, hlen0, hcap0⟩ := open_bytes h0
  obtain ⟨x1, rfl, rfl, rfl, wx1⟩ := open_int Tryd.underlying3 (hval 1 3 v1 rfl rfl) h1
  obtain ⟨x2, rfl, rfl, rfl, wx2⟩ := open_int Tryd.underlying24 (hval 2 24 v2 rfl rfl) h2
  have r2 := u32_of_wf wx2
  have key : Calls Tryd.prog 7 #[.slice a0 len0 cap0, .int .i64 x1, .int .u32 x2] W (fun e w' => e = .returned (.bool true) ∧ Below W.heap.size W w') := by
    by_cases hg : 4 ≤ len0 ∧ len0 ≤ 2000 ∧ x2 ≠ 0
    · obtain ⟨g1, g2, g3⟩ := hg
      have hv : un (BitVec.ofNat 32 x2.toNat) = x2 := by
        unfold un; rw [BitVec.toNat_ofNat, Nat.mod_eq_of_lt (by omega)]; omega
      have hA2 : IntKind.u64.wrap x1 = ((IntKind.u64.wrap x1).toNat : Int) := by
        rw [IntKind.wrap_u64]; omega
      cases a0 with
      | none =>
        obtain ⟨_, _, he, hn, _⟩ := hl0
        simp only [Value.slice.injEq] at he
        obtain ⟨rfl, he, _⟩ := he
        rw [hn rfl] at he
        simp at he
        omega
      | some b =>
        have h := near_any b len0 cap0 _ x1 (BitVec.ofNat 32 x2.toNat) l0 W hT hl0 g1 g2 hcap0 (fun h => g3 (by rw [← hv, h]; rfl)) hA2
        rw [hv] at h
        exact h
    · exact near_guard a0 len0 cap0 x1 x2 W hT (by omega)
  refine (key).mono fun e W' ⟨he, hb⟩ => ?_
  subst he
  exact ⟨_, rfl, law_post laidOut (of_decide_eq_true (by kernel_rfl)) rfl (by kernel_rfl) Tryd.underlying4 hW' ⟨rfl, rfl, rfl⟩ hb⟩

theorem near_said : Rows.SumNearSaid :=
  OpenClaim.holds_of_wide 7 Tryd.f7 rfl rfl rfl rfl rfl rfl rfl ⟨rfl, rfl, rfl, rfl, rfl⟩ rfl rfl rfl rfl rfl (by kernel_rfl) Tryd.func7 (by kernel_rfl)
    (of_decide_eq_true (by kernel_rfl)) (by unfold Func.isWrapper; first | (rw [if_pos (by decide +kernel)]; kernel_rfl) | (rw [if_neg (by decide +kernel)]; exact ⟨rfl, rfl⟩))
    (fun os started H enc _ => near_lifted os started H enc)

theorem near_holds : Rows.SumNearCardSaid :=
  Claim7.holds_tied_plain_at .later [] [.data] true Rows.sumNearCard.stood.harness false
    near_said (fun _ h => by cases h) (by kernel_rfl) (fun _ h => by cases h) sumNear_row_tie rfl ⟨rfl, rfl⟩ (by kernel_rfl) rfl
    (fun f fn hf hfn => by
      obtain rfl : f = 7 := Option.some.inj ((show Tryd.prog.funcNamed "bursary/bursarylaw03.SumNear" = some 7 by kernel_rfl).symm.trans hf) |>.symm
      obtain rfl : fn = Tryd.f7 := (Option.some.inj (Tryd.func7.symm.trans hfn)).symm
      exact ⟨by kernel_rfl, fun j t ht => by
        rw [Tryd.params7] at ht
        have hm : t ∈ [22, 3, 24] := by simpa using Array.mem_of_getElem? ht
        have hall : ([22, 3, 24].all fun u => !Tryd.prog.wantsStandIn u) = true := by kernel_rfl
        exact (show Tryd.prog.wantsStandIn t = false by simpa using List.all_eq_true.1 hall t hm)⟩)
    (by kernel_rfl)

end Go.Proofs.YthjmmnbfjahamaaDoor
