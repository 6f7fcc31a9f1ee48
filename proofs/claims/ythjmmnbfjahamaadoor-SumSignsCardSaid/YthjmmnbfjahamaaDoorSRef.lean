/- The document's own sum (bursaryref03), by its contracts: the bits, the powers, the division. -/
import Derived.Test.YthjmmnbfjahamaaDoorTied
import Derived.Test.YthjmmnbfjahamaaDoorOwnV
import Derived.Test.YthjmmnbfjahamaaDoorDiv
import Derived.BigQuiet
import Derived.Deep.QuietTactic
namespace Go.Proofs.YthjmmnbfjahamaaDoor
open Go.RowKit

theorem info4 : (Tryd.prog.info? 4).map (fun i => (i.zero, i.size, i.bytes)) = some (some (.bool false), 1, 1) := by kernel_rfl

def bls (l : List Bool) : List Value := l.map Value.bool

structure GrowB (w wr : World) (q : Option Addr) (m c : Nat) (l : List Bool) : Prop where
  below : Below w.heap.size w wr
  own : OwnV 4 wr w.heap.size (.slice q m c) (bls l)

theorem GrowB.len {w wr : World} {q : Option Addr} {m c : Nat} {l : List Bool} (h : GrowB w wr q m c l) : m = l.length := by rw [h.own.len]; simp [bls]

theorem GrowB.next {w wr w1 : World} {q q1 : Option Addr} {m c m1 c1 : Nat} {l : List Bool} {b : Bool} {A : Obj} (h : GrowB w wr q m c l) (ho : OwnV 4 w1 w.heap.size (.slice q1 m1 c1) (bls l ++ [.bool b])) (hg : (wr.alloc A).grownBy w1 (q.map (·.block))) : GrowB w w1 q1 m1 c1 (l ++ [b]) := by
  have hb : Below w.heap.size w (wr.alloc A) := h.below.alloc h.below.size A
  refine ⟨hb.grown hg hb.size (fun j e => ?_), by simpa [bls] using ho⟩
  cases q with
  | none => cases e
  | some a => cases e; exact (h.own.far a rfl).1

/-- before one bool more is appended: the row, and the new block -/
theorem GrowB.ready {w wr : World} {q : Option Addr} {m c : Nat} {l : List Bool} (h : GrowB w wr q m c l) (b : Bool) :
    OwnV 4 (wr.alloc (.cells #[.bool b] 4)) w.heap.size (.slice q m c) (bls l) ∧ (∀ j u, [Value.bool b][j]? = some u → (wr.alloc (.cells #[.bool b] 4)).cell? ((⟨wr.heap.size, 0, none⟩ : Addr).add j) = some u) ∧ w.heap.size ≤ (wr.alloc (.cells #[.bool b] 4)).heap.size := by
  refine ⟨h.own.below ((Below.refl _ _).alloc (Nat.le_refl _) _), fun j u hj => ?_, by have := h.below.size; simp; omega⟩
  match j with
  | 0 =>
    have e : (⟨wr.heap.size, 0, none⟩ : Addr).add 0 = ⟨wr.heap.size, 0, none⟩ := rfl
    rw [e, cell_of_one (heap_alloc_new _ _)]
    exact hj
  | j + 1 => simp at hj

theorem bit_val (x : UInt8) (k : Nat) : (bits .and .u8 ((x.toNat : Int) / 2 ^ k) 1 == 1) = x.toNat.testBit k := by
  have h1 := x.toNat_lt
  have e : ((x.toNat : Int) / 2 ^ k) = ((x.toNat / 2 ^ k : Nat) : Int) := by norm_cast
  have h2 : x.toNat / 2 ^ k ≤ x.toNat := Nat.div_le_self _ _
  have h3 : bits .and .u8 ((x.toNat / 2 ^ k : Nat) : Int) ((1 : Nat) : Int) = ((x.toNat / 2 ^ k &&& 1 : Nat) : Int) := u8_and_nat _ 1 (by omega) (by decide)
  rw [e, show (1 : Int) = ((1 : Nat) : Int) from rfl, h3, Nat.and_one_is_mod, Nat.testBit_eq_decide_div_mod_eq, Bool.eq_iff_iff, beq_iff_eq, decide_eq_true_eq]
  omega

set_option maxRecDepth 100000 in
set_option maxHeartbeats 1000000 in
theorem refbits_any (p : Option Addr) (n c : Nat) (l : List UInt8) (w : World) (hv : Lib.HoldsBytes w (.slice p n c) l) (hn : n ≤ 100000) :
    Calls Tryd.prog 21 #[.slice p n c, .int .i64 32] w (fun e w' => ∃ q m d, e = .returned (.slice q m d) ∧ GrowB w w' q m d (mrow l)) := by
  have hlen := Lib.hid (holds_len hv)
  have hv1 := Lib.hid hv
  have hrel0 : Hid (GrowB w w none 0 0 []) := ⟨Below.refl _ _, OwnV.nil _ _ _⟩
  clear hv
  go_enter Tryd.func21, Tryd.ntmps21
  go_wp2
  go_loopw [5, 6] (fun v5 v6 wr => ∃ (i : Nat) (q : Option Addr) (m d : Nat), i ≤ n ∧ v6 = .int .i64 i ∧ v5 = .slice q m d ∧ GrowB w wr q m d (mbits (l.take i))) (fun _ v6 _ => n - (intOf v6).toNat)
  case atStart => exact ⟨0, none, 0, 0, Nat.zero_le _, rfl, rfl, hrel0.out⟩
  case round =>
    obtain ⟨i, q, m, d, hi, rfl, rfl, hr⟩ := hrel
    have hr1 := Lib.hid hr
    clear hr
    by_cases hlt : i < n
    · obtain ⟨x, hx⟩ : ∃ x, l[i]? = some x := ⟨_, List.getElem?_eq_getElem (by rw [← hlen.out]; exact hlt)⟩
      have hx1 := Lib.hid hx
      have hstart : Hid (GrowB w wr q m d (mbits (l.take i) ++ (bits8 x).take 0)) := by
        rw [List.take_zero, List.append_nil]; exact hr1
      clear hx hr1
      go_wp2
      go_loopw [5, 7] (fun v5 v7 wq => ∃ (k : Nat) (q : Option Addr) (m d : Nat), k ≤ 8 ∧ v7 = .int .i64 k ∧ v5 = .slice q m d ∧ GrowB w wq q m d (mbits (l.take i) ++ (bits8 x).take k)) (fun _ v7 _ => 8 - (intOf v7).toNat)
      case atStart => exact ⟨0, q, m, d, Nat.zero_le _, rfl, rfl, hstart.out⟩
      case round =>
        obtain ⟨k, q2, m2, d2, hk, rfl, rfl, hr⟩ := hrel
        have hr2 := Lib.hid hr
        clear hr
        by_cases hlt2 : k < 8
        · obtain ⟨a, y, rfl, hy, hc⟩ := holds_get hv1.out hr2.out.below hlt
          obtain rfl : x = y := Option.some.inj (hx1.out.symm.trans hy)
          have hb := bit_val x k
          have hsnoc := Lib.hid (bits8_step x k hlt2)
          obtain ⟨B, hB⟩ : ∃ B, x.toNat.testBit k = B := ⟨_, rfl⟩
          rw [hB] at hb hsnoc
          have hrd := Lib.hid (hr2.out.ready B)
          have hm2 : m2 ≤ 800008 := by
            have h1 := hr2.out.len
            rw [List.length_append, mbits_len, List.length_take, List.length_take, bits8_len] at h1
            omega
          clear hy hB
          go_wp2_with (at_builtin; refine wpList_append_own1 Tryd.underlying37 info4 rfl rfl (.tmp 19) (.tmp 28) rfl rfl rfl hrd.out.1 hrd.out.2.1 rfl (fun u hu => by obtain rfl := List.mem_singleton.1 hu; rfl) (by omega) (by omega) hrd.out.2.2 ?_; intro q3 c3 w3 ho hg)
          have hnext : Hid (GrowB w w3 q3 (m2 + 1) c3 (mbits (l.take i) ++ (bits8 x).take (k + 1))) := by
            have h := hr2.out.next ho hg
            rw [List.append_assoc, ← hsnoc.out] at h
            exact h
          clear ho hg hr2 hsnoc hrd hb hc
          go_wp2
          go_roundw
          case rel => exact ⟨k + 1, q3, m2 + 1, c3, by omega, by go_num, rfl, hnext.out⟩
          case measure => simp [intOf]; omega
        · obtain rfl : k = 8 := by omega
          have hend : Hid (GrowB w wr q2 m2 d2 (mbits (l.take (i + 1)))) := by
            have e : l.take (i + 1) = l.take i ++ [x] := by rw [List.take_add_one, hx1.out]; rfl
            have h := hr2.out
            rw [show (bits8 x).take 8 = bits8 x from List.take_of_length_le (by rw [bits8_len]; exact Nat.le_refl _)] at h
            rw [e, mbits_snoc]
            exact h
          clear hr2
          go_wp2
          go_roundw
          case rel => exact ⟨i + 1, q2, m2, d2, by omega, by go_num, rfl, hend.out⟩
          case measure => simp [intOf]; omega
    · obtain rfl : n = i := by omega
      have hstart : Hid (GrowB w wr q m d (mbits l ++ List.replicate 0 false)) := by
        have h := hr1.out
        rw [hlen.out, List.take_length] at h
        rw [List.replicate_zero, List.append_nil, hlen.out] at *
        exact h
      clear hr1
      go_wp2
      go_loopw [5, 8] (fun v5 v8 wq => ∃ (k : Nat) (q : Option Addr) (m d : Nat), k ≤ 32 ∧ v8 = .int .i64 k ∧ v5 = .slice q m d ∧ GrowB w wq q m d (mbits l ++ List.replicate k false)) (fun _ v8 _ => 32 - (intOf v8).toNat)
      case atStart => exact ⟨0, q, m, d, Nat.zero_le _, rfl, rfl, hstart.out⟩
      case round =>
        obtain ⟨k, q2, m2, d2, hk, rfl, rfl, hr⟩ := hrel
        have hr2 := Lib.hid hr
        clear hr
        by_cases hlt2 : k < 32
        · have hrd := Lib.hid (hr2.out.ready false)
          have hm2 : m2 ≤ 800040 := by
            have h1 := hr2.out.len
            rw [List.length_append, mbits_len, List.length_replicate] at h1
            have := hlen.out
            omega
          go_wp2_with (at_builtin; refine wpList_append_own1 Tryd.underlying37 info4 rfl rfl (.tmp 35) (.tmp 36) rfl rfl rfl hrd.out.1 hrd.out.2.1 rfl (fun u hu => by obtain rfl := List.mem_singleton.1 hu; rfl) (by omega) (by omega) hrd.out.2.2 ?_; intro q3 c3 w3 ho hg)
          have hnext : Hid (GrowB w w3 q3 (m2 + 1) c3 (mbits l ++ List.replicate (k + 1) false)) := by
            have h := hr2.out.next ho hg
            rw [List.append_assoc, ← List.replicate_succ'] at h
            exact h
          clear ho hg hr2 hrd
          go_wp2
          go_roundw
          case rel => exact ⟨k + 1, q3, m2 + 1, c3, by omega, by go_num, rfl, hnext.out⟩
          case measure => simp [intOf]; omega
        · obtain rfl : k = 32 := by omega
          go_wp2
          go_ret
          exact ⟨q2, m2, d2, rfl, hr2.out⟩

end Go.Proofs.YthjmmnbfjahamaaDoor
