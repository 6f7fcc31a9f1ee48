/- The contract of the closure in number: it reckons the number that stands in its bytes. -/
import Derived.Test.YtcniolmihpkmmaaRead
namespace Go.Proofs.Ytcniolmihpkmmaa
open Go.RowKit

def num (l : List UInt8) : Nat := l.foldl (fun a b => a * 256 + b.toNat) 0
theorem num_snoc (l : List UInt8) (b : UInt8) : num (l ++ [b]) = num l * 256 + b.toNat := by simp [num]
theorem num_go_lt : ∀ (l : List UInt8) (a : Nat), l.foldl (fun a b => a * 256 + b.toNat) a < (a + 1) * 256 ^ l.length
  | [], a => by simp
  | b :: l, a => by
    have h := num_go_lt l (a * 256 + b.toNat)
    have hb := b.toNat_lt
    rw [List.foldl_cons, List.length_cons, Nat.pow_succ]
    refine Nat.lt_of_lt_of_le h ?_
    rw [Nat.mul_comm (256 ^ l.length) 256, ← Nat.mul_assoc]
    exact Nat.mul_le_mul_right _ (by omega)
theorem num_lt (l : List UInt8) : num l < 256 ^ l.length := by
  have h := num_go_lt l 0
  simpa [num] using h

/-- the call's own variables: the width, the number so far -/
structure NumRel (w wr : World) (bk bx : Nat) (k i : Nat) (l : List UInt8) : Prop where
  grown : w.grownBy wr (some bx)
  size : wr.heap.size = w.heap.size
  var : wr.heap[bx]? = some (.cells #[.int .u64 (num (l.take i) : Int)] 67 (0, 0))

theorem or_digit (x : Nat) (b : UInt8) (h : x * 256 + b.toNat < 18446744073709551616) :
    bits .or .u64 (IntKind.u64.wrap ((x : Int) * 256)) (IntKind.u64.wrap (b.toNat : Int)) = ((x * 256 + b.toNat : Nat) : Int) := by
  have hb := b.toNat_lt
  have e1 : IntKind.u64.wrap ((x : Int) * 256) = ((x * 256 : Nat) : Int) := by rw [IntWalk.u64_in _ (by omega)]; omega
  have e2 : IntKind.u64.wrap (b.toNat : Int) = ((b.toNat : Nat) : Int) := IntWalk.u64_in _ (by omega)
  rw [e1, e2, u64_or_nat (x * 256) b.toNat (Nat.lt_of_le_of_lt (Nat.le_add_right _ _) h) (Nat.lt_of_le_of_lt (Nat.le_add_left _ _) h)]
  congr 1
  have h2 := Nat.shiftLeft_add_eq_or_of_lt (i := 8) (b := b.toNat) hb x
  rw [Nat.shiftLeft_eq, show (2 : Nat) ^ 8 = 256 from rfl] at h2
  exact h2.symm

theorem NumRel.step {w wr : World} {bk bx k i n : Nat} {l : List UInt8} {b : UInt8} (h : NumRel w wr bk bx k i l) (hb : l[i]? = some b) (hl : l.length = n) (hn : n ≤ 8) :
    NumRel w (wr.setCell ⟨bx, 0, none⟩ (.int .u64 (bits .or .u64 (IntKind.u64.wrap ((num (l.take i) : Int) * 256)) (IntKind.u64.wrap (b.toNat : Int))))).drew bk bx k (i + 1) l := by
  have hi : i < l.length := (List.getElem?_eq_some_iff.1 hb).1
  have e : l.take (i + 1) = l.take i ++ [b] := by
    rw [List.take_add_one, hb]; rfl
  have hlt := num_lt (l.take (i + 1))
  have hp : 256 ^ (l.take (i + 1)).length ≤ 256 ^ 8 := Nat.pow_le_pow_right (by omega) (by rw [List.length_take]; omega)
  rw [e, num_snoc] at hlt
  rw [or_digit _ _ (by rw [e] at hp; have h8 : (256 : Nat) ^ 8 = 18446744073709551616 := by decide
                       omega)]
  refine ⟨⟨h.grown.os, h.grown.tape, h.grown.output, ?_, ?_⟩, ?_, ?_⟩
  · have := h.size
    simp [World.setCell, World.drew]; omega
  · intro k hk hne
    show (wr.setCell _ _).heap[k]? = _
    rw [Below.heap_setCell _ _ _ _ (fun h' => hne (by rw [h']))]
    exact h.grown.block k hk hne
  · show (wr.setCell _ _).heap.size = _
    simp [World.setCell, h.size]
  · show (wr.setCell _ _).heap[bx]? = _
    rw [one_setCell h.var, e, num_snoc]

theorem NumRel.old {w wr : World} {bk bx k i n c : Nat} {l : List UInt8} {q : Option Addr} (h : NumRel w wr bk bx k i l) (hv : Lib.HoldsBytes w (.slice q n c) l) (hq : ∀ a, q = some a → a.block ≠ bx) (hi : i < n) :
    ∃ a b, q = some a ∧ l[i]? = some b ∧ wr.cell? (a.add i) = some (.int .u8 (b.toNat : Int)) := by
  obtain ⟨p, cap, he, h1, h2⟩ := hv
  cases he
  cases q with
  | none => have := h1 rfl; subst this; simp at hi
  | some a =>
    have hx := List.getElem?_eq_getElem hi
    have hc := h2 a rfl i _ hx
    refine ⟨a, _, rfl, hx, ?_⟩
    have hbl : (a.add i).block = a.block := by unfold Addr.add; split <;> rfl
    rw [World.cell?_of_block (h.grown.block _ (World.block_lt_of_cell? w _ hc) (by rw [hbl]; intro e; exact hq a rfl (by simpa using e)))]
    exact hc

set_option maxHeartbeats 400000 in
theorem number1 (q : Option Addr) (n c bk bx : Nat) (l : List UInt8) (w : World) (hv : Lib.HoldsBytes w (.slice q n c) l) (hn : n ≤ 8)
    (hq : ∀ a, q = some a → a.block ≠ bx) (hk : w.heap[bk]? = some (.cells #[.int .i64 n] 3 (0, 0))) (hx : w.heap[bx]? = some (.cells #[.int .u64 0] 67 (0, 0))) :
    Calls Try.prog 70 #[.slice q n c, .pointer (some ⟨bk, 0, none⟩), .pointer (some ⟨bx, 0, none⟩)] w (fun e w' => e = .returned (.tuple #[]) ∧ NumRel w w' bk bx n n l) := by
  have hl1 : Hid (l.length = n) := by obtain ⟨_, _, he, _⟩ := hv; cases he; exact rfl
  have hv1 := Lib.hid hv
  have hk1 := Lib.hid hk
  have hx1 := Lib.hid hx
  have hq1 := Lib.hid hq
  have ck := cell_of_one hk
  clear hv hk hx hq
  go_enter Try.func70, Try.ntmps70
  go_wp2
  go_loopw [6] (fun v6 wr => ∃ i : Nat, i ≤ n ∧ v6 = .int .i64 i ∧ NumRel w wr bk bx n i l) (fun v6 _ => n - (intOf v6).toNat)
  case atStart => exact ⟨0, Nat.zero_le _, rfl, ⟨⟨rfl, rfl, rfl, Nat.le_refl _, fun _ _ _ => rfl⟩, rfl, hx1.out⟩⟩
  case round =>
    obtain ⟨i, hi, rfl, hr⟩ := hrel
    have cx := cell_of_one hr.var
    have fx := free_of_one hr.var
    by_cases hlt : i < n
    · obtain ⟨a, b, rfl, hb, hcb⟩ : ∃ a b, q = some a ∧ l[i]? = some b ∧ wr.cell? (a.add i) = some (.int .u8 (b.toNat : Int)) := by
        exact hr.old hv1.out hq1.out hlt
      have hnext := Lib.hid (hr.step hb hl1.out hn)
      clear hb
      go_wp2
      go_region
      go_wp2
      go_roundw
      case rel => exact ⟨i + 1, by omega, by go_num, hnext.out⟩
      case measure => simp [intOf]; omega
    · obtain rfl : i = n := by omega
      go_wp2
      go_end0
      exact ⟨rfl, hr⟩

end Go.Proofs.Ytcniolmihpkmmaa
