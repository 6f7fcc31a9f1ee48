/- octet's Put32 and Put16, bytes.Clone, a slice of bytes of the call's own; block and putNumber of ring. -/
import Derived.Test.YtjhnagipagkhiaaGreatPut
import Derived.Test.YtjhnagipagkhiaaGreatShelf
import Derived.Test.YtjhnagipagkhiaaGreatRLay
import Derived.Deep.AppendSrc
import Derived.Lib.SlBuf
namespace Go.Proofs.YtjhnagipagkhiaaGreat
open Go.RowKit

theorem holds_len {w : World} {p : Option Addr} {n c : Nat} {l : List UInt8} (h : Lib.HoldsBytes w (.slice p n c) l) : n = l.length := by
  obtain ⟨_, _, he, _⟩ := h; cases he; exact rfl
theorem put_int (p : Option Addr) (n c : Nat) (k x : Int) (l : List UInt8) (w : World) (hv : Lib.HoldsBytes w (.slice p n c) l) (hn : n ≤ 140737488355328) (hx : 0 ≤ x) (hk0 : 0 ≤ k) (hk : k ≤ 8) :
    Calls Tryz.prog 119 #[.slice p n c, .int .u64 x, .int .i64 k] w (PutPost w (n + k.toNat) (l ++ be k.toNat x.toNat)) := by
  have h := put_any p n c k.toNat x.toNat l w hv hn (by omega)
  rwa [Int.toNat_of_nonneg hx, Int.toNat_of_nonneg hk0] at h

set_option maxHeartbeats 400000 in
theorem put32 (p : Option Addr) (n c : Nat) (x : Int) (l : List UInt8) (w : World) (hv : Lib.HoldsBytes w (.slice p n c) l) (hn : n ≤ 140737488355328) (hx : 0 ≤ x) (hx1 : x < 4294967296) :
    Calls Tryz.prog 102 #[.slice p n c, .int .u32 x] w (PutPost w (n + 4) (l ++ be 4 x.toNat)) := by
  have hv1 := Lib.hid hv
  clear hv
  go_enter Tryz.func102, Tryz.ntmps102
  go_wp2_with (go_at_call 119; refine (put_int p n c 4 x l w hv1.out hn hx (by omega) (by omega)).mono ?_; rintro e w' ⟨rfl, hrow, hb⟩)
  go_ret
  exact ⟨rfl, hrow, hb⟩

set_option maxHeartbeats 400000 in
theorem put16 (p : Option Addr) (n c : Nat) (x : Int) (l : List UInt8) (w : World) (hv : Lib.HoldsBytes w (.slice p n c) l) (hn : n ≤ 140737488355328) (hx : 0 ≤ x) (hx1 : x < 65536) :
    Calls Tryz.prog 103 #[.slice p n c, .int .u16 x] w (PutPost w (n + 2) (l ++ be 2 x.toNat)) := by
  have hv1 := Lib.hid hv
  clear hv
  go_enter Tryz.func103, Tryz.ntmps103
  go_wp2_with (go_at_call 119; refine (put_int p n c 2 x l w hv1.out hn hx (by omega) (by omega)).mono ?_; rintro e w' ⟨rfl, hrow, hb⟩)
  go_ret
  exact ⟨rfl, hrow, hb⟩

/-- A slice of the bytes l whose array, if there is one, lies at block B or later. -/
def New (B : Nat) (w : World) (v : Value) (l : List UInt8) : Prop :=
  Lib.HoldsBytes w v l ∧ ∀ a n c, v = .slice (some a) n c → B ≤ a.block ∧ a.block < w.heap.size ∧ n ≤ c

def ClonePost (w : World) (l : List UInt8) (e : Ending) (w' : World) : Prop :=
  ∃ q c', e = .returned (.slice q l.length c') ∧ New w.heap.size w' (.slice q l.length c') l ∧ Below w.heap.size w w'

theorem clone (p : Option Addr) (n c : Nat) (l : List UInt8) (w : World) (hv : Lib.HoldsBytes w (.slice p n c) l) (hn : n ≤ 140737488355328) :
    Calls Tryz.prog 59 #[.slice p n c] w (ClonePost w l) := by
  obtain ⟨q, cap, he, h1, h2⟩ := hv
  cases he
  cases p with
  | none =>
    have := h1 rfl
    subst this
    refine (Tryz.bytes_Clone_nil _ c w).mono ?_
    rintro e w' ⟨rfl, rfl⟩
    exact ⟨none, 0, rfl, ⟨⟨none, 0, rfl, fun _ => rfl, fun a ha => by cases ha⟩, fun a n c h => by cases h⟩, Below.refl _ _⟩
  | some a =>
    refine (Tryz.bytes_Clone_at a l.length c (Lib.numsL l) w (Lib.numsL_length l) hn (fun i hi => ?_)).mono ?_
    · rw [h2 a rfl i l[i] (List.getElem?_eq_getElem hi)]
      simp [Lib.numsL, List.getD, hi]
    rintro e w' ⟨v', rfl, hown, hne, hb⟩
    obtain ⟨hlen, hr | ⟨g, cap', cur, rfl, hg, hh, hle, hm, hsz, htk⟩⟩ := hown
    · exact absurd hr.1 hne
    · refine ⟨some ⟨g, 0, none⟩, cap', rfl, ⟨⟨some ⟨g, 0, none⟩, cap', rfl, (fun h => by cases h), fun a ha i x hx => ?_⟩, fun a n c h => by cases h; exact ⟨hg, (Array.getElem?_eq_some_iff.1 hh).1, hle⟩⟩, hb⟩
      cases ha
      have hadd : (⟨g, 0, none⟩ : Addr).add i = ⟨g, i, none⟩ := by unfold Addr.add; split <;> simp_all
      have hi : i < l.length := (List.getElem?_eq_some_iff.1 hx).1
      rw [hadd, cell_of_row w' g i cur 5 (0, 0) hh]
      have h3 := congrArg (·[i]?) htk
      simp only [Nat.mul_one] at h3
      rw [List.getElem?_take_of_lt hi] at h3
      rw [← Array.getElem?_toList, h3]
      simp [Lib.numsL, hx]

/-- The slice v holds the bytes l in a row of its own from block base on. -/
def Own (w : World) (base : Nat) (v : Value) (l : List UInt8) : Prop := w.ownsRow base 5 1 v l.length (vals l)

theorem Own.holds {w : World} {base : Nat} {q : Option Addr} {n c : Nat} {l : List UInt8} (h : Own w base (.slice q n c) l) : Lib.HoldsBytes w (.slice q n c) l ∧ n ≤ c ∧ (∀ a, q = some a → base ≤ a.block ∧ a.block < w.heap.size) := by
  obtain ⟨hlen, ⟨he, h0⟩ | ⟨g, cap, cur, he, hg, hh, hle, hm, hsz, htk⟩⟩ := h
  · cases he
    have : l = [] := List.eq_nil_of_length_eq_zero h0
    subst this
    exact ⟨⟨none, 0, rfl, fun _ => rfl, fun a ha => by cases ha⟩, Nat.le_refl _, fun a ha => by cases ha⟩
  · cases he
    refine ⟨⟨some ⟨g, 0, none⟩, c, rfl, (fun h => by cases h), fun a ha i x hx => ?_⟩, hle, fun a ha => by cases ha; exact ⟨hg, (Array.getElem?_eq_some_iff.1 hh).1⟩⟩
    cases ha
    have hadd : (⟨g, 0, none⟩ : Addr).add i = ⟨g, i, none⟩ := by unfold Addr.add; split <;> simp_all
    have hi : i < l.length := (List.getElem?_eq_some_iff.1 hx).1
    rw [hadd, cell_of_row w g i cur 5 (0, 0) hh]
    have h3 := congrArg (·[i]?) htk
    simp only [Nat.mul_one] at h3
    rw [List.getElem?_take_of_lt hi] at h3
    rw [← Array.getElem?_toList, h3]
    simp [vals, hx]

theorem Own.shape {w : World} {base : Nat} {v : Value} {l : List UInt8} (h : Own w base v l) : ∃ q c, v = .slice q l.length c := by
  obtain ⟨hlen, ⟨he, h0⟩ | ⟨g, cap, cur, he, _⟩⟩ := h
  · exact ⟨none, 0, by rw [he, h0]⟩
  · exact ⟨_, _, he⟩

theorem Own.made {w : World} {n : Nat} (hn : n ≤ maxLen) : Own (w.alloc (.cells (vals (zs n)).toArray 5)) w.heap.size (.slice (some ⟨w.heap.size, 0, none⟩) 0 n) [] :=
  World.ownsRow_made w _ n (Nat.le_refl _) hn (by simp [vals, zs])

theorem Own.kept {w w' : World} {base : Nat} {q : Option Addr} {n c : Nat} {l : List UInt8} (h : Own w base (.slice q n c) l) (hb : ∀ a, q = some a → w'.heap[a.block]? = w.heap[a.block]?) : Own w' base (.slice q n c) l := by
  obtain ⟨hlen, ⟨he, h0⟩ | ⟨g, cap, cur, he, hg, hh, r⟩⟩ := h
  · exact ⟨hlen, Or.inl ⟨he, h0⟩⟩
  · cases he
    exact ⟨hlen, Or.inr ⟨g, c, cur, rfl, hg, by rw [hb _ rfl]; exact hh, r⟩⟩

theorem Own.below {w w' : World} {base : Nat} {q : Option Addr} {n c : Nat} {l : List UInt8} (h : Own w base (.slice q n c) l) (hb : Below w.heap.size w w') : Own w' base (.slice q n c) l :=
  h.kept fun a ha => hb.block _ (h.holds.2.2 a ha).2

theorem run_append_bytes {w : World} {base : Nat} {q0 q : Option Addr} {n0 c0 m d : Nat} {l k : List UInt8} (ty : TypeId) (hown : Own w base (.slice q0 n0 c0) l) (hk : Lib.HoldsBytes w (.slice q m d) k) (hbig : n0 + m ≤ 1099511627776) (hbase : base ≤ w.heap.size) :
    ∃ q' c' w', (Builtin.append_ #[30, 30] ty #[.slice q0 n0 c0, .slice q m d]).run Tryz.prog w = .ok (.slice q' (n0 + m) c') w' ∧ Own w' base (.slice q' (n0 + m) c') (l ++ k) ∧ w.grownBy w' (blockOf q0) := by
  have e0 := holds_len hown.holds.1
  have em := holds_len hk
  obtain ⟨i0, hi, hz0, hz1, hz2⟩ := info_parts info5
  obtain ⟨q1, cap, he, h1, h2⟩ := hk
  cases he
  cases q with
  | none =>
    have hk0 := h1 rfl
    subst hk0
    simp only [List.length_nil, Nat.add_zero, List.append_nil]
    refine ⟨q0, c0, w, ?_, hown, ⟨rfl, rfl, rfl, Nat.le_refl _, fun _ _ _ => rfl⟩⟩
    cases q0 with
    | none =>
      obtain ⟨_, ⟨he, h0⟩ | ⟨g, cap, cur, he, _⟩⟩ := hown
      · cases he
        simp [Builtin.append_, run_underlying Tryz.underlying30, sizeOf, typeInfo, hi, Builtin.lenOf, Builtin.firstCells]
      · cases he
    | some a =>
      obtain ⟨_, ⟨he, h0⟩ | ⟨g, cap, cur, he, hg, hh, hle, _⟩⟩ := hown
      · cases he
      · cases he
        have h := run_append_room_src (P := Tryz.prog) w 30 30 ty 5 i0 Tryz.underlying30 hi g 0 _ _ (.slice none 0 d) 0 [] (Src.ofNil w Tryz.underlying30 d) (by omega) (by intro j hj; simp at hj) (by intro j hj; simp at hj)
        simpa [World.setCells] using h
  | some a =>
    subst e0
    obtain ⟨v', w', hr, hown', hg, _⟩ := run_append_own (P := Tryz.prog) w base 30 ty 5 i0 (.int .u8 0) 1 1 Tryz.underlying30 hi hz0 hz1 hz2 rfl (by decide) _ l.length (vals l) hown a k.length d (vals k)
      (by rw [length_vals, Nat.mul_one])
      (fun j u hj => by obtain ⟨x, hx, rfl⟩ := vals_get hj; exact h2 a rfl j x hx) (one_vals k) (by unfold maxLen; omega) (by omega) hbase
    have hown2 : Own w' base v' (l ++ k) := by
      unfold Own
      rw [List.length_append, vals_append]
      exact hown'
    obtain ⟨q', c', rfl⟩ := hown2.shape
    rw [List.length_append] at hr hown2
    refine ⟨q', c', w', hr, hown2, ?_⟩
    cases q0 <;> exact hg

theorem wpList_append_bytes {w : World} {ops : Array Oper} {rest : List Oper} {o : Oper} {a : Act} {Q : Exit → Act → World → Prop} (hgd : o.guard = none) (s x : Operand)
    (ho : o.op = .call { callee := .builtin .append, args := #[s, x], argTypes := #[30, 30] }) {base : Nat} {q0 q : Option Addr} {n0 c0 m d : Nat} {l k : List UInt8} (hs : a.eval s = .slice q0 n0 c0) (hx : a.eval x = .slice q m d)
    (hown : Own w base (.slice q0 n0 c0) l) (hk : Lib.HoldsBytes w (.slice q m d) k) (hbig : n0 + m ≤ 1099511627776) (hbase : base ≤ w.heap.size)
    (h : ∀ q' c' w', Own w' base (.slice q' (n0 + m) c') (l ++ k) → w.grownBy w' (blockOf q0) → wpList Tryz.prog ops Q rest (a.put o.dst (.slice q' (n0 + m) c')) w') : wpList Tryz.prog ops Q (o :: rest) a w := by
  obtain ⟨q', c', w', hr, h1, h2⟩ := run_append_bytes o.type hown hk hbig hbase
  exact Lib.wpList_append_run_sl w hgd s x 30 ho _ _ hs hx hr (h q' c' w' h1 h2)

theorem holds_new1 (w : World) (b : UInt8) : Lib.HoldsBytes (w.alloc (.cells #[.int .u8 (b.toNat : Int)] 5)) (.slice (some ⟨w.heap.size, 0, none⟩) 1 1) [b] :=
  Row.holds (T := 5) (l := [b]) (heap_alloc_new _ _) 1

theorem Row.own {w : World} {g : Nat} {l : List UInt8} {m : Nat} (h : Row 5 w g l) (hm : m = l.length) (hm2 : m ≤ 1000) : Own w g (.slice (some ⟨g, 0, none⟩) m m) l := by
  have hl : l.length ≤ maxLen := by unfold maxLen; omega
  subst hm
  refine ⟨by rw [length_vals, Nat.mul_one], .inr ⟨g, l.length, _, rfl, Nat.le_refl _, h, Nat.le_refl _, hl, by simp [vals], ?_⟩⟩
  rw [Nat.mul_one, List.take_of_length_le (by simp [vals])]

/-! ### block -/
def ints (l : List UInt8) : List Int := l.map fun x => (x.toNat : Int)
theorem bl_ints (l : List UInt8) : bl (ints l) = vals l := by simp [bl, ints, vals]
theorem ints_len (l : List UInt8) : (ints l).length = l.length := by simp [ints]
/-- a sector's bytes: these, and noughts behind them -/
def pad (l : List UInt8) : List Int := ints (l ++ zs (64 - l.length))
theorem pad_len {l : List UInt8} (h : l.length ≤ 64) : (pad l).length = 64 := by
  unfold pad; rw [ints_len, List.length_append, length_zs]; omega
theorem bl_z64_vals : bl z64 = vals (zs 64) := by simp [bl, z64, vals, zs]

set_option maxRecDepth 100000 in
set_option maxHeartbeats 1000000 in
theorem block_of (p : Option Addr) (n c : Nat) (l : List UInt8) (w : World) (hv : Lib.HoldsBytes w (.slice p n c) l) (hn : l.length ≤ 64) :
    Calls Tryz.prog 105 #[.slice p n c] w (fun e w' => e = .returned (agg (pad l)) ∧ Below w.heap.size w w') := by
  have hlen := holds_len hv
  subst hlen
  have hb0 : Below w.heap.size w ((w.alloc (.cells (bl z64).toArray 48)).alloc (.cells (bl z64).toArray 48)) := ((Below.refl _ _).alloc (Nat.le_refl _) _).alloc (by simp) _
  have r0 : Hid (RowV 48 ((w.alloc (.cells (bl z64).toArray 48)).alloc (.cells (bl z64).toArray 48)) w.heap.size (bl z64)) := (RowV.made w _).block (heap_alloc_old _ _ (by simp))
  have r1 : Hid (RowV 48 ((w.alloc (.cells (bl z64).toArray 48)).alloc (.cells (bl z64).toArray 48)) (w.heap.size + 1) (vals (zs 64))) := by
    have h := RowV.made (T := 48) (w.alloc (.cells (bl z64).toArray 48)) (bl z64)
    rw [World.size_alloc, bl_z64_vals] at h
    exact h
  have hs := Lib.hid (holds_src (holds_below hv hb0 (Nat.le_refl _)) (Below.refl _ _))
  have hbb := Lib.hid hb0
  clear hv hb0
  go_enter Tryz.func105, Tryz.ntmps105
  have c1 : ((w.alloc (.cells (bl z64).toArray 48)).alloc (.cells (bl z64).toArray 48)).heap[w.heap.size + 1]? = some (.cells (vals (zs 64)).toArray 48 (0, 0)) := r1.out
  have hl1 : (vals l).length = Nat.min l.length 64 := by rw [length_vals]; exact (Nat.min_eq_left hn).symm
  have hl2 : 0 + (vals l).length ≤ (vals (zs 64)).length := by rw [length_vals, length_vals, length_zs]; omega
  have h64 : vals (zs 64) = vals (zs (l.length + (64 - l.length))) := by rw [Nat.add_sub_cancel' hn]
  have p64 := pad_len hn
  go_wp2_with (first
    | ((with_reducible refine wpList_alloc_z rfl 48 rfl alloc37z ?_)
       try simp only [World.size_alloc])
    | ((with_reducible refine wpList_copy_splice rfl (.tmp 4) (.tmp 5) 30 30 rfl 5 Tryz.underlying30 size5 _ _ _ _ _ _ rfl rfl (w.heap.size + 1) 0 (vals (zs 64)) 48 c1 (vals l) hl1 (fun h => ⟨rfl, hs.out.2 h⟩) hl2 (one_vals l) (w.heap.size + 1) _ (Below.refl _ _) (Nat.le_refl _) ?_)
       intro w3 hc hb3
       have r3 : Hid (RowV 48 w3 (w.heap.size + 1) (bl (pad l))) := by
         have h := hc.out
         rw [h64, splice_front] at h
         show RowV _ _ _ _
         unfold pad
         rw [bl_ints]
         exact h
       have q3 := Lib.hid (r0.out.block (hb3.block _ (by omega)))
       have bb3 : Hid (Below w.heap.size w w3) := hbb.out.trans (hb3.mono (by omega))
       clear hc hb3)
    | (with_reducible refine wpList_load_at rfl 48 (.tmp 3) rfl Tryz.underlying48 rfl (vs := bl (pad l)) (bl_size p64) rfl (r3.out.part (o := 0) (pre := []) (rest := []) (bl_part (pad l)) rfl) ?_)
    | ((with_reducible refine wpList_store_at rfl 48 (.tmp 2) (.tmp 7) rfl (o := 0) rfl rfl q3.out (bl_size p64) (bl_fits p64 z64_len) (bl_one (pad l)) ?_)
       intro w4 h4 hg4
       rw [bl_splice p64 z64_len] at h4)
    | (refine bodyPost_ret (results_cell_row (P := Tryz.prog) Tryz.results105 _ _ w.heap.size 48 (bl (pad l)).toArray (0, 0) _ rfl h4 Tryz.underlying48 rfl (by rw [List.size_toArray]; exact bl_size p64)) rfl ⟨rfl, ?_⟩))
  exact bb3.out.grown hg4 bb3.out.size (fun k e => by cases e; exact Nat.le_refl _)

end Go.Proofs.YtjhnagipagkhiaaGreat
