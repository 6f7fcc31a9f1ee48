/- The contracts of the closure in from, of from, Join and Sum32. -/
import Derived.Test.YthjmmnbfjahamaaDoorPut
import Derived.Test.YthjmmnbfjahamaaDoorCrc
namespace Go.Proofs.YthjmmnbfjahamaaDoor
open Go.RowKit

/-- the table of steps lies where the program laid it -/
def Laid (w : World) : Prop := ∀ i, i < 16 → w.cell? ⟨0, i, none⟩ = some (.int .u32 (tab i : Int))
theorem Laid.keep {B : Nat} {w w' : World} (h : Laid w) (hb : Below B w w') (hB : 0 < B) : Laid w' := fun i hi => by rw [hb.cell (p := ⟨_, i, none⟩) hB, h i hi]
theorem Laid.grown {w w' : World} {g : Nat} (h : Laid w) (hg : w.grownBy w' (some g)) (h0 : 0 < g) : Laid w' := fun i hi => by
  rw [World.cell?_of_block (hg.block _ (World.block_lt_of_cell? w _ (h i hi)) (by intro e; have := Option.some.inj e; simp at this; omega))]
  exact h i hi
theorem Laid.size {w : World} (h : Laid w) : 0 < w.heap.size := World.block_lt_of_cell? w _ (h 0 (by decide))

/-- the closure's own variable -/
def Var (w : World) (g : Nat) (r : BitVec 32) : Prop := w.heap[g]? = some (.cells #[.int .u32 (r.toNat : Int)] 24 (0, 0))
theorem Var.lt {w : World} {g : Nat} {r : BitVec 32} (h : Var w g r) : g < w.heap.size := (Array.getElem?_eq_some_iff.1 h).1
theorem Var.set {w : World} {g : Nat} {r s : BitVec 32} {x : Int} (h : Var w g r) (hx : x = (s.toNat : Int)) : Var (w.setCell ⟨g, 0, none⟩ (.int .u32 x)) g s := by
  subst hx
  exact one_setCell h
theorem grown_set (w : World) (g : Nat) (v : Value) : w.grownBy (w.setCell ⟨g, 0, none⟩ v) (some g) :=
  ⟨rfl, rfl, rfl, by simp [World.setCell], fun k _ hne => Below.heap_setCell _ _ _ _ (fun e => hne (by rw [e]))⟩

/-- a sum as the program's number -/
def un (r : BitVec 32) : Int := (r.toNat : Int)
theorem un_lo (r : BitVec 32) : 0 ≤ un r := Int.natCast_nonneg _
theorem un_hi (r : BitVec 32) : un r < 4294967296 := by have := r.isLt; unfold un; omega
theorem un_inj {r s : BitVec 32} (h : un r = un s) : r = s := BitVec.eq_of_toNat_eq (by unfold un at h; omega)

theorem nib_val (r : BitVec 32) : bits .xor .u32 ((r.toNat : Int) / 16) (tab (r.toNat % 16) : Int) = ((nib r).toNat : Int) := by
  have h1 := r.isLt
  have h2 := tab_lt (r.toNat % 16) (by omega)
  rw [show ((r.toNat : Int) / 16) = ((r.toNat / 16 : Nat) : Int) by omega, u32_xor_nat _ _ (by omega) h2, nib, BitVec.toNat_xor, BitVec.toNat_ushiftRight, Nat.shiftRight_eq_div_pow, BitVec.toNat_ofNat, Nat.mod_eq_of_lt h2]
theorem in_val (r : BitVec 32) (x : UInt8) : bits .xor .u32 (r.toNat : Int) (x.toNat : Int) = ((r ^^^ BitVec.ofNat 32 x.toNat).toNat : Int) := by
  have h1 := r.isLt
  have h2 := x.toNat_lt
  rw [u32_xor_nat _ _ h1 (by omega), BitVec.toNat_xor, BitVec.toNat_ofNat, Nat.mod_eq_of_lt (by omega)]
theorem not_val (r : BitVec 32) : bits .xor .u32 IntKind.u32.max (r.toNat : Int) = un (~~~r) := by
  unfold un
  have h1 := r.isLt
  rw [show IntKind.u32.max = ((4294967295 : Nat) : Int) by rfl, u32_xor_nat _ _ (by decide) h1]
  congr 1

theorem ret_int {k : IntKind} {a b : Int} (h : a = b) : Ending.returned (.int k a) = .returned (.int k b) := by rw [h]

/-- so many steps of half a byte -/
def nibs : Nat → BitVec 32 → BitVec 32
  | 0, r => r
  | k + 1, r => nib (nibs k r)

structure NextRel (w wr : World) (g k : Nat) (r : BitVec 32) : Prop where
  grown : w.grownBy wr (some g)
  var : Var wr g (nibs k r)

theorem NextRel.step {w wr : World} {g k : Nat} {r : BitVec 32} {x : Int} (h : NextRel w wr g k r) (hx : x = ((nib (nibs k r)).toNat : Int)) : NextRel w (wr.setCell ⟨g, 0, none⟩ (.int .u32 x)).drew g (k + 1) r :=
  have h2 := h.grown.trans (grown_set wr g (.int .u32 x))
  ⟨⟨h2.os, h2.tape, h2.output, h2.size, h2.block⟩, h.var.set hx⟩

set_option maxHeartbeats 400000 in
theorem next_any (g : Nat) (r : BitVec 32) (x : UInt8) (w : World) (hL : Laid w) (hv : Var w g r) (hg : 0 < g) :
    Calls Tryd.prog 25 #[.int .u8 (x.toNat : Int), .pointer (some ⟨g, 0, none⟩)] w
      (fun e w' => e = .returned (.int .u32 (un (~~~(byt r x)))) ∧ Var w' g (byt r x) ∧ w.grownBy w' (some g)) := by
  have hL1 := Lib.hid hL
  have c0 := cell_of_one hv
  have f0 := free_of_one hv
  have hx0 := x.toNat_lt
  have hr0 := r.isLt
  have hrel0 : Hid (NextRel w (w.setCell ⟨g, 0, none⟩ (.int .u32 (bits .xor .u32 (r.toNat : Int) (x.toNat : Int)))) g 0 (r ^^^ BitVec.ofNat 32 x.toNat)) := ⟨grown_set _ _ _, hv.set (in_val r x)⟩
  clear hL hv
  go_enter Tryd.func25, Tryd.ntmps25
  go_wp2
  go_loopw [8] (fun v8 wr => ∃ k : Nat, k ≤ 2 ∧ v8 = .int .i64 k ∧ NextRel w wr g k (r ^^^ BitVec.ofNat 32 x.toNat)) (fun v8 _ => 2 - (intOf v8).toNat)
  case atStart => exact ⟨0, Nat.zero_le _, rfl, hrel0.out⟩
  case round =>
    obtain ⟨k, hk, rfl, hr⟩ := hrel
    have cx := cell_of_one hr.var
    have fx := free_of_one hr.var
    have hlt0 := (nibs k (r ^^^ BitVec.ofNat 32 x.toNat)).isLt
    have ht0 := tab_lt ((nibs k (r ^^^ BitVec.ofNat 32 x.toNat)).toNat % 16) (by omega)
    by_cases hlt : k < 2
    · have ct := (hL1.out.grown hr.grown hg) ((nibs k (r ^^^ BitVec.ofNat 32 x.toNat)).toNat % 16) (by omega)
      have hnext := Lib.hid (hr.step (nib_val _))
      go_wp2
      go_region
      go_wp2
      go_roundw
      case rel => exact ⟨k + 1, by omega, by go_num, hnext.out⟩
      case measure => simp [intOf]; omega
    · obtain rfl : k = 2 := by omega
      have hf : nibs 2 (r ^^^ BitVec.ofNat 32 x.toNat) = byt r x := byt_nib r x
      have hn := Lib.hid (not_val (byt r x))
      have hg2 := Lib.hid hr.grown
      have hv2 := Lib.hid hr.var
      rw [hf] at cx hv2
      clear hf hr
      go_wp2
      go_ret
      exact ⟨ret_int hn.out, hv2.out, hg2.out⟩

theorem var_new (s : BitVec 32) (w : World) : Var (w.alloc (.cells #[.int .u32 (bits .xor .u32 IntKind.u32.max (un s))] 24)) w.heap.size (~~~s) := by
  have e : bits .xor .u32 IntKind.u32.max (un s) = ((~~~s).toNat : Int) := not_val s
  rw [e]
  exact heap_alloc_new _ _
theorem holds_len {w : World} {p : Option Addr} {n c : Nat} {l : List UInt8} (h : Lib.HoldsBytes w (.slice p n c) l) : n = l.length := by
  obtain ⟨_, _, he, _⟩ := h; cases he; exact rfl
theorem holds_get {w w' : World} {p : Option Addr} {n c k : Nat} {l : List UInt8} (h : Lib.HoldsBytes w (.slice p n c) l) (hb : Below w.heap.size w w') (hk : k < n) :
    ∃ a x, p = some a ∧ l[k]? = some x ∧ w'.cell? (a.add k) = some (.int .u8 (x.toNat : Int)) := by
  obtain ⟨q, cap, he, h1, h2⟩ := h
  cases he
  cases p with
  | none => have := h1 rfl; subst this; simp at hk
  | some a => exact ⟨a, _, rfl, List.getElem?_eq_getElem hk, Lib.Below.cellOf hb (h2 a rfl k _ (List.getElem?_eq_getElem hk)) (Nat.le_refl _)⟩

structure JoinRel (w wr : World) (s : BitVec 32) (l : List UInt8) (k : Nat) : Prop where
  below : Below w.heap.size w wr
  var : Var wr w.heap.size (upd (~~~s) (l.take k))
theorem JoinRel.step {w wr w' : World} {s : BitVec 32} {l : List UInt8} {k : Nat} {x : UInt8} (h : JoinRel w wr s l k) (hx : l[k]? = some x) (hv : Var w' w.heap.size (byt (upd (~~~s) (l.take k)) x)) (hg : wr.grownBy w' (some w.heap.size)) :
    JoinRel w w' s l (k + 1) ∧ ~~~(byt (upd (~~~s) (l.take k)) x) = join s (l.take (k + 1)) := by
  have e : l.take (k + 1) = l.take k ++ [x] := by rw [List.take_add_one, hx]; rfl
  have e2 : upd (~~~s) (l.take (k + 1)) = byt (upd (~~~s) (l.take k)) x := by rw [e, upd_append]; rfl
  exact ⟨⟨h.below.grown hg h.below.size (fun j e => by cases e; exact Nat.le_refl _), by rw [e2]; exact hv⟩, by rw [join, e2]⟩

set_option maxHeartbeats 400000 in
theorem join_any (s : BitVec 32) (p : Option Addr) (n c : Nat) (l : List UInt8) (w : World) (hL : Laid w) (hv : Lib.HoldsBytes w (.slice p n c) l) (hn : n ≤ 140737488355328) :
    Calls Tryd.prog 12 #[.int .u32 (un s), .slice p n c] w (fun e w' => e = .returned (.int .u32 (un (join s l))) ∧ Below w.heap.size w w') := by
  have hL1 := Lib.hid hL
  have hlen := Lib.hid (holds_len hv)
  have hv1 := Lib.hid hv
  have hrel0 : Hid (JoinRel w (w.alloc (.cells #[.int .u32 (bits .xor .u32 IntKind.u32.max (un s))] 24)) s l 0) := ⟨(Below.refl _ _).alloc (Nat.le_refl _) _, var_new s w⟩
  have e0 : Hid (un s = un (join s (l.take 0))) := by rw [List.take_zero, join_nil]; exact rfl
  clear hL hv
  go_enter Tryd.func12, Tryd.ntmps12
  go_wp2
  go_loopw [0, 12] (fun v0 v12 wr => ∃ k : Nat, k ≤ n ∧ v12 = .int .i64 k ∧ v0 = .int .u32 (un (join s (l.take k))) ∧ JoinRel w wr s l k) (fun _ v12 _ => n - (intOf v12).toNat)
  case atStart => exact ⟨0, Nat.zero_le _, rfl, by rw [← e0.out], hrel0.out⟩
  case round =>
    obtain ⟨k, hk, rfl, rfl, hr⟩ := hrel
    have hr1 := Lib.hid hr
    clear hr
    by_cases hlt : k < n
    · obtain ⟨a, x, rfl, hx, hc⟩ : ∃ a x, p = some a ∧ l[k]? = some x ∧ wr.cell? (a.add k) = some (.int .u8 (x.toNat : Int)) := by
        exact holds_get hv1.out hr1.out.below hlt
      have hx1 := Lib.hid hx
      clear hx
      go_wp2_with (go_at_call 25; refine (next_any _ _ _ _ (hL1.out.keep hr1.out.below hL1.out.size) hr1.out.var hL1.out.size).mono ?_; rintro e w2 ⟨rfl, hv2, hg2⟩)
      have hnext := Lib.hid (hr1.out.step hx1.out hv2 hg2)
      clear hv2 hg2
      go_wp2
      go_roundw
      case rel => exact ⟨k + 1, by omega, by go_num, by rw [hnext.out.2], hnext.out.1⟩
      case measure => simp [intOf]; omega
    · obtain rfl : k = n := by omega
      have hb := Lib.hid hr1.out.below
      have e1 : Hid (l.take k = l) := by rw [hlen.out]; exact List.take_length
      go_wp2
      go_ret
      exact ⟨ret_int (by rw [e1.out]), hb.out⟩

theorem sum_any (p : Option Addr) (n c : Nat) (l : List UInt8) (w : World) (hL : Laid w) (hv : Lib.HoldsBytes w (.slice p n c) l) (hn : n ≤ 140737488355328) :
    Calls Tryd.prog 10 #[.slice p n c] w (fun e w' => e = .returned (.int .u32 (un (crc l))) ∧ Below w.heap.size w w') := by
  have h := Lib.hid (join_any 0#32 p n c l w hL hv hn)
  clear hL hv
  go_enter Tryd.func10, Tryd.ntmps10
  go_wp2_with (go_at_call 12; refine h.out.mono ?_; rintro e w' ⟨rfl, hb⟩)
  go_ret
  exact ⟨rfl, hb⟩

end Go.Proofs.YthjmmnbfjahamaaDoor
