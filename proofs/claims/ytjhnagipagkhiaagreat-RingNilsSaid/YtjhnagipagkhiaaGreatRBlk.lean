/- A head's sector and an entry's, as bytes. -/
import Derived.Test.YtjhnagipagkhiaaGreatRNum
import Derived.Lib.SmallJoins
import Derived.Lib.EndianBits
namespace Go.Proofs.YtjhnagipagkhiaaGreat
open Go.RowKit

theorem be2_mod (x : Nat) : be 2 (x % 65536) = be 2 x := by
  rw [be_cons, be_cons, be_cons, be_cons]
  congr 1
  · exact ofNat_mod (by omega)
  congr 1
  · exact ofNat_mod (by omega)
/-- a number's last byte -/
def dg1 (x : Nat) : UInt8 := UInt8.ofNat x
theorem dg1_val (x : Nat) : (x : Int) % 256 = ((dg1 x).toNat : Int) := by
  unfold dg1
  simp [UInt8.toNat_ofNat']
theorem holds_new_nat (W : World) (n : Nat) (h : n < 256) : Lib.HoldsBytes (W.alloc (.cells #[.int .u8 (n : Int)] 5)) (.slice (some ⟨W.heap.size, 0, none⟩) 1 1) [dg1 n] := by
  have e := dg1_val n
  rw [Int.emod_eq_of_lt (by omega) (by omega)] at e
  rw [e]
  exact holds_new1 W _
def lets : List UInt8 := [98, 117, 114, 115, 114, 105, 110, 103]
theorem holds_lets (W : World) (g : Nat) (hg : g = W.heap.size) : Lib.HoldsBytes (W.alloc (.cells #[.int .u8 98, .int .u8 117, .int .u8 114, .int .u8 115, .int .u8 114, .int .u8 105, .int .u8 110, .int .u8 103] 5 (8, 9))) (.slice (some ⟨g, 0, none⟩) 8 8) lets := by
  subst hg
  refine ⟨some ⟨W.heap.size, 0, none⟩, 8, rfl, (fun h => by cases h), fun a ha i x hx => ?_⟩
  cases ha
  have hadd : (⟨W.heap.size, 0, none⟩ : Addr).add i = ⟨W.heap.size, i, none⟩ := by unfold Addr.add; split <;> simp_all
  rw [hadd, cell_of_row _ W.heap.size i _ 5 (8, 9) (heap_alloc_new _ _)]
  have hi : i < 8 := (List.getElem?_eq_some_iff.1 hx).1
  match i, hi with
  | 0, _ | 1, _ | 2, _ | 3, _ | 4, _ | 5, _ | 6, _ | 7, _ => cases hx; rfl
def headB (turn size first place : Nat) (note : List UInt8) : List UInt8 := lets ++ be 4 turn ++ be 2 size ++ be 5 first ++ be 2 place ++ [dg1 note.length] ++ note
theorem headB_len (turn size first place : Nat) (note : List UInt8) : (headB turn size first place note).length = 22 + note.length := by
  unfold headB
  simp only [List.length_append, length_be, List.length_singleton]
  show 8 + 4 + 2 + 5 + 2 + 1 + note.length = _
  omega
abbrev hdL (turn size first place : Nat) (nq : Option Addr) (nl nc : Nat) : List Value := [.int .u32 turn, .int .i64 size, .int .u64 first, .int .i64 place, .slice nq nl nc]

theorem grown_low {B : Nat} {w0 w w' : World} {g : Option Nat} (h : Below B w0 w) (hg : w.grownBy w' g) (hB : B ≤ w.heap.size) (hge : ∀ k, g = some k → B ≤ k) : Below B w0 w' := h.grown hg hB hge

set_option maxRecDepth 100000 in
set_option maxHeartbeats 2000000 in
theorem headBlock_any (turn size first place : Nat) (nq : Option Addr) (nc : Nat) (note : List UInt8) (w : World) (hv : Lib.HoldsBytes w (.slice nq note.length nc) note) (hn : note.length ≤ 32) (ht : turn < 4294967296) :
    Calls Tryz.prog 77 #[.agg #[.int .u32 turn, .int .i64 size, .int .u64 first, .int .i64 place, .slice nq note.length nc]] w (fun e w' => e = .returned (agg (pad (headB turn size first place note))) ∧ Below w.heap.size w w') := by
  obtain ⟨nl, hnl⟩ : ∃ nl, note.length = nl := ⟨_, rfl⟩
  rw [hnl] at hv hn ⊢
  obtain ⟨w0, hw0⟩ : ∃ w0, (w.alloc (.cells #[.int .u32 turn, .int .i64 size, .int .u64 first, .int .i64 place, .slice nq nl nc] 94)).alloc (.cells (bl z64).toArray 48) = w0 := ⟨_, rfl⟩
  have hb0 : Hid (Below w.heap.size w w0) := by show Below _ _ _; rw [← hw0]; exact ((Below.refl _ _).alloc (Nat.le_refl _) _).alloc (by simp) _
  have hz0 : w0.heap.size = w.heap.size + 2 := by rw [← hw0]; simp
  have rh : Hid (RowV 94 w0 w.heap.size (hdL turn size first place nq nl nc)) := by show RowV _ _ _ _; rw [← hw0]; exact (RowV.made w _).block (heap_alloc_old _ _ (by simp))
  have rb : Hid (RowV 48 w0 (w.heap.size + 1) (bl z64)) := by
    show RowV _ _ _ _
    rw [← hw0]
    have h := RowV.made (T := 48) (w.alloc (.cells #[.int .u32 turn, .int .i64 size, .int .u64 first, .int .i64 place, .slice nq nl nc] 94)) (bl z64)
    rw [World.size_alloc] at h
    exact h
  have hv0 := Lib.hid (holds_below hv hb0.out (Nat.le_refl _))
  have hnl' := Lib.hid hnl
  have p22 : (headB turn size first place note).length ≤ 64 := by rw [headB_len, hnl]; omega
  have p64 := pad_len p22
  have hhb : Hid (lets ++ be 4 turn ++ be 2 size ++ be 5 first ++ be 2 place ++ [dg1 nl] ++ note = headB turn size first place note) := by show _ = _; unfold headB; rw [hnl]
  have m2a : Hid (0 ≤ IntKind.u16.wrap (size : Int) ∧ IntKind.u16.wrap (size : Int) < 65536) := by show _ ∧ _; rw [IntKind.wrap_u16]; exact ⟨by omega, by omega⟩
  have m2b : Hid ((IntKind.u16.wrap (size : Int)).toNat = size % 65536) := by show _ = _; rw [IntKind.wrap_u16]; omega
  have m3a : Hid (0 ≤ IntKind.u16.wrap (place : Int) ∧ IntKind.u16.wrap (place : Int) < 65536) := by show _ ∧ _; rw [IntKind.wrap_u16]; exact ⟨by omega, by omega⟩
  have m3b : Hid ((IntKind.u16.wrap (place : Int)).toNat = place % 65536) := by show _ = _; rw [IntKind.wrap_u16]; omega
  have htt := Lib.hid (show (turn : Int) < 4294967296 by omega)
  have low : ∀ (A : World), Below (w.heap.size + 2) w0 A → RowV 94 A w.heap.size (hdL turn size first place nq nl nc) := fun A h => rh.out.block (h.block _ (by omega))
  have low' := Lib.hid low
  have hcv := Go.Joins.run_convert_bytes_const_at (P := Tryz.prog) w0 30 5 #[.int .u8 98, .int .u8 117, .int .u8 114, .int .u8 115, .int .u8 114, .int .u8 105, .int .u8 110, .int .u8 103] 8 8 (w.heap.size + 2) hz0.symm Tryz.underlying30 Tryz.underlying5
  have hlets := Lib.hid (holds_lets w0 (w.heap.size + 2) hz0.symm)
  have k12 : Hid ((lets ++ be 4 turn).length = 12) := by show _ = _; simp only [List.length_append, length_be]; rfl
  have k14 : Hid (14 = (lets ++ be 4 turn ++ be 2 size).length) := by show _ = _; simp only [List.length_append, length_be]; rfl
  have k19 : Hid ((lets ++ be 4 turn ++ be 2 size ++ be 5 first).length = 19) := by show _ = _; simp only [List.length_append, length_be]; rfl
  have k21 : Hid (21 = (lets ++ be 4 turn ++ be 2 size ++ be 5 first ++ be 2 place).length) := by show _ = _; simp only [List.length_append, length_be]; rfl
  have c0 : w0.cell? ⟨w.heap.size, 0, none⟩ = some (.int .u32 turn) := rh.out.cell 0
  clear hv hnl ht low
  go_enter Tryz.func77, Tryz.ntmps77
  go_wp2_with (first
    | ((with_reducible refine wpList_alloc_z rfl 48 rfl alloc37z ?_)
       rw [hw0]))
  go_wp2_with (first
    | (go_at_call 102
       refine (put32 _ 8 8 turn lets _ hlets.out (by omega) (by omega) htt.out).mono ?_
       rintro e w1 ⟨rfl, hr, hb⟩
       have b1 : Hid (Below (w.heap.size + 2) w0 w1) := ((Below.refl _ _).alloc (by omega) _).trans (hb.mono (by rw [World.size_alloc]; omega))
       have r1 : Hid (Row 5 w1 (w.heap.size + 2 + 1) (lets ++ be 4 turn)) := by rw [World.size_alloc, hz0] at hr; exact hr
       have s1 := Lib.hid (r1.out.lt)
       have e1 : w1.cell? ⟨w.heap.size, 1, none⟩ = some (.int .i64 size) := (low'.out _ b1.out).cell 1
       clear hr hb)
    | (go_at_call 103
       refine (put16 _ 12 12 _ (lets ++ be 4 turn) w1 (r1.out.holds 12) (by omega) m2a.out.1 m2a.out.2).mono ?_
       rintro e w2 ⟨rfl, hr, hb⟩
       have b2 : Hid (Below (w.heap.size + 2) w0 w2) := b1.out.trans (hb.mono (by have := b1.out.size; omega))
       have hr' := hr
       rw [m2b.out, be2_mod] at hr'
       have r2 := Lib.hid hr'
       have z2 := Lib.hid (show w1.heap.size ≤ w2.heap.size from hb.size)
       have e2 : w2.cell? ⟨w.heap.size, 2, none⟩ = some (.int .u64 first) := (low'.out _ b2.out).cell 2
       clear hr hr' hb)
    | (go_at_call 104
       refine (putNumber_any _ 14 14 first (lets ++ be 4 turn ++ be 2 size) w1.heap.size w2 (r2.out.own k14.out (by omega)) z2.out (by omega)).mono ?_
       rintro e w3 ⟨g3, rfl, hr, hge, hg⟩
       have b3 : Hid (Below (w.heap.size + 2) w0 w3) := b2.out.grown hg (by have := b2.out.size; omega) (fun k e => by have hk : w1.heap.size = k := Option.some.inj e; have := b1.out.size; omega)
       have r3 := Lib.hid hr
       have e3 : w3.cell? ⟨w.heap.size, 3, none⟩ = some (.int .i64 place) := (low'.out _ b3.out).cell 3
       clear hr hg hge)
    | (go_at_call 103
       refine (put16 _ 19 19 _ (lets ++ be 4 turn ++ be 2 size ++ be 5 first) w3 (r3.out.holds 19) (by omega) m3a.out.1 m3a.out.2).mono ?_
       rintro e w4 ⟨rfl, hr, hb⟩
       have b4 : Hid (Below (w.heap.size + 2) w0 w4) := b3.out.trans (hb.mono (by have := b3.out.size; omega))
       have hr' := hr
       rw [m3b.out, be2_mod] at hr'
       have r4 := Lib.hid hr'
       have z4 := Lib.hid (show w3.heap.size ≤ w4.heap.size from hb.size)
       have e4 : w4.cell? ⟨w.heap.size, 4, none⟩ = some (.slice nq nl nc) := (low'.out _ b4.out).cell 4
       have own4 := Lib.hid (r4.out.own k21.out (by omega))
       clear hr hr' hb)
    | (at_builtin; refine wpList_append_bytes rfl (.tmp 23) (.tmp 28) rfl rfl rfl (own4.out.below ((Below.refl _ _).alloc (Nat.le_refl _) _)) (holds_new_nat w4 nl (by omega)) (by omega) (by have := z4.out; simp; omega) ?_; intro q5 c5 w5 ho hg
       have own5 := Lib.hid ho
       have b5 : Hid (Below (w.heap.size + 2) w0 w5) := (b4.out.alloc (by have := b4.out.size; omega) _).grown hg (by have := b4.out.size; simp; omega) (fun k e => by have hk : w3.heap.size = k := Option.some.inj e; have := b3.out.size; omega)
       have e5 : w5.cell? ⟨w.heap.size, 4, none⟩ = some (.slice nq nl nc) := (low'.out _ b5.out).cell 4
       have hv5 := Lib.hid (holds_below hv0.out b5.out (Nat.le_of_eq hz0))
       have z5 : Hid (w3.heap.size ≤ w5.heap.size) := by have h1 := hg.size; have h2 := z4.out; rw [World.size_alloc] at h1; exact Nat.le_trans h2 (by omega)
       clear ho hg)
    | (at_builtin; refine wpList_append_bytes rfl (.tmp 30) (.tmp 32) rfl rfl rfl own5.out hv5.out (by omega) z5.out ?_; intro q6 c6 w6 ho hg
       have ho' := ho
       rw [hhb.out] at ho'
       have own6 := Lib.hid ho'
       have b6 : Hid (Below (w.heap.size + 2) w0 w6) := b5.out.grown hg (by have := b5.out.size; omega) (fun k e => by
         have h1 := (own5.out.holds.2.2)
         cases q5 with
         | none => cases e
         | some a5 => have hk : a5.block = k := Option.some.inj e; have h2 := (h1 a5 rfl).1; have := b3.out.size; omega)
       have q6 := Lib.hid (rb.out.block (b6.out.block _ (by omega)))
       clear ho ho' hg)
    | (go_at_call 105
       refine (block_of _ _ _ _ w6 own6.out.holds.1 p22).mono ?_
       rintro e w7 ⟨rfl, hb⟩
       have b7 : Hid (Below (w.heap.size + 2) w0 w7) := b6.out.trans (hb.mono (by have := b6.out.size; omega))
       have q7 := Lib.hid (q6.out.below hb)
       clear hb)
    | ((with_reducible refine wpList_store_at rfl 48 (.tmp 2) (.tmp 35) rfl (o := 0) rfl rfl q7.out (bl_size p64) (bl_fits p64 z64_len) (bl_one _) ?_)
       intro w8 h8 hg8
       rw [bl_splice p64 z64_len] at h8)
    | (refine bodyPost_ret (results_cell_row (P := Tryz.prog) Tryz.results77 _ _ (w.heap.size + 1) 48 (bl (pad (headB turn size first place note))).toArray (0, 0) _ rfl h8 Tryz.underlying48 rfl (by rw [List.size_toArray]; exact bl_size p64)) rfl ⟨rfl, ?_⟩))
  have b07 : Below w.heap.size w w7 := hb0.out.trans (b7.out.mono (by omega))
  exact b07.grown hg8 b07.size (fun k e => by have hk : w.heap.size + 1 = k := Option.some.inj e; omega)

end Go.Proofs.YtjhnagipagkhiaaGreat
