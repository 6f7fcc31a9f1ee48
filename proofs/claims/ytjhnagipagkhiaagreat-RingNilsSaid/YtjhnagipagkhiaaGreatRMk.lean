/- An entry's sector, as bytes. -/
import Derived.Test.YtjhnagipagkhiaaGreatRBlk
namespace Go.Proofs.YtjhnagipagkhiaaGreat
open Go.RowKit

def markB (turn number length k : Nat) (piece : List UInt8) : List UInt8 := be 4 turn ++ be 5 number ++ be 2 length ++ [dg1 k] ++ piece
theorem markB_len (turn number length k : Nat) (piece : List UInt8) : (markB turn number length k piece).length = 12 + piece.length := by
  unfold markB
  simp only [List.length_append, length_be, List.length_singleton]
abbrev mkL (turn number length : Nat) : List Value := [.int .u32 turn, .int .u64 number, .int .i64 length]

set_option maxRecDepth 100000 in
set_option maxHeartbeats 2000000 in
theorem markBlock_any (turn number length k : Nat) (pq : Option Addr) (pc : Nat) (piece : List UInt8) (w : World) (hv : Lib.HoldsBytes w (.slice pq piece.length pc) piece) (hn : piece.length ≤ 52) (ht : turn < 4294967296) (hk : k < 256) :
    Calls Tryz.prog 87 #[.agg #[.int .u32 turn, .int .u64 number, .int .i64 length], .int .i64 k, .slice pq piece.length pc] w (fun e w' => e = .returned (agg (pad (markB turn number length k piece))) ∧ Below w.heap.size w w') := by
  obtain ⟨pl, hpl⟩ : ∃ pl, piece.length = pl := ⟨_, rfl⟩
  rw [hpl] at hv hn ⊢
  obtain ⟨w0, hw0⟩ : ∃ w0, (w.alloc (.cells #[.int .u32 turn, .int .u64 number, .int .i64 length] 129)).alloc (.cells (bl z64).toArray 48) = w0 := ⟨_, rfl⟩
  have hb0 : Hid (Below w.heap.size w w0) := by show Below _ _ _; rw [← hw0]; exact ((Below.refl _ _).alloc (Nat.le_refl _) _).alloc (by simp) _
  have hz0 : w0.heap.size = w.heap.size + 2 := by rw [← hw0]; simp
  have rh : Hid (RowV 129 w0 w.heap.size (mkL turn number length)) := by show RowV _ _ _ _; rw [← hw0]; exact (RowV.made w _).block (heap_alloc_old _ _ (by simp))
  have rb : Hid (RowV 48 w0 (w.heap.size + 1) (bl z64)) := by
    show RowV _ _ _ _
    rw [← hw0]
    have h := RowV.made (T := 48) (w.alloc (.cells #[.int .u32 turn, .int .u64 number, .int .i64 length] 129)) (bl z64)
    rw [World.size_alloc] at h
    exact h
  have hv0 := Lib.hid (holds_below hv hb0.out (Nat.le_refl _))
  have p22 : (markB turn number length k piece).length ≤ 64 := by rw [markB_len, hpl]; omega
  have p64 := pad_len p22
  have hhb : Hid (be 4 turn ++ be 5 number ++ be 2 length ++ [dg1 k] ++ piece = markB turn number length k piece) := rfl
  have m2a : Hid (0 ≤ IntKind.u16.wrap (length : Int) ∧ IntKind.u16.wrap (length : Int) < 65536) := by show _ ∧ _; rw [IntKind.wrap_u16]; exact ⟨by omega, by omega⟩
  have m2b : Hid ((IntKind.u16.wrap (length : Int)).toNat = length % 65536) := by show _ = _; rw [IntKind.wrap_u16]; omega
  have htt := Lib.hid (show (turn : Int) < 4294967296 by omega)
  have hnil : Hid (Lib.HoldsBytes w0 (.slice none 0 0) []) := ⟨none, 0, rfl, fun _ => rfl, fun a ha => by cases ha⟩
  have low : ∀ (A : World), Below (w.heap.size + 2) w0 A → RowV 129 A w.heap.size (mkL turn number length) := fun A h => rh.out.block (h.block _ (by omega))
  have low' := Lib.hid low
  have k4 : Hid (4 = ([] ++ be 4 turn : List UInt8).length) := by show _ = _; simp only [List.nil_append, length_be]
  have k9 : Hid ((be 4 turn ++ be 5 number).length = 9) := by show _ = _; simp only [List.length_append, length_be]
  have k11 : Hid (11 = (be 4 turn ++ be 5 number ++ be 2 length).length) := by show _ = _; simp only [List.length_append, length_be]
  have c0 : w0.cell? ⟨w.heap.size, 0, none⟩ = some (.int .u32 turn) := rh.out.cell 0
  clear hv hpl ht low
  go_enter Tryz.func87, Tryz.ntmps87
  go_wp2_with (first
    | ((with_reducible refine wpList_alloc_z rfl 48 rfl alloc37z ?_)
       rw [hw0]))
  go_wp2_with (first
    | (go_at_call 102
       refine (put32 _ 0 0 turn [] _ hnil.out (by omega) (by omega) htt.out).mono ?_
       rintro e w1 ⟨rfl, hr, hb⟩
       have b1 : Hid (Below (w.heap.size + 2) w0 w1) := hb.mono (by omega)
       have r1 : Hid (Row 5 w1 (w.heap.size + 2) ([] ++ be 4 turn)) := by rw [hz0] at hr; exact hr
       have z1 := Lib.hid (show w0.heap.size ≤ w1.heap.size from hb.size)
       have e1 : w1.cell? ⟨w.heap.size, 1, none⟩ = some (.int .u64 number) := (low'.out _ b1.out).cell 1
       clear hr hb)
    | (go_at_call 104
       refine (putNumber_any _ 4 4 number ([] ++ be 4 turn) (w.heap.size + 2) w1 (r1.out.own k4.out (by omega)) (by have := z1.out; omega) (by omega)).mono ?_
       rintro e w3 ⟨g3, rfl, hr, hge, hg⟩
       have b3 : Hid (Below (w.heap.size + 2) w0 w3) := b1.out.grown hg (by have := b1.out.size; omega) (fun k e => by have hk : w.heap.size + 2 = k := Option.some.inj e; omega)
       have hr' := hr
       rw [List.nil_append] at hr'
       have r3 := Lib.hid hr'
       have e3 : w3.cell? ⟨w.heap.size, 2, none⟩ = some (.int .i64 length) := (low'.out _ b3.out).cell 2
       clear hr hr' hg hge)
    | (go_at_call 103
       refine (put16 _ 9 9 _ (be 4 turn ++ be 5 number) w3 (r3.out.holds 9) (by omega) m2a.out.1 m2a.out.2).mono ?_
       rintro e w4 ⟨rfl, hr, hb⟩
       have b4 : Hid (Below (w.heap.size + 2) w0 w4) := b3.out.trans (hb.mono (by have := b3.out.size; omega))
       have hr' := hr
       rw [m2b.out, be2_mod] at hr'
       have r4 := Lib.hid hr'
       have z4 := Lib.hid (show w3.heap.size ≤ w4.heap.size from hb.size)
       have own4 := Lib.hid (r4.out.own k11.out (by omega))
       clear hr hr' hb)
    | (at_builtin; refine wpList_append_bytes rfl (.tmp 20) (.tmp 23) rfl rfl rfl (own4.out.below ((Below.refl _ _).alloc (Nat.le_refl _) _)) (holds_new_nat w4 k hk) (by omega) (by have := z4.out; simp; omega) ?_; intro q5 c5 w5 ho hg
       have own5 := Lib.hid ho
       have b5 : Hid (Below (w.heap.size + 2) w0 w5) := (b4.out.alloc (by have := b4.out.size; omega) _).grown hg (by have := b4.out.size; simp; omega) (fun k e => by have hk : w3.heap.size = k := Option.some.inj e; have := b3.out.size; omega)
       have hv5 := Lib.hid (holds_below hv0.out b5.out (Nat.le_of_eq hz0))
       have z5 : Hid (w3.heap.size ≤ w5.heap.size) := by have h1 := hg.size; have h2 := z4.out; rw [World.size_alloc] at h1; exact Nat.le_trans h2 (by omega)
       clear ho hg)
    | (at_builtin; refine wpList_append_bytes rfl (.tmp 25) (.tmp 26) rfl rfl rfl own5.out hv5.out (by omega) z5.out ?_; intro q6 c6 w6 ho hg
       have ho' := ho
       rw [hhb.out] at ho'
       have own6 := Lib.hid ho'
       have b6 : Hid (Below (w.heap.size + 2) w0 w6) := b5.out.grown hg (by have := b5.out.size; omega) (fun k e => by
         have h1 := (own5.out.holds.2.2)
         cases q5 with
         | none => cases e
         | some a5 => have hk : a5.block = k := Option.some.inj e; have h2 := (h1 a5 rfl).1; have := b3.out.size; omega)
       have q6 := Lib.hid (rb.out.block (b6.out.block _ (by omega)))
       clear ho ho' hg)
    | (go_at_call 105
       refine (block_of _ _ _ _ w6 own6.out.holds.1 p22).mono ?_
       rintro e w7 ⟨rfl, hb⟩
       have b7 : Hid (Below (w.heap.size + 2) w0 w7) := b6.out.trans (hb.mono (by have := b6.out.size; omega))
       have q7 := Lib.hid (q6.out.below hb)
       clear hb)
    | ((with_reducible refine wpList_store_at rfl 48 (.tmp 6) (.tmp 29) rfl (o := 0) rfl rfl q7.out (bl_size p64) (bl_fits p64 z64_len) (bl_one _) ?_)
       intro w8 h8 hg8
       rw [bl_splice p64 z64_len] at h8)
    | (refine bodyPost_ret (results_cell_row (P := Tryz.prog) Tryz.results87 _ _ (w.heap.size + 1) 48 (bl (pad (markB turn number length k piece))).toArray (0, 0) _ rfl h8 Tryz.underlying48 rfl (by rw [List.size_toArray]; exact bl_size p64)) rfl ⟨rfl, ?_⟩))
  have b07 : Below w.heap.size w w7 := hb0.out.trans (b7.out.mono (by omega))
  exact b07.grown hg8 b07.size (fun k e => by have hk : w.heap.size + 1 = k := Option.some.inj e; omega)

end Go.Proofs.YtjhnagipagkhiaaGreat
