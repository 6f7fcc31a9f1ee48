/- The law's first look: a ring on a disk of eight sectors. -/
import Derived.Test.YtjhnagipagkhiaaGreatRRs
namespace Go.Proofs.YtjhnagipagkhiaaGreat
open Go.RowKit

theorem Up.to_below {B : Nat} {L : List Nat} {W a b : World} (h : Up B L a b) (h0 : Below W.heap.size W a) (hB : W.heap.size ≤ B) (hL : ∀ j ∈ L, W.heap.size ≤ j) : Below W.heap.size W b :=
  ⟨h.os.trans h0.os, h.tape.trans h0.tape, h.output.trans h0.output, Nat.le_trans h0.size h.size, fun k hk => (h.block k (by omega) (fun hin => by have := hL k hin; omega)).trans (h0.block k hk)⟩

theorem made_zeros (n : Nat) : madeCells #[.int .u8 0] n = Array.replicate n (Value.int .u8 0) := by
  apply Array.ext
  · simp [madeCells]
  · intro i h1 h2
    simp [madeCells, Nat.mod_one]
theorem make_zeros (n : Nat) (hn : n ≤ 100000) (u : World) : (Instr.makeSlice 30 (.int .i64 (n : Int)) (.int .i64 (n : Int))).run Tryz.prog u = .ok (.slice (some ⟨u.heap.size, 0, none⟩) n n) (u.alloc (.cells (Array.replicate n (Value.int .u8 0)) 5)) := by
  obtain ⟨i0, hi, hz0, hz1, hz2⟩ := info_parts info5
  have h := run_make (P := Tryz.prog) u 30 5 i0 (.int .u8 0) Tryz.underlying30 hi hz0 .i64 .i64 (n : Int) (n : Int) (by omega) (Int.le_refl _) (by rw [hz2]; omega) (by omega)
  rw [Int.toNat_natCast, hz1, Nat.mul_one, show (Value.int .u8 0).cells = #[.int .u8 0] from rfl, made_zeros] at h
  exact h

/-- a slice just made is appended -/
theorem RS.app_made {u : World} {rg : Nat} {p : Pl} {n S k T F : Nat} {es : List (List UInt8)} (h : RS u rg p n S k T F es) (hS : S ≤ 1000) (hk9 : k ≤ 1000000000) (hT : T ≤ 1000000) (hF : F ≤ 1000000) (m : Nat) (hm8 : m ≤ 8000) (hfit : secs m ≤ S - tot es) (Z : Array Value) (hZ : Array.replicate m (Value.int .u8 0) = Z) :
    Calls Tryz.prog 18 #[.pointer (some ⟨rg, 0, none⟩), .slice (some ⟨u.heap.size, 0, none⟩) m m] (u.alloc (.cells Z 5)) (fun e' w' => e' = .returned (.int .i64 0) ∧ RS w' rg p n S (k + 2000) T F (es ++ [List.replicate m 0]) ∧ Up rg p.L u w') := by
  subst hZ
  have hb : Below u.heap.size u (u.alloc (.cells (Array.replicate m (Value.int .u8 0)) 5)) := (Below.refl _ _).alloc (Nat.le_refl _) _
  have hlt := h.lt
  refine ((h.below hb).append hS hk9 hT hF (some ⟨u.heap.size, 0, none⟩) m m (List.replicate m 0) List.length_replicate hm8 hfit (fun W hW => holds_tch (zeros_ent u m).holds (fun a ha _ hin => ?_) hW) (Nat.le_refl _)).mono ?_
  · cases ha
    have := hlt.2 _ hin
    have h3 : u.heap.size < rg := this
    omega
  · rintro e' w' ⟨h1, h2, h3⟩
    exact ⟨h1, h2, (Up.of_below p.L hb (by omega)).trans h3⟩

/-- a ring just formatted -/
theorem RS.fresh {w : World} {rg : Nat} {p : Pl} {d : Dk} {x : RgV} {n S : Nat} (h : RgOn w rg p d x [] [] []) (hs : Sane d n) (ho : d.ops = S + 5) (h1 : x.turn = 1) (h2 : x.size = S) (h3 : x.first = 1) (h4 : x.place = 0) (h5 : x.used = 0) (h6 : x.br = false) (hS : 0 < S) (hn : S + 2 ≤ n) (hS2 : S ≤ 1000) : RS w rg p n S 2000 1 1 [] :=
  ⟨⟨d, x, [], [], h, hs, by omega, h1, h2, h3, by rw [h5]; rfl, h6, by omega⟩, Nat.zero_le _, fun e he => by simp at he, hn⟩

theorem note7 (u : World) : Ent 0 (u.alloc (.cells #[.int .u8 7] 5)) (.slice (some ⟨u.heap.size, 0, none⟩) 1 1) [7] := by
  have hr : RowV 5 (u.alloc (.cells #[.int .u8 7] 5)) u.heap.size [.int .u8 7] := RowV.made u _
  refine ⟨⟨some ⟨u.heap.size, 0, none⟩, 1, rfl, (fun h => by cases h), fun a ha i y hy => ?_⟩, _, _, _, rfl, fun a ha => ?_⟩
  · cases ha
    rcases i with _ | i
    · cases hy
      rw [add_flat, hr.cell 0]
      rfl
    · simp at hy
  · cases ha
    exact ⟨Nat.zero_le _, hr.lt, Nat.le_refl _⟩

set_option maxRecDepth 100000 in
set_option maxHeartbeats 4000000 in
theorem wakes_any (w : World) : Calls Tryz.prog 7 #[] w (fun e w' => e = .returned (.bool true) ∧ Below w.heap.size w w') := by
  obtain ⟨d', hl, hs, ho⟩ := lay_new 8 6 (by omega)
  have hl' := Lib.hid hl
  have hs' := Lib.hid hs
  have ho' := Lib.hid ho
  clear hl hs ho
  obtain ⟨z1, hz1⟩ : ∃ Z, Array.replicate 100 (Value.int .u8 0) = Z := ⟨_, rfl⟩
  have hm1 : ∀ u : World, (Instr.makeSlice 30 (.int .i64 100) (.int .i64 100)).run Tryz.prog u = .ok (.slice (some ⟨u.heap.size, 0, none⟩) 100 100) (u.alloc (.cells z1 5)) := by rw [← hz1]; exact make_zeros 100 (by omega)
  have hz1' := Lib.hid hz1
  clear hz1
  obtain ⟨z2, hz2⟩ : ∃ Z, Array.replicate 3 (Value.int .u8 0) = Z := ⟨_, rfl⟩
  have hm2 : ∀ u : World, (Instr.makeSlice 30 (.int .i64 3) (.int .i64 3)).run Tryz.prog u = .ok (.slice (some ⟨u.heap.size, 0, none⟩) 3 3) (u.alloc (.cells z2 5)) := by rw [← hz2]; exact make_zeros 3 (by omega)
  have hz2' := Lib.hid hz2
  clear hz2
  obtain ⟨z3, hz3⟩ : ∃ Z, Array.replicate 160 (Value.int .u8 0) = Z := ⟨_, rfl⟩
  have hm3 : ∀ u : World, (Instr.makeSlice 30 (.int .i64 160) (.int .i64 160)).run Tryz.prog u = .ok (.slice (some ⟨u.heap.size, 0, none⟩) 160 160) (u.alloc (.cells z3 5)) := by rw [← hz3]; exact make_zeros 160 (by omega)
  have hz3' := Lib.hid hz3
  clear hz3
  obtain ⟨e1, he1⟩ : ∃ e : List (List UInt8), [] ++ [List.replicate 100 0] = e := ⟨_, rfl⟩
  obtain ⟨e2, he2⟩ : ∃ e : List (List UInt8), e1 ++ [List.replicate 3 0] = e := ⟨_, rfl⟩
  obtain ⟨e3, he3⟩ : ∃ e : List (List UInt8), e2.drop 1 = e := ⟨_, rfl⟩
  have t1 : tot e1 = 2 := by rw [← he1, tot_snoc, tot_nil, List.length_replicate]; rfl
  have t2 : tot e2 = 3 := by rw [← he2, tot_snoc, t1, List.length_replicate]; rfl
  have l2 : e2.length = 2 := by rw [← he2, ← he1]; rfl
  have t3 : tot e3 = 1 := by rw [← he3, tot_drop, t2, ← he2, ← he1]; unfold gone; rw [show ((([] ++ [List.replicate 100 0]) ++ [List.replicate 3 0] : List (List UInt8)).take 1) = [List.replicate 100 0] from rfl, List.map_singleton, List.sum_singleton, List.length_replicate]; rfl
  have hes := Lib.hid (show ([] ++ [List.replicate 100 0] = e1 ∧ e1 ++ [List.replicate 3 0] = e2 ∧ e2.drop 1 = e3) from ⟨he1, he2, he3⟩)
  clear he1 he2 he3
  go_enter Tryz.func7, Tryz.ntmps7
  go_wp2_with (first
    | (go_at_call 8; refine (new_any 8 _ (by decide) (by decide)).mono ?_; rintro e w1 ⟨p, rfl, hA, hB, hL⟩; have hA' := Lib.hid hA; have hB' := Lib.hid hB; have hL' := Lib.hid hL; clear hA hB hL)
    | (go_at_call 13; refine (format_ok p (dNew 8) d' 6 _ hA'.out (by decide) (by decide) (by simp [dNew]) (by show (0 : Int) ≤ 0; omega) (by show (0 : Int) < 1152921504606846976; omega) hl'.out).mono ?_
       rintro e w2 ⟨rg, x, rfl, h1, h2, a1, a2, a3, a4, a5, a6, hT⟩
       have hR0 := Lib.hid (RS.fresh h2 hs'.out ho'.out a1 a2 a3 a4 a5 a6 (by decide) (by decide) (by decide))
       have hrg := Lib.hid (show w.heap.size ≤ rg from Nat.le_trans hB'.out.size h1)
       have hb2 : Hid (Below w.heap.size w w2) := ⟨hT.os.trans hB'.out.os, hT.tape.trans hB'.out.tape, hT.output.trans hB'.out.output, Nat.le_trans hB'.out.size hT.size, fun k hk => (hT.block k (Nat.lt_of_lt_of_le hk hB'.out.size) (fun hin => by have := hL'.out k hin; omega)).trans (hB'.out.block k hk)⟩
       clear h1 h2 a1 a2 a3 a4 a5 a6 hT))
  refine (hR0.out.app_made (by decide) (by decide) (by decide) (by decide) 100 (by decide) (by decide) z1 hz1'.out).mono ?_
  rintro e w3 ⟨rfl, hR, hU⟩
  rw [hes.out.1] at hR
  have hR1 := Lib.hid hR
  have hbhR1 := Lib.hid (hU.to_below hb2.out hrg.out hL'.out)
  clear hR hU
  go_wp2_with fail
  refine (hR1.out.app_made (by decide) (by decide) (by decide) (by decide) 3 (by decide) (by rw [t1]; decide) z2 hz2'.out).mono ?_
  rintro e w4 ⟨rfl, hR, hU⟩
  rw [hes.out.2.1] at hR
  have hR2 := Lib.hid hR
  have hbhR2 := Lib.hid (hU.to_below hbhR1.out hrg.out hL'.out)
  clear hR hU
  have lf := hR2.out.left (by decide)
  rw [t2] at lf
  go_wp2_with fail
  refine (lf).mono ?_
  rintro e w5 ⟨rfl, hB⟩
  have hR3 := Lib.hid (hR2.out.below hB)
  have hbhR3 := Lib.hid (hbhR2.out.trans (hB.mono hbhR2.out.size))
  clear hB
  clear lf
  go_wp2_with fail
  refine ((hR3.out.below ((Below.refl _ _).alloc (Nat.le_refl _) _)).full (by decide) _ 160 160 (by decide) (by rw [t2]; decide)).mono ?_
  rintro e w6 ⟨rfl, hB⟩
  have hB2 : Below w5.heap.size w5 w6 := ((Below.refl _ _).alloc (Nat.le_refl _) _).trans (hB.mono (by simp))
  have hR4 := Lib.hid (hR3.out.below hB2)
  have hbhR4 := Lib.hid (hbhR3.out.trans (hB2.mono hbhR3.out.size))
  clear hB hB2
  go_wp2_with fail
  refine ((hR4.out.below ((Below.refl _ _).alloc (Nat.le_refl _) _)).cut (by decide) (by decide) (by decide) (by decide) 1 (by rw [l2]; decide) (some ⟨w6.heap.size, 0, none⟩) 1 [7] 1 rfl (by decide) (note7 _)).mono ?_
  rintro e w7 ⟨rfl, hR, hU⟩
  rw [hes.out.2.2] at hR
  have hR5 := Lib.hid hR
  have hb7 : Below w.heap.size w (w6.alloc (.cells #[.int .u8 7] 5)) := hbhR4.out.alloc hbhR4.out.size _
  have hbhR5 := Lib.hid (hU.to_below hb7 hrg.out hL'.out)
  clear hR hU hb7
  go_wp2_with fail
  refine (hR5.out.first).mono ?_
  rintro e w8 ⟨rfl, hB⟩
  have hR6 := Lib.hid (hR5.out.below hB)
  have hbhR6 := Lib.hid (hbhR5.out.trans (hB.mono hbhR5.out.size))
  clear hB
  have lf := hR6.out.left (by decide)
  rw [t3] at lf
  go_wp2_with fail
  refine (lf).mono ?_
  rintro e w9 ⟨rfl, hB⟩
  have hR7 := Lib.hid (hR6.out.below hB)
  have hbhR7 := Lib.hid (hbhR6.out.trans (hB.mono hbhR6.out.size))
  clear hB
  clear lf
  go_wp2_with fail
  refine (hR7.out.app_made (by decide) (by decide) (by decide) (by decide) 160 (by decide) (by rw [t3]; decide) z3 hz3'.out).mono ?_
  rintro e w10 ⟨rfl, hR, hU⟩
  have hb10 := Lib.hid (hU.to_below hbhR7.out hrg.out hL'.out)
  clear hR hU
  go_wp2
  first | go_ret | go_ret2
  exact ⟨rfl, hb10.out⟩

end Go.Proofs.YtjhnagipagkhiaaGreat
