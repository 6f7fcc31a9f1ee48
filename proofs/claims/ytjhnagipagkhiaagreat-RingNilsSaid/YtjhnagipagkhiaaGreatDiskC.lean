/- The methods of a disk, by their contracts: Read, New. -/
import Derived.Test.YtjhnagipagkhiaaGreatDiskB
namespace Go.Proofs.YtjhnagipagkhiaaGreat
open Go.RowKit

/-! ### Read -/
def dRead (d : Dk) : Dk := { d with ops := d.ops + 1, fn := burnt d.fl d.fn }
def rdRes (d : Dk) (i : Int) : (List Int × Int) × Dk :=
  if why d 2 i ≠ 0 then ((z64, why d 2 i), d) else if hit d.fl d.fn = true then ((z64, 8), dFail d) else ((d.says i, 0), dRead d)

structure RdRel (w : World) (B : Nat) (p : Pl) (i : Int) : Prop where
  b0 : RowV 24 w B [ptr p]
  b1 : RowV 3 w (B + 1) [.int .i64 i]
  b2 : RowV 48 w (B + 1 + 1) (bl z64)
  b3 : RowV 48 w (B + 1 + 1 + 1) (bl z64)
theorem rd_start (w : World) (p : Pl) (i : Int) : RdRel ((((w.alloc (.cells #[ptr p] 24)).alloc (.cells #[.int .i64 i] 3)).alloc (.cells (bl z64).toArray 48)).alloc (.cells (bl z64).toArray 48)) w.heap.size p i := by
  have h := wr_start w p i z64
  refine ⟨h.b0.block (heap_alloc_old _ _ (by simp <;> omega)), h.b1.block (heap_alloc_old _ _ (by simp <;> omega)), h.b2.block (heap_alloc_old _ _ (by simp <;> omega)), ?_⟩
  have h := RowV.made (T := 48) (((w.alloc (.cells #[ptr p] 24)).alloc (.cells #[.int .i64 i] 3)).alloc (.cells (bl z64).toArray 48)) (bl z64)
  rw [World.size_alloc, World.size_alloc, World.size_alloc] at h
  exact h
theorem rd_below (w : World) (p : Pl) (i : Int) : Below w.heap.size w ((((w.alloc (.cells #[ptr p] 24)).alloc (.cells #[.int .i64 i] 3)).alloc (.cells (bl z64).toArray 48)).alloc (.cells (bl z64).toArray 48)) :=
  (wr_below w p i z64).alloc (by simp; omega) _

set_option maxRecDepth 100000 in
set_option maxHeartbeats 2000000 in
theorem read_any (p : Pl) (d : Dk) (w : World) (k : At w p d) (ho : 0 ≤ d.ops) (ho1 : d.ops < 4611686018427387904) (i : Int) :
    Calls Tryz.prog 12 #[ptr p, .int .i64 i] w (fun e w' => e = .returned (.tuple #[agg (rdRes d i).1.1, .int .i64 (rdRes d i).1.2]) ∧ At w' p (rdRes d i).2 ∧ Tch p.L w w') := by
  have hbl := Lib.hid (rd_below w p i)
  have hrel := Lib.hid (rd_start w p i)
  have k1 := Lib.hid (k.below hbl.out)
  have hn0 := k.not_in (Nat.le_refl _)
  have hn1 := k.not_in (j := w.heap.size + 1) (by omega)
  have hn2 := k.not_in (j := w.heap.size + 1 + 1) (by omega)
  have hn3 := k.not_in (j := w.heap.size + 1 + 1 + 1) (by omega)
  have b0 := hrel.out.b0.cell 0
  have b1 := hrel.out.b1.cell 0
  simp only [List.getElem?_cons_zero] at b0 b1
  have ht0 := Lib.hid (Tch.of_below hbl.out p.L)
  have hlt : p.g < w.heap.size ∧ p.h < w.heap.size ∧ p.m < w.heap.size := ⟨k.glt, k.hlt, k.mlt⟩
  clear k
  by_cases h0 : why d 2 i = 0
  · have hi := why_ok h0
    by_cases h1 : hit d.fl d.fn = true
    · have hres : rdRes d i = ((z64, 8), dFail d) := by simp [rdRes, h0, h1]
      rw [hres]
      have hcl := Lib.hid (operate_hit p d _ k1.out h1 ho ho1 (.func (.func 44) #[] #[.pointer (some ⟨w.heap.size, 0, none⟩), .pointer (some ⟨w.heap.size + 1, 0, none⟩), .pointer (some ⟨w.heap.size + 1 + 1 + 1, 0, none⟩)]))
      clear hres
      go_enter Tryz.func12, Tryz.ntmps12
      go_wp2_with (first
        | ((with_reducible refine wpList_alloc_z rfl 48 rfl alloc37z ?_)
           try simp only [World.size_alloc])
        | (go_at_call 40; refine (refuse_any p d 2 i (by decide) _ k1.out).mono ?_; rintro e w' ⟨rfl, rfl⟩; rw [h0])
        | (go_at_call 43; refine hcl.out.mono ?_; clear hcl; rintro e w5 ⟨rfl, hA, hT⟩
           have k5 := Lib.hid hA
           have t5 := Lib.hid (ht0.out.trans hT)
           have r2 := Lib.hid (hrel.out.b2.tch hT hn2)
           have r3 := Lib.hid (hrel.out.b3.tch hT hn3)
           clear hA hT)
        | (with_reducible refine wpList_load_at rfl 48 (.tmp 6) rfl Tryz.underlying48 rfl (vs := bl z64) (bl_size z64_len) rfl (r3.out.part (o := 0) (pre := []) (rest := []) (bl_part z64) rfl) ?_)
        | ((with_reducible refine wpList_store_at rfl 48 (.tmp 4) (.tmp 19) rfl (o := 0) rfl rfl r2.out (bl_size z64_len) (bl_fits z64_len z64_len) (bl_one z64) ?_)
           intro w6 h6 hg6
           rw [bl_splice z64_len z64_len] at h6)
        | (refine bodyPost_ret (results_blk_tmp (r := 4) (u := 5) Tryz.results12 _ _ (w.heap.size + 1 + 1) z64 z64_len rfl h6 _ rfl) rfl ⟨rfl, ?_⟩))
      exact ⟨k5.out.block (hg6.block _ k5.out.glt (by simp; omega)) (hg6.block _ k5.out.hlt (by simp; omega)) (hg6.block _ k5.out.mlt (by simp; omega)), t5.out.grown hg6 (.inr (by omega))⟩
    · have h1' : hit d.fl d.fn = false := by simpa using h1
      have hres : rdRes d i = ((d.says i, 0), dRead d) := by simp [rdRes, h0, h1']
      rw [hres]
      obtain ⟨n, rfl⟩ : ∃ n : Nat, i = n := ⟨i.toNat, by omega⟩
      have hl := Dk.says_len k1.out.good hi.2.1 hi.2.2
      have hcl := Lib.hid (operate_ok p d _ k1.out h1' ho ho1 44 #[.pointer (some ⟨w.heap.size, 0, none⟩), .pointer (some ⟨w.heap.size + 1, 0, none⟩), .pointer (some ⟨w.heap.size + 1 + 1 + 1, 0, none⟩)] (enters_of Tryz.func44 (by kernel_rfl) rfl)
        (fun W' => At W' p (dRead d) ∧ RowV 48 W' (w.heap.size + 1 + 1) (bl z64) ∧ RowV 48 W' (w.heap.size + 1 + 1 + 1) (bl (d.says n)) ∧ Tch p.L w W') (fun W kW tW => (read1_any p (dRead d) W kW w.heap.size n z64 (hrel.out.b0.tch tW hn0) (hrel.out.b1.tch tW hn1) (hrel.out.b3.tch tW hn3) z64_len (by have := hi.2.2; show n < d.held.length; omega)).mono (by
          rintro e W' ⟨rfl, h2, h3⟩
          refine ⟨rfl, kW.tch h3 (by simp; omega) (by simp; omega) (by simp; omega), (hrel.out.b2.tch tW hn2).tch h3 (by simp), h2, ?_⟩
          have t1 : Tch ((w.heap.size + 3) :: p.L) w W' := ((ht0.out.trans tW).more (fun x hx => List.mem_cons_of_mem _ hx)).trans (h3.more (fun x hx => by
            rw [List.mem_singleton.1 hx]; exact List.mem_cons_self ..))
          exact t1.cut (fun x hx => by
            rcases List.mem_cons.1 hx with rfl | hx
            · right; omega
            · left; exact hx))))
      clear hres
      go_enter Tryz.func12, Tryz.ntmps12
      go_wp2_with (first
        | ((with_reducible refine wpList_alloc_z rfl 48 rfl alloc37z ?_)
           try simp only [World.size_alloc])
        | (go_at_call 40; refine (refuse_any p d 2 _ (by decide) _ k1.out).mono ?_; rintro e w' ⟨rfl, rfl⟩; rw [h0])
        | (go_at_call 43; refine hcl.out.mono ?_; clear hcl; rintro e w5 ⟨rfl, hA, hr2, hr3, hT⟩
           have k5 := Lib.hid hA
           have t5 := Lib.hid hT
           have r2 := Lib.hid hr2
           have r3 := Lib.hid hr3
           clear hA hT hr2 hr3)
        | (with_reducible refine wpList_load_at rfl 48 (.tmp 6) rfl Tryz.underlying48 rfl (vs := bl (d.says n)) (bl_size hl) rfl (r3.out.part (o := 0) (pre := []) (rest := []) (bl_part (d.says n)) rfl) ?_)
        | ((with_reducible refine wpList_store_at rfl 48 (.tmp 4) (.tmp 19) rfl (o := 0) rfl rfl r2.out (bl_size hl) (bl_fits hl z64_len) (bl_one (d.says n)) ?_)
           intro w6 h6 hg6
           rw [bl_splice hl z64_len] at h6)
        | (refine bodyPost_ret (results_blk_tmp (r := 4) (u := 5) Tryz.results12 _ _ (w.heap.size + 1 + 1) (d.says n) hl rfl h6 _ rfl) rfl ⟨rfl, ?_⟩))
      exact ⟨k5.out.block (hg6.block _ k5.out.glt (by simp; omega)) (hg6.block _ k5.out.hlt (by simp; omega)) (hg6.block _ k5.out.mlt (by simp; omega)), t5.out.grown hg6 (.inr (by omega))⟩
  · have hres : rdRes d i = ((z64, why d 2 i), d) := by simp [rdRes, h0]
    rw [hres]
    obtain ⟨y, hy⟩ : ∃ y, why d 2 i = y := ⟨_, rfl⟩
    rw [hy] at h0 ⊢
    clear hres
    have hbn : (y != 0) = true := by simpa using h0
    have r2 := Lib.hid hrel.out.b2
    have r3 := Lib.hid hrel.out.b3
    go_enter Tryz.func12, Tryz.ntmps12
    go_wp2_with (first
      | ((with_reducible refine wpList_alloc_z rfl 48 rfl alloc37z ?_)
         try simp only [World.size_alloc])
      | (go_at_call 40; refine (refuse_any p d 2 i (by decide) _ k1.out).mono ?_; rintro e w' ⟨rfl, rfl⟩; rw [hy])
      | (with_reducible refine wpList_load_at rfl 48 (.tmp 6) rfl Tryz.underlying48 rfl (vs := bl z64) (bl_size z64_len) rfl (r3.out.part (o := 0) (pre := []) (rest := []) (bl_part z64) rfl) ?_)
      | ((with_reducible refine wpList_store_at rfl 48 (.tmp 4) (.tmp 14) rfl (o := 0) rfl rfl r2.out (bl_size z64_len) (bl_fits z64_len z64_len) (bl_one z64) ?_)
         intro w6 h6 hg6
         rw [bl_splice z64_len z64_len] at h6)
      | (refine bodyPost_ret (results_blk_tmp (r := 4) (u := 5) Tryz.results12 _ _ (w.heap.size + 1 + 1) z64 z64_len rfl h6 _ rfl) rfl ⟨rfl, ?_⟩))
    exact ⟨k1.out.block (hg6.block _ k1.out.glt (by simp; omega)) (hg6.block _ k1.out.hlt (by simp; omega)) (hg6.block _ k1.out.mlt (by simp; omega)), ht0.out.grown hg6 (.inr (by omega))⟩

/-! ### New -/
theorem below_of_none {w w' : World} (h : w.grownBy w' none) : Below w.heap.size w w' := ⟨h.os, h.tape, h.output, h.size, fun k hk => h.block k hk (by simp)⟩

def dNew (n : Nat) : Dk := { held := List.replicate n z64, cache := fun _ => none, ops := 0, dead := false, al := false, an := 0, fl := false, fn := 0 }

theorem info37 : (Tryz.prog.info? 48).map (fun i => (i.zero, i.size, i.bytes)) = some (some (agg z64), 64, 64) := by kernel_rfl
theorem made_blocks (n : Nat) : (madeCells (agg z64).cells (n * 64)).toList = ((List.replicate n z64).map bl).flatten := by
  have e1 : ((List.replicate n z64).map bl).flatten = List.replicate (n * 64) (.int .u8 0) := by
    rw [List.map_replicate, bl_z64]
    unfold blk
    rw [List.flatten_replicate_replicate]
  rw [e1]
  apply List.ext_getElem
  · simp [madeCells]
  · intro j h1 h2
    have hz : (agg z64).cells = Array.replicate 64 (.int .u8 0) := by
      show (bl z64).toArray = _
      rw [bl_z64]; unfold blk
      exact List.toArray_replicate ..
    rw [List.getElem_replicate]
    simp only [madeCells, hz, Array.toList_map, Array.toList_range, List.getElem_map, List.getElem_range, Array.size_replicate]
    have hm : j % 64 < 64 := Nat.mod_lt _ (by decide)
    rw [getElem!_pos _ _ (by simpa using hm)]
    simp

theorem new_bad (n : Int) (w : World) (h : n < 1 ∨ 2048 < n) : Calls Tryz.prog 8 #[.int .i64 n] w (fun e w' => e = .returned (.tuple #[.pointer none, .int .i64 2]) ∧ w' = w) := by
  by_cases h1 : n < 1
  · go_enter Tryz.func8, Tryz.ntmps8
    go_wp2
    go_returns
    exact ⟨rfl, rfl⟩
  · have h2 : 2048 < n := by omega
    have h3 : 1 ≤ n := by omega
    go_enter Tryz.func8, Tryz.ntmps8
    go_wp2
    go_returns
    exact ⟨rfl, rfl⟩

set_option maxRecDepth 100000 in
set_option maxHeartbeats 1000000 in
theorem new_any (n : Nat) (w : World) (h0 : 1 ≤ n) (h1 : n ≤ 2048) :
    Calls Tryz.prog 8 #[.int .i64 n] w (fun e w' => ∃ p, e = .returned (.tuple #[ptr p, .int .i64 0]) ∧ At w' p (dNew n) ∧ Below w.heap.size w w' ∧ ∀ x ∈ p.L, w.heap.size ≤ x) := by
  obtain ⟨i0, hi, hz0, hz1, hz2⟩ := info_parts info37
  have h2 : (1 : Int) ≤ n := by omega
  have h3 : (n : Int) ≤ 2048 := by omega
  have hmm := @run_makeMap Tryz.prog
  go_enter Tryz.func8, Tryz.ntmps8
  go_wp2_with (
    (refine wpList_make_full _ rfl (.tmp 10) (.tmp 10) 75 rfl w.heap.size 48 i0 (agg z64) 64 Tryz.underlying75 hi hz0 hz1 .i64 .i64 _ _ n rfl rfl rfl rfl (by rw [hz2]; omega) (by unfold maxLen; omega) (Nat.le_refl _) ?_)
    intro w3 hown hg3
    have hown' := Lib.hid hown
    have hs3 := hg3.size
    have hl3 : w.heap.size < w3.heap.size := by
      rcases hown.2 with ⟨he, _⟩ | ⟨g, cap, cur, he, _, hh, _⟩
      · cases he
      · cases he; exact (Array.getElem?_eq_some_iff.1 hh).1
    have hg3' := Lib.hid hg3
    clear hown hg3)
  go_returns
  have hl : (dNew n).held.length = n := by simp [dNew]
  have hz : ∀ b ∈ (dNew n).held, b.length = 64 := fun b hb => by rw [List.eq_of_mem_replicate hb]; exact z64_len
  refine ⟨⟨w3.heap.size + 1, w.heap.size, w3.heap.size, n⟩, rfl, ⟨⟨by rw [hl]; exact h0, by rw [hl]; exact h1, hz, fun _ _ h => (by cases h), fun h => (by cases h), fun h => (by cases h)⟩, ?_, ⟨?_, ?_⟩, 0, ?_⟩, ?_, ?_⟩
  · have h := RowV.made (T := 80) (w3.alloc (.map #[] 0)) (dkL ⟨w3.heap.size + 1, w.heap.size, w3.heap.size, n⟩ (dNew n))
    rw [World.size_alloc] at h
    have e : dkL ⟨w3.heap.size + 1, w.heap.size, w3.heap.size, n⟩ (dNew n) = [.slice (some ⟨w.heap.size, 0, none⟩) n n, .map (some w3.heap.size), .int .i64 0, .bool false, .bool false, .int .i64 0, .bool false, .int .i64 0] := by unfold dkL; rw [hl]; rfl
    rw [e] at h ⊢
    exact h
  · have h := ((ownsRow_base_a hown'.out (Nat.zero_le _)).alloc (.map #[] 0)).alloc (.cells #[.slice (some ⟨w.heap.size, 0, none⟩) n n, .map (some w3.heap.size), .int .i64 0, .bool false, .bool false, .int .i64 0, .bool false, .int .i64 0] 80)
    rw [made_blocks] at h
    rw [List.length_map, hl]
    exact h
  · intro e he
    obtain ⟨b, hb, rfl⟩ := List.mem_map.1 he
    exact ⟨by rw [bl_len]; exact hz b hb, bl_one b⟩
  · exact (IMap.made .i64 w3).block (heap_alloc_old _ _ (by simp))
  · exact ((below_of_none hg3'.out).alloc hs3 _).alloc (by simp; omega) _
  · intro x hx
    simp only [Pl.L, List.mem_cons, List.not_mem_nil, or_false] at hx
    omega

end Go.Proofs.YtjhnagipagkhiaaGreat
