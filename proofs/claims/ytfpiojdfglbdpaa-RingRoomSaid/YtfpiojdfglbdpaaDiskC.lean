/- The methods of a disk, by their contracts: Read, New. -/
import Derived.Test.YtfpiojdfglbdpaaDiskB
namespace Go.Proofs.Ytfpiojdfglbdpaa
open Go.RowKit

/-! ### Read -/
def dRead (d : Dk) : Dk := { d with ops := d.ops + 1, fn := burnt d.fl d.fn }
def rdRes (d : Dk) (i : Int) : (List Int × Int) × Dk :=
  if why d 2 i ≠ 0 then ((z64, why d 2 i), d) else if hit d.fl d.fn = true then ((z64, 8), dFail d) else ((d.says i, 0), dRead d)

structure RdRel (w : World) (B : Nat) (p : Pl) (i : Int) : Prop where
  b0 : RowV 25 w B [ptr p]
  b1 : RowV 3 w (B + 1) [.int .i64 i]
  b2 : RowV 64 w (B + 1 + 1) (bl z64)
  b3 : RowV 64 w (B + 1 + 1 + 1) (bl z64)
theorem rd_start (w : World) (p : Pl) (i : Int) : RdRel ((((w.alloc (.cells #[ptr p] 25)).alloc (.cells #[.int .i64 i] 3)).alloc (.cells (bl z64).toArray 64)).alloc (.cells (bl z64).toArray 64)) w.heap.size p i := by
  have h := wr_start w p i z64
  refine ⟨h.b0.block (heap_alloc_old _ _ (by simp <;> omega)), h.b1.block (heap_alloc_old _ _ (by simp <;> omega)), h.b2.block (heap_alloc_old _ _ (by simp <;> omega)), ?_⟩
  have h := RowV.made (T := 64) (((w.alloc (.cells #[ptr p] 25)).alloc (.cells #[.int .i64 i] 3)).alloc (.cells (bl z64).toArray 64)) (bl z64)
  rw [World.size_alloc, World.size_alloc, World.size_alloc] at h
  exact h
theorem rd_below (w : World) (p : Pl) (i : Int) : Below w.heap.size w ((((w.alloc (.cells #[ptr p] 25)).alloc (.cells #[.int .i64 i] 3)).alloc (.cells (bl z64).toArray 64)).alloc (.cells (bl z64).toArray 64)) :=
  (wr_below w p i z64).alloc (by simp; omega) _

/-! ### New -/
theorem below_of_none {w w' : World} (h : w.grownBy w' none) : Below w.heap.size w w' := ⟨h.os, h.tape, h.output, h.size, fun k hk => h.block k hk (by simp)⟩

def dNew (n : Nat) : Dk := { held := List.replicate n z64, cache := fun _ => none, ops := 0, dead := false, al := false, an := 0, fl := false, fn := 0 }

theorem info37 : (Try.prog.info? 64).map (fun i => (i.zero, i.size, i.bytes)) = some (some (agg z64), 64, 64) := by kernel_rfl
theorem made_blocks (n : Nat) : (madeCells (agg z64).cells (n * 64)).toList = ((List.replicate n z64).map bl).flatten := by
  have e1 : ((List.replicate n z64).map bl).flatten = List.replicate (n * 64) (.int .u8 0) := by
    rw [List.map_replicate, bl_z64]
    unfold blk
    rw [List.flatten_replicate_replicate]
  rw [e1]
  apply List.ext_getElem
  · simp [madeCells]
  · intro j h1 h2
    have hz : (agg z64).cells = Array.replicate 64 (.int .u8 0) := by
      show (bl z64).toArray = _
      rw [bl_z64]; unfold blk
      exact List.toArray_replicate ..
    rw [List.getElem_replicate]
    simp only [madeCells, hz, Array.toList_map, Array.toList_range, List.getElem_map, List.getElem_range, Array.size_replicate]
    have hm : j % 64 < 64 := Nat.mod_lt _ (by decide)
    rw [getElem!_pos _ _ (by simpa using hm)]
    simp

theorem new_bad (n : Int) (w : World) (h : n < 1 ∨ 2048 < n) : Calls Try.prog 12 #[.int .i64 n] w (fun e w' => e = .returned (.tuple #[.pointer none, .int .i64 2]) ∧ w' = w) := by
  by_cases h1 : n < 1
  · go_enter Try.func12, Try.ntmps12
    go_wp2
    go_returns
    exact ⟨rfl, rfl⟩
  · have h2 : 2048 < n := by omega
    have h3 : 1 ≤ n := by omega
    go_enter Try.func12, Try.ntmps12
    go_wp2
    go_returns
    exact ⟨rfl, rfl⟩

set_option maxRecDepth 100000 in
set_option maxHeartbeats 1000000 in
theorem new_any (n : Nat) (w : World) (h0 : 1 ≤ n) (h1 : n ≤ 2048) :
    Calls Try.prog 12 #[.int .i64 n] w (fun e w' => ∃ p, e = .returned (.tuple #[ptr p, .int .i64 0]) ∧ At w' p (dNew n) ∧ Below w.heap.size w w' ∧ ∀ x ∈ p.L, w.heap.size ≤ x) := by
  obtain ⟨i0, hi, hz0, hz1, hz2⟩ := info_parts info37
  have h2 : (1 : Int) ≤ n := by omega
  have h3 : (n : Int) ≤ 2048 := by omega
  have hmm := @run_makeMap Try.prog
  go_enter Try.func12, Try.ntmps12
  go_wp2_with (
    (refine wpList_make_full _ rfl (.tmp 10) (.tmp 10) 55 rfl w.heap.size 64 i0 (agg z64) 64 Try.underlying55 hi hz0 hz1 .i64 .i64 _ _ n rfl rfl rfl rfl (by rw [hz2]; omega) (by unfold maxLen; omega) (Nat.le_refl _) ?_)
    intro w3 hown hg3
    have hown' := Lib.hid hown
    have hs3 := hg3.size
    have hl3 : w.heap.size < w3.heap.size := by
      rcases hown.2 with ⟨he, _⟩ | ⟨g, cap, cur, he, _, hh, _⟩
      · cases he
      · cases he; exact (Array.getElem?_eq_some_iff.1 hh).1
    have hg3' := Lib.hid hg3
    clear hown hg3)
  go_returns
  have hl : (dNew n).held.length = n := by simp [dNew]
  have hz : ∀ b ∈ (dNew n).held, b.length = 64 := fun b hb => by rw [List.eq_of_mem_replicate hb]; exact z64_len
  refine ⟨⟨w3.heap.size + 1, w.heap.size, w3.heap.size, n⟩, rfl, ⟨⟨by rw [hl]; exact h0, by rw [hl]; exact h1, hz, fun _ _ h => (by cases h), fun h => (by cases h), fun h => (by cases h)⟩, ?_, ⟨?_, ?_⟩, 0, ?_⟩, ?_, ?_⟩
  · have h := RowV.made (T := 60) (w3.alloc (.map #[] 0)) (dkL ⟨w3.heap.size + 1, w.heap.size, w3.heap.size, n⟩ (dNew n))
    rw [World.size_alloc] at h
    have e : dkL ⟨w3.heap.size + 1, w.heap.size, w3.heap.size, n⟩ (dNew n) = [.slice (some ⟨w.heap.size, 0, none⟩) n n, .map (some w3.heap.size), .int .i64 0, .bool false, .bool false, .int .i64 0, .bool false, .int .i64 0] := by unfold dkL; rw [hl]; rfl
    rw [e] at h ⊢
    exact h
  · have h := ((ownsRow_base_a hown'.out (Nat.zero_le _)).alloc (.map #[] 0)).alloc (.cells #[.slice (some ⟨w.heap.size, 0, none⟩) n n, .map (some w3.heap.size), .int .i64 0, .bool false, .bool false, .int .i64 0, .bool false, .int .i64 0] 60)
    rw [made_blocks] at h
    rw [List.length_map, hl]
    exact h
  · intro e he
    obtain ⟨b, hb, rfl⟩ := List.mem_map.1 he
    exact ⟨by rw [bl_len]; exact hz b hb, bl_one b⟩
  · exact (IMap.made .i64 w3).block (heap_alloc_old _ _ (by simp))
  · exact ((below_of_none hg3'.out).alloc hs3 _).alloc (by simp; omega) _
  · intro x hx
    simp only [Pl.L, List.mem_cons, List.not_mem_nil, or_false] at hx
    omega

end Go.Proofs.Ytfpiojdfglbdpaa
