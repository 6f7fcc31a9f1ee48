/- The methods of no disk at all, and Op.run on it. -/
import Derived.Test.YtnjandmlhncapaaWakes
namespace Go.Proofs.Ytnjandmlhncapaa
open Go.RowKit

theorem write_nil (i : Int) (b : List Int) (w : World) : Calls Try.prog 29 #[.pointer none, .int .i64 i, agg b] w (fun e w' => e = .returned (.int .i64 1) ∧ Below w.heap.size w w') := by
  go_enter Try.func29, Try.ntmps29
  go_wp2_with (go_at_call 41; refine (refuse_nil 2 i (by decide) _).mono ?_; rintro e w' ⟨rfl, rfl⟩)
  go_ret
  exact ⟨rfl, (((Below.refl _ _).alloc (Nat.le_refl _) _).alloc (by simp) _).alloc (by simp; omega) _⟩

theorem sync_nil (w : World) : Calls Try.prog 27 #[.pointer none] w (fun e w' => e = .returned (.int .i64 1) ∧ Below w.heap.size w w') := by
  go_enter Try.func27, Try.ntmps27
  go_wp2_with (go_at_call 41; refine (refuse_nil 1 0 (by decide) _).mono ?_; rintro e w' ⟨rfl, rfl⟩)
  go_ret
  exact ⟨rfl, (Below.refl _ _).alloc (Nat.le_refl _) _⟩

theorem arm_nil (n : Int) (w : World) : Calls Try.prog 33 #[.pointer none, .int .i64 n] w (fun e w' => e = .returned (.int .i64 1) ∧ Below w.heap.size w w') := by
  go_enter Try.func33, Try.ntmps33
  go_wp2_with (go_at_call 41; refine (refuse_nil 1 0 (by decide) _).mono ?_; rintro e w' ⟨rfl, rfl⟩)
  go_ret
  exact ⟨rfl, Below.refl _ _⟩

theorem fail_nil (n : Int) (w : World) : Calls Try.prog 34 #[.pointer none, .int .i64 n] w (fun e w' => e = .returned (.int .i64 1) ∧ Below w.heap.size w w') := by
  go_enter Try.func34, Try.ntmps34
  go_wp2_with (go_at_call 41; refine (refuse_nil 1 0 (by decide) _).mono ?_; rintro e w' ⟨rfl, rfl⟩)
  go_ret
  exact ⟨rfl, Below.refl _ _⟩

theorem crash_nil (v : Value) (w : World) (hv : ∃ q n c, v = .slice q n c) : Calls Try.prog 17 #[.pointer none, v] w (fun e w' => e = .returned (.int .i64 1) ∧ Below w.heap.size w w') := by
  obtain ⟨q, n, c, rfl⟩ := hv
  go_enter Try.func17, Try.ntmps17
  go_wp2_with (go_at_call 41; refine (refuse_nil 0 0 (by decide) _).mono ?_; rintro e w' ⟨rfl, rfl⟩)
  go_ret
  exact ⟨rfl, (Below.refl _ _).alloc (Nat.le_refl _) _⟩

structure NilRead (w W : World) : Prop where
  below : Below w.heap.size w W
  b2 : RowV 37 W (w.heap.size + 1 + 1) (bl z64)
  b3 : RowV 37 W (w.heap.size + 1 + 1 + 1) (bl z64)
theorem nil_read_start (w : World) (i : Int) : NilRead w ((((w.alloc (.cells #[.pointer none] 24)).alloc (.cells #[.int .i64 i] 3)).alloc (.cells (bl z64).toArray 37)).alloc (.cells (bl z64).toArray 37)) := by
  refine ⟨((((Below.refl _ _).alloc (Nat.le_refl _) _).alloc (by simp) _).alloc (by simp; omega) _).alloc (by simp; omega) _, ?_, ?_⟩
  · have h := (RowV.made (T := 37) ((w.alloc (.cells #[.pointer none] 24)).alloc (.cells #[.int .i64 i] 3)) (bl z64)).block (heap_alloc_old _ (.cells (bl z64).toArray 37) (by simp))
    rw [World.size_alloc, World.size_alloc] at h
    exact h
  · have h := RowV.made (T := 37) (((w.alloc (.cells #[.pointer none] 24)).alloc (.cells #[.int .i64 i] 3)).alloc (.cells (bl z64).toArray 37)) (bl z64)
    rw [World.size_alloc, World.size_alloc, World.size_alloc] at h
    exact h

set_option maxRecDepth 100000 in
theorem read_nil (i : Int) (w : World) : Calls Try.prog 19 #[.pointer none, .int .i64 i] w (fun e w' => e = .returned (.tuple #[agg z64, .int .i64 1]) ∧ Below w.heap.size w w') := by
  have hrel := Lib.hid (nil_read_start w i)
  have r2 := Lib.hid hrel.out.b2
  have r3 := Lib.hid hrel.out.b3
  go_enter Try.func19, Try.ntmps19
  go_wp2_with (first
    | ((with_reducible refine wpList_alloc_z rfl 37 rfl alloc37z ?_)
       try simp only [World.size_alloc])
    | (go_at_call 41; refine (refuse_nil 2 i (by decide) _).mono ?_; rintro e w' ⟨rfl, rfl⟩)
    | (with_reducible refine wpList_load_at rfl 37 (.tmp 6) rfl Try.underlying37 rfl (vs := bl z64) (bl_size z64_len) rfl (r3.out.part (o := 0) (pre := []) (rest := []) (bl_part z64) rfl) ?_)
    | ((with_reducible refine wpList_store_at rfl 37 (.tmp 4) (.tmp 14) rfl (o := 0) rfl rfl r2.out (bl_size z64_len) (bl_fits z64_len z64_len) (bl_one z64) ?_)
       intro w6 h6 hg6
       rw [bl_splice z64_len z64_len] at h6)
    | (refine bodyPost_ret (results_blk_tmp (r := 4) (u := 5) Try.results19 _ _ (w.heap.size + 1 + 1) z64 z64_len rfl h6 _ rfl) rfl ⟨rfl, ?_⟩))
  exact hrel.out.below.grown hg6 hrel.out.below.size (fun j e => by cases e; omega)

/-! ### Op.run -/
structure RunNil (w W : World) (o : OpV) : Prop where
  below : Below w.heap.size w W
  op : RowV 35 W w.heap.size o.cells
  out : RowV 37 W (w.heap.size + 1) (bl z64)
  arg : IsOp W o
theorem run_nil_start (w : World) (o : OpV) (ho : IsOp w o) : RunNil w ((w.alloc (.cells o.cells.toArray 35)).alloc (.cells (bl z64).toArray 37)) o := by
  have hb : Below w.heap.size w ((w.alloc (.cells o.cells.toArray 35)).alloc (.cells (bl z64).toArray 37)) := ((Below.refl _ _).alloc (Nat.le_refl _) _).alloc (by simp) _
  refine ⟨hb, (RowV.made w o.cells).block (heap_alloc_old _ _ (by simp)), ?_, ho.below hb (Nat.le_refl _)⟩
  have h := RowV.made (T := 37) (w.alloc (.cells o.cells.toArray 35)) (bl z64)
  rw [World.size_alloc] at h
  exact h

set_option maxRecDepth 100000 in
set_option maxHeartbeats 1000000 in
theorem runnil_read (w : World) (o : OpV) (ho : IsOp w o) (hk : kd o = 4) :
    Calls Try.prog 13 #[.agg o.cells.toArray, .pointer none] w (fun e w' => e = .returned (.tuple #[agg z64, .int .i64 1]) ∧ Below w.heap.size w w') := by
  have hrel := Lib.hid (run_nil_start w o ho)
  have ck := hrel.out.op.cell 0
  have cp := hrel.out.op.cell 1
  have cn := hrel.out.op.cell 2
  unfold OpV.cells at ck cp cn hrel ⊢
  simp only [List.getElem?_cons_zero, List.getElem?_cons_succ] at ck cp cn
  have hk4 : (IntKind.u64.wrap o.kind).tmod 9 = 4 := by rw [kd_eq, hk]
  clear hk
  go_enter Try.func13, Try.ntmps13
  go_wp2_with (first
    | ((with_reducible refine wpList_alloc_z rfl 37 rfl alloc37z ?_)
       try simp only [World.size_alloc])
    | (go_at_call 19; refine (read_nil _ _).mono ?_; rintro e w5 ⟨rfl, hB⟩
       have b5 := Lib.hid (hrel.out.below.trans (hB.mono hrel.out.below.size))
       have r5 := Lib.hid (hrel.out.out.below hB)
       clear hB)
    | ((with_reducible refine wpList_store_at rfl 37 (.tmp 4) (.tmp 16) rfl (o := 0) rfl rfl r5.out (bl_size z64_len) (bl_fits z64_len z64_len) (bl_one z64) ?_)
       intro w6 h6 hg6
       rw [bl_splice z64_len z64_len] at h6)
    | (refine bodyPost_ret (results_blk_tmp (r := 4) (u := 5) Try.results13 _ _ (w.heap.size + 1) z64 z64_len rfl h6 _ rfl) rfl ⟨rfl, ?_⟩))
  exact b5.out.grown hg6 b5.out.size (fun j e => by cases e; omega)

set_option maxRecDepth 100000 in
set_option maxHeartbeats 1000000 in
theorem runnil_sync (w : World) (o : OpV) (ho : IsOp w o) (hk : kd o = 5) :
    Calls Try.prog 13 #[.agg o.cells.toArray, .pointer none] w (fun e w' => e = .returned (.tuple #[agg z64, .int .i64 1]) ∧ Below w.heap.size w w') := by
  have hrel := Lib.hid (run_nil_start w o ho)
  have ck := hrel.out.op.cell 0
  have cp := hrel.out.op.cell 1
  have cn := hrel.out.op.cell 2
  unfold OpV.cells at ck cp cn hrel ⊢
  simp only [List.getElem?_cons_zero, List.getElem?_cons_succ] at ck cp cn
  have hk4 : (IntKind.u64.wrap o.kind).tmod 9 = 5 := by rw [kd_eq, hk]
  clear hk
  go_enter Try.func13, Try.ntmps13
  go_wp2_with (first
    | ((with_reducible refine wpList_alloc_z rfl 37 rfl alloc37z ?_)
       try simp only [World.size_alloc])
    | (refine wpList_build_z rfl rfl ?_)
    | (go_at_call 27; refine (sync_nil _).mono ?_; rintro e w5 ⟨rfl, hB⟩
       have b5 := Lib.hid (hrel.out.below.trans (hB.mono hrel.out.below.size))
       have r5 := Lib.hid (hrel.out.out.below hB)
       clear hB)
    | ((with_reducible refine wpList_store_at rfl 37 (.tmp 4) (.tmp 20) rfl (o := 0) rfl rfl r5.out (bl_size z64_len) (bl_fits z64_len z64_len) (bl_one z64) ?_)
       intro w6 h6 hg6
       rw [bl_splice z64_len z64_len] at h6)
    | (refine bodyPost_ret (results_blk_tmp (r := 4) (u := 5) Try.results13 _ _ (w.heap.size + 1) z64 z64_len rfl h6 _ rfl) rfl ⟨rfl, ?_⟩))
  exact b5.out.grown hg6 b5.out.size (fun j e => by cases e; omega)

set_option maxRecDepth 100000 in
set_option maxHeartbeats 1000000 in
theorem runnil_arm (w : World) (o : OpV) (ho : IsOp w o) (hk : kd o = 6) :
    Calls Try.prog 13 #[.agg o.cells.toArray, .pointer none] w (fun e w' => e = .returned (.tuple #[agg z64, .int .i64 1]) ∧ Below w.heap.size w w') := by
  have hrel := Lib.hid (run_nil_start w o ho)
  have ck := hrel.out.op.cell 0
  have cp := hrel.out.op.cell 1
  have cn := hrel.out.op.cell 2
  unfold OpV.cells at ck cp cn hrel ⊢
  simp only [List.getElem?_cons_zero, List.getElem?_cons_succ] at ck cp cn
  have hk4 : (IntKind.u64.wrap o.kind).tmod 9 = 6 := by rw [kd_eq, hk]
  clear hk
  go_enter Try.func13, Try.ntmps13
  go_wp2_with (first
    | ((with_reducible refine wpList_alloc_z rfl 37 rfl alloc37z ?_)
       try simp only [World.size_alloc])
    | (refine wpList_build_z rfl rfl ?_)
    | (go_at_call 33; refine (arm_nil _ _).mono ?_; rintro e w5 ⟨rfl, hB⟩
       have b5 := Lib.hid (hrel.out.below.trans (hB.mono hrel.out.below.size))
       have r5 := Lib.hid (hrel.out.out.below hB)
       clear hB)
    | ((with_reducible refine wpList_store_at rfl 37 (.tmp 4) (.tmp 25) rfl (o := 0) rfl rfl r5.out (bl_size z64_len) (bl_fits z64_len z64_len) (bl_one z64) ?_)
       intro w6 h6 hg6
       rw [bl_splice z64_len z64_len] at h6)
    | (refine bodyPost_ret (results_blk_tmp (r := 4) (u := 5) Try.results13 _ _ (w.heap.size + 1) z64 z64_len rfl h6 _ rfl) rfl ⟨rfl, ?_⟩))
  exact b5.out.grown hg6 b5.out.size (fun j e => by cases e; omega)

set_option maxRecDepth 100000 in
set_option maxHeartbeats 1000000 in
theorem runnil_fail (w : World) (o : OpV) (ho : IsOp w o) (hk : kd o = 7) :
    Calls Try.prog 13 #[.agg o.cells.toArray, .pointer none] w (fun e w' => e = .returned (.tuple #[agg z64, .int .i64 1]) ∧ Below w.heap.size w w') := by
  have hrel := Lib.hid (run_nil_start w o ho)
  have ck := hrel.out.op.cell 0
  have cp := hrel.out.op.cell 1
  have cn := hrel.out.op.cell 2
  unfold OpV.cells at ck cp cn hrel ⊢
  simp only [List.getElem?_cons_zero, List.getElem?_cons_succ] at ck cp cn
  have hk4 : (IntKind.u64.wrap o.kind).tmod 9 = 7 := by rw [kd_eq, hk]
  clear hk
  go_enter Try.func13, Try.ntmps13
  go_wp2_with (first
    | ((with_reducible refine wpList_alloc_z rfl 37 rfl alloc37z ?_)
       try simp only [World.size_alloc])
    | (refine wpList_build_z rfl rfl ?_)
    | (go_at_call 34; refine (fail_nil _ _).mono ?_; rintro e w5 ⟨rfl, hB⟩
       have b5 := Lib.hid (hrel.out.below.trans (hB.mono hrel.out.below.size))
       have r5 := Lib.hid (hrel.out.out.below hB)
       clear hB)
    | ((with_reducible refine wpList_store_at rfl 37 (.tmp 4) (.tmp 32) rfl (o := 0) rfl rfl r5.out (bl_size z64_len) (bl_fits z64_len z64_len) (bl_one z64) ?_)
       intro w6 h6 hg6
       rw [bl_splice z64_len z64_len] at h6)
    | (refine bodyPost_ret (results_blk_tmp (r := 4) (u := 5) Try.results13 _ _ (w.heap.size + 1) z64 z64_len rfl h6 _ rfl) rfl ⟨rfl, ?_⟩))
  exact b5.out.grown hg6 b5.out.size (fun j e => by cases e; omega)

end Go.Proofs.Ytnjandmlhncapaa
