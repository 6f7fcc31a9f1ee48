/- Op.run on no disk, whole. -/
import Derived.Test.YtnjandmlhncapaaNilA
namespace Go.Proofs.Ytnjandmlhncapaa
open Go.RowKit

set_option maxRecDepth 100000 in
set_option maxHeartbeats 1000000 in
theorem runnil_crash (w : World) (o : OpV) (ho : IsOp w o) (hk : kd o = 8) :
    Calls Try.prog 13 #[.agg o.cells.toArray, .pointer none] w (fun e w' => e = .returned (.tuple #[agg z64, .int .i64 1]) ∧ Below w.heap.size w w') := by
  have hrel := Lib.hid (run_nil_start w o ho)
  have ck := hrel.out.op.cell 0
  have hkp := Lib.hid (keep_any o _ hrel.out.arg)
  unfold OpV.cells at ck hrel hkp ⊢
  simp only [List.getElem?_cons_zero] at ck
  have hk4 : (IntKind.u64.wrap o.kind).tmod 9 = 8 := by rw [kd_eq, hk]
  have hop := Lib.hid hrel.out.op
  unfold OpV.cells at hop
  have hsz : (Try.prog.info? 35).map (·.size) = some [Value.int .i64 o.kind, .int .i64 o.pos, .int .i64 o.num, .int .u8 o.byte, o.kv].length := by kernel_rfl
  clear hk
  go_enter Try.func13, Try.ntmps13
  go_wp2_with (first
    | ((with_reducible refine wpList_alloc_z rfl 37 rfl alloc37z ?_)
       try simp only [World.size_alloc])
    | (refine wpList_build_z rfl rfl ?_)
    | (with_reducible refine wpList_load_at rfl 35 (.tmp 2) rfl Try.underlying35 rfl hsz rfl (hop.out.part (o := 0) (pre := []) (rest := []) (by simp) rfl) ?_)
    | (go_at_call 32; refine hkp.out.mono ?_; clear hkp; rintro e w4 ⟨v4, rfl, hb4, hv4⟩
       have hb4' := Lib.hid (hrel.out.below.trans (hb4.mono hrel.out.below.size))
       have r4 := Lib.hid (hrel.out.out.below hb4)
       have hsl : ∃ q n c, v4 = .slice q n c := by
         obtain ⟨q, c, hq, _⟩ := hv4 [] (fun x hx => by cases hx)
         exact ⟨q, _, c, hq⟩
       clear hb4 hv4)
    | (go_at_call 17; refine (crash_nil _ _ hsl).mono ?_; rintro e w5 ⟨rfl, hB⟩
       have b5 := Lib.hid (hb4'.out.trans (hB.mono hb4'.out.size))
       have r5 := Lib.hid (r4.out.below hB)
       clear hB)
    | ((with_reducible refine wpList_store_at rfl 37 (.tmp 4) (.tmp 39) rfl (o := 0) rfl rfl r5.out (bl_size z64_len) (bl_fits z64_len z64_len) (bl_one z64) ?_)
       intro w6 h6 hg6
       rw [bl_splice z64_len z64_len] at h6)
    | (refine bodyPost_ret (results_blk_tmp (r := 4) (u := 5) Try.results13 _ _ (w.heap.size + 1) z64 z64_len rfl h6 _ rfl) rfl ⟨rfl, ?_⟩))
  exact b5.out.grown hg6 b5.out.size (fun j e => by cases e; omega)

set_option maxRecDepth 100000 in
set_option maxHeartbeats 2000000 in
theorem runnil_write (w : World) (o : OpV) (ho : IsOp w o) (hk : kd o < 4) :
    Calls Try.prog 13 #[.agg o.cells.toArray, .pointer none] w (fun e w' => e = .returned (.tuple #[agg z64, .int .i64 1]) ∧ Below w.heap.size w w') := by
  have hrel := Lib.hid (run_nil_start w o ho)
  have ck := hrel.out.op.cell 0
  unfold OpV.cells at ck hrel ⊢
  simp only [List.getElem?_cons_zero] at ck
  have hop := Lib.hid hrel.out.op
  unfold OpV.cells at hop
  have hrg := kd_range o
  have k4 : ((IntKind.u64.wrap o.kind).tmod 9 == 4) = false := by rw [kd_eq]; simp; omega
  have k5 : ((IntKind.u64.wrap o.kind).tmod 9 == 5) = false := by rw [kd_eq]; simp; omega
  have k6 : ((IntKind.u64.wrap o.kind).tmod 9 == 6) = false := by rw [kd_eq]; simp; omega
  have k7 : ((IntKind.u64.wrap o.kind).tmod 9 == 7) = false := by rw [kd_eq]; simp; omega
  have k8 : ((IntKind.u64.wrap o.kind).tmod 9 == 8) = false := by rw [kd_eq]; simp; omega
  clear hk hrg
  go_enter Try.func13, Try.ntmps13
  go_wp2_with (first
    | ((with_reducible refine wpList_alloc_z rfl 37 rfl alloc37z ?_)
       try simp only [World.size_alloc]))
  obtain ⟨w2, hw2⟩ : ∃ w2, (w.alloc (.cells #[.int .i64 o.kind, .int .i64 o.pos, .int .i64 o.num, .int .u8 o.byte, o.kv] 35)).alloc (.cells (bl z64).toArray 37) = w2 := ⟨_, rfl⟩
  have hsz : w2.heap.size = w.heap.size + 2 := by rw [← hw2]; simp
  change RunNil w ((w.alloc (.cells #[.int .i64 o.kind, .int .i64 o.pos, .int .i64 o.num, .int .u8 o.byte, o.kv] 35)).alloc (.cells (bl z64).toArray 37)) o at hrel
  rw [hw2] at hrel hop ⊢
  clear ck hw2
  refine wp_region_held (S := fun W => RowV 35 W w.heap.size o.cells) (by kernel_rfl) ?_
  change wpAnyH _ _ _ _ _ _ _ _ (World.drew w2)
  have hS0 : RowV 35 w2.drew w.heap.size o.cells := hrel.op.block rfl
  have hb0 : Below w.heap.size w w2.drew := hrel.below.trans ((below_drewN w2 1).mono hrel.below.size)
  refine held_take (i := 0) (dst := some 44) rfl rfl (by kernel_rfl) (by kernel_rfl) (by kernel_rfl) (fun _ _ _ h => h) (y_build rfl rfl) hS0 ?_
  go_frame
  refine held_take (i := 1) (dst := some 45) rfl rfl (by kernel_rfl) (by kernel_rfl) (by kernel_rfl) (fun _ _ _ h => h) (y_move (.tmp 1) rfl rfl rfl) hS0 ?_
  go_frame
  refine held_take (i := 2) (dst := some 46) (v := .pointer (some ⟨w.heap.size, 1, none⟩)) rfl rfl (by kernel_rfl) (by kernel_rfl) (by kernel_rfl) (fun _ _ _ h => h) (.inl ⟨rfl, fun W _ => by go_simp⟩) hS0 ?_
  go_frame
  refine held_take (i := 3) (dst := some 47) (v := .int .i64 o.pos) rfl rfl (by kernel_rfl) (by kernel_rfl) (by kernel_rfl) (fun _ _ _ h => h) (.inl ⟨rfl, fun W hW => by have c1 : W.cell? ⟨w.heap.size, 1, none⟩ = some (.int .i64 o.pos) := hW.cell 1; go_simp⟩) hS0 ?_
  go_frame
  refine held_take (i := 4) (dst := some 48) rfl rfl (by kernel_rfl) (by kernel_rfl) (by kernel_rfl) (fun _ _ _ h => h) (y_load_agg 35 (.tmp 2) rfl rfl rfl (fun W hW => load_op hW)) hS0 ?_
  go_frame
  obtain ⟨q, c, hkv, hkvr⟩ := hrel.arg.keep
  clear hkvr
  have hcb := block_any o.kind o.pos o.num o.byte q o.ks.length c w2.drew
  rw [← hkv, ← bl_rep] at hcb
  change Calls _ _ #[.agg o.cells.toArray] _ _ at hcb
  clear hkv
  refine held_call (i := 5) (dst := some 49) rfl rfl (by kernel_rfl) rfl (by go_simp) hcb ?_
  rintro e w5 ⟨rfl, hb5⟩
  have t5 : Below w.heap.size w w5 := hb0.trans (hb5.mono hb0.size)
  refine ⟨_, rfl, hS0.below hb5, ?_⟩
  go_frame
  have hS5 := hS0.below hb5
  have ho5 := (hrel.out.block (w' := w2.drew) rfl).below hb5
  refine held_call (i := 6) (dst := some 50) rfl rfl (by kernel_rfl) rfl (by go_simp) (write_nil o.pos (rep o.byte) w5) ?_
  rintro e w6 ⟨rfl, hB⟩
  have hS6 := hS5.below hB
  have ho6 := ho5.below hB
  have t6 := t5.trans (hB.mono t5.size)
  refine ⟨_, rfl, hS6, ?_⟩
  go_frame
  obtain ⟨w7, hst, h7, hg7⟩ := run_storeVar_at (P := Try.prog) (ty := 37) ho6 (bl_size z64_len) (bl_fits z64_len z64_len) (bl_one z64)
  rw [bl_splice z64_len z64_len] at h7
  have hS7 := hS6.kept hg7 (by omega)
  refine held_skip (i := 7) (dst := none) (w' := w7) rfl rfl (by kernel_rfl) rfl (run_store_op rfl rfl rfl hst) hS7 ?_
  go_frame
  refine held_value (i := 8) (dst := some 5) (w' := w7) (v := .int .i64 1) rfl rfl (by kernel_rfl) rfl (by go_simp) hS7 ?_
  go_frame
  refine wpAnyH_done (by kernel_rfl) ?_ _
  go_wp2
  refine bodyPost_ret (results_blk_tmp (r := 4) (u := 5) Try.results13 _ _ (w.heap.size + 1) z64 z64_len rfl h7 _ rfl) rfl ⟨rfl, ?_⟩
  exact t6.grown hg7 t6.size (fun j e => by cases e; omega)

theorem run_nil (w : World) (o : OpV) (ho : IsOp w o) :
    Calls Try.prog 13 #[.agg o.cells.toArray, .pointer none] w (fun e w' => e = .returned (.tuple #[agg z64, .int .i64 1]) ∧ Below w.heap.size w w') := by
  have hr := kd_range o
  by_cases c4 : kd o = 4
  · exact runnil_read w o ho c4
  by_cases c5 : kd o = 5
  · exact runnil_sync w o ho c5
  by_cases c6 : kd o = 6
  · exact runnil_arm w o ho c6
  by_cases c7 : kd o = 7
  · exact runnil_fail w o ho c7
  by_cases c8 : kd o = 8
  · exact runnil_crash w o ho c8
  · exact runnil_write w o ho (by omega)

end Go.Proofs.Ytnjandmlhncapaa
