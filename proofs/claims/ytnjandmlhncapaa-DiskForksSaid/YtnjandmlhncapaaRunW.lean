/- Op.run, where it writes: a statement that draws its order; and Op.run whole. -/
import Derived.Test.YtnjandmlhncapaaRun
namespace Go.Proofs.Ytnjandmlhncapaa
open Go.RowKit

theorem size_op (o : OpV) : (Try.prog.info? 35).map (·.size) = some o.cells.length := by
  show _ = some [Value.int .i64 o.kind, .int .i64 o.pos, .int .i64 o.num, .int .u8 o.byte, o.kv].length
  kernel_rfl

theorem load_op {w : World} {B : Nat} {o : OpV} (h : RowV 35 w B o.cells) : (loadVar 35 ⟨B, 0, none⟩).run Try.prog w = .ok (.agg o.cells.toArray) w :=
  run_loadVar_at Try.underlying35 rfl (size_op o) ⟨B, 0, none⟩ (h.part (o := 0) (pre := []) (rest := []) (by simp) rfl)

theorem run_store_op {P : Program} {o : Oper} {a : Act} {w w' : World} {ty : TypeId} {x y : Operand} {ad : Addr} {v : Value} (ho : o.op = .store ty x y) (hx : a.eval x = .pointer (some ad)) (hy : a.eval y = v) (h : (storeVar ty ad v).run P w = .ok () w') : (execOp a.eval o).run P w = .ok .skip w' := by
  subst hy
  unfold execOp
  simp only [ho, hx, Instr.storeAt, Instr.sureAddr, Sem.run_bind, Sem.run_pure, Result.andThen_ok, h]

set_option maxRecDepth 100000 in
set_option maxHeartbeats 4000000 in
theorem run_write (p : Pl) (d : Dk) (w : World) (k : At w p d) (o : OpV) (ho : IsOp w o) (hk : kd o < 4) (h0 : 0 ≤ d.ops) (h1 : d.ops < 4611686018427387904) :
    Calls Try.prog 13 #[.agg o.cells.toArray, ptr p] w (fun e w' => e = .returned (.tuple #[agg z64, .int .i64 (wrRes d o.pos (rep o.byte)).1]) ∧ At w' p (wrRes d o.pos (rep o.byte)).2 ∧ Tch p.L w w') := by
  have hrel := Lib.hid (run_start w p d o k ho)
  have ck := hrel.out.op.cell 0
  have hn1 := k.not_in (j := w.heap.size + 1) (by omega)
  have hn0 := k.not_in (Nat.le_refl _)
  obtain ⟨r, hr⟩ : ∃ r, wrRes d o.pos (rep o.byte) = r := ⟨_, rfl⟩
  rw [hr]
  unfold OpV.cells at ck hrel ⊢
  simp only [List.getElem?_cons_zero] at ck
  have hop := Lib.hid hrel.out.op
  unfold OpV.cells at hop
  have hrg := kd_range o
  have k4 : ((IntKind.u64.wrap o.kind).tmod 9 == 4) = false := by rw [kd_eq]; simp; omega
  have k5 : ((IntKind.u64.wrap o.kind).tmod 9 == 5) = false := by rw [kd_eq]; simp; omega
  have k6 : ((IntKind.u64.wrap o.kind).tmod 9 == 6) = false := by rw [kd_eq]; simp; omega
  have k7 : ((IntKind.u64.wrap o.kind).tmod 9 == 7) = false := by rw [kd_eq]; simp; omega
  have k8 : ((IntKind.u64.wrap o.kind).tmod 9 == 8) = false := by rw [kd_eq]; simp; omega
  clear k hk hrg
  go_enter Try.func13, Try.ntmps13
  go_wp2_with (first
    | ((with_reducible refine wpList_alloc_z rfl 37 rfl alloc37z ?_)
       try simp only [World.size_alloc]))
  obtain ⟨w2, hw2⟩ : ∃ w2, (w.alloc (.cells #[.int .i64 o.kind, .int .i64 o.pos, .int .i64 o.num, .int .u8 o.byte, o.kv] 35)).alloc (.cells (bl z64).toArray 37) = w2 := ⟨_, rfl⟩
  have hsz : w2.heap.size = w.heap.size + 2 := by rw [← hw2]; simp
  change RunRel w ((w.alloc (.cells #[.int .i64 o.kind, .int .i64 o.pos, .int .i64 o.num, .int .u8 o.byte, o.kv] 35)).alloc (.cells (bl z64).toArray 37)) p d o at hrel
  rw [hw2] at hrel hop ⊢
  clear ck hw2
  refine wp_region_held (S := fun W => RowV 35 W w.heap.size o.cells) (by kernel_rfl) ?_
  change wpAnyH _ _ _ _ _ _ _ _ (World.drew w2)
  have hS0 : RowV 35 w2.drew w.heap.size o.cells := hrel.op.block rfl
  refine held_take (i := 0) (dst := some 44) rfl rfl (by kernel_rfl) (by kernel_rfl) (by kernel_rfl) (fun _ _ _ h => h) (y_build rfl rfl) hS0 ?_
  go_frame
  refine held_take (i := 1) (dst := some 45) rfl rfl (by kernel_rfl) (by kernel_rfl) (by kernel_rfl) (fun _ _ _ h => h) (y_move (.tmp 1) rfl rfl rfl) hS0 ?_
  go_frame
  refine held_take (i := 2) (dst := some 46) (v := .pointer (some ⟨w.heap.size, 1, none⟩)) rfl rfl (by kernel_rfl) (by kernel_rfl) (by kernel_rfl) (fun _ _ _ h => h) (.inl ⟨rfl, fun W _ => by go_simp⟩) hS0 ?_
  go_frame
  refine held_take (i := 3) (dst := some 47) (v := .int .i64 o.pos) rfl rfl (by kernel_rfl) (by kernel_rfl) (by kernel_rfl) (fun _ _ _ h => h) (.inl ⟨rfl, fun W hW => by have c1 : W.cell? ⟨w.heap.size, 1, none⟩ = some (.int .i64 o.pos) := hW.cell 1; go_simp⟩) hS0 ?_
  go_frame
  refine held_take (i := 4) (dst := some 48) rfl rfl (by kernel_rfl) (by kernel_rfl) (by kernel_rfl) (fun _ _ _ h => h) (y_load_agg 35 (.tmp 2) rfl rfl rfl (fun W hW => load_op hW)) hS0 ?_
  go_frame
  have hk5 := hrel.disk.block (w' := w2.drew) rfl rfl rfl
  obtain ⟨q, c, hkv, hkvr⟩ := hrel.arg.keep
  clear hkvr
  have hcb := block_any o.kind o.pos o.num o.byte q o.ks.length c w2.drew
  rw [← hkv, ← bl_rep] at hcb
  change Calls _ _ #[.agg o.cells.toArray] _ _ at hcb
  clear hkv
  refine held_call (i := 5) (dst := some 49) rfl rfl (by kernel_rfl) rfl (by go_simp) hcb ?_
  rintro e w5 ⟨rfl, hb5⟩
  have t5 : Tch p.L w w5 := (hrel.tch.drew).trans (Tch.of_below hb5 _)
  refine ⟨_, rfl, hS0.below hb5, ?_⟩
  go_frame
  have hcw := write_any p d w5 (hk5.below hb5) h0 h1 o.pos (rep o.byte) (rep_len o.byte)
  rw [hr] at hcw
  have hS5 := hS0.below hb5
  have ho5 := (hrel.out.block (w' := w2.drew) rfl).below hb5
  refine held_call (i := 6) (dst := some 50) rfl rfl (by kernel_rfl) rfl (by go_simp) hcw ?_
  rintro e w6 ⟨rfl, hA, hT⟩
  have hS6 := hS5.tch hT hn0
  have ho6 := ho5.tch hT hn1
  refine ⟨_, rfl, hS6, ?_⟩
  go_frame
  obtain ⟨w7, hst, h7, hg7⟩ := run_storeVar_at (P := Try.prog) (ty := 37) ho6 (bl_size z64_len) (bl_fits z64_len z64_len) (bl_one z64)
  rw [bl_splice z64_len z64_len] at h7
  have hS7 := hS6.kept hg7 (by omega)
  refine held_skip (i := 7) (dst := none) (w' := w7) rfl rfl (by kernel_rfl) rfl (run_store_op rfl rfl rfl hst) hS7 ?_
  go_frame
  refine held_value (i := 8) (dst := some 5) (w' := w7) (v := .int .i64 r.1) rfl rfl (by kernel_rfl) rfl (by go_simp) hS7 ?_
  go_frame
  refine wpAnyH_done (by kernel_rfl) ?_ _
  go_wp2
  refine bodyPost_ret (results_blk_tmp (r := 4) (u := 5) Try.results13 _ _ (w.heap.size + 1) z64 z64_len rfl h7 _ rfl) rfl ⟨rfl, ?_⟩
  exact ⟨hA.other hg7 hn1, (t5.trans hT).grown hg7 (.inr (by omega))⟩

theorem run_any (p : Pl) (d : Dk) (w : World) (k : At w p d) (o : OpV) (ho : IsOp w o) (h0 : 0 ≤ d.ops) (h1 : d.ops < 4611686018427387904) :
    Calls Try.prog 13 #[.agg o.cells.toArray, ptr p] w (fun e w' => e = .returned (.tuple #[agg (runRes d o).1.1, .int .i64 (runRes d o).1.2]) ∧ At w' p (runRes d o).2 ∧ Tch p.L w w') := by
  by_cases c4 : kd o = 4
  · have e : runRes d o = rdRes d o.pos := by unfold runRes; rw [if_pos c4]
    rw [e]; exact run_read p d w k o ho c4 h0 h1
  by_cases c5 : kd o = 5
  · have e : runRes d o = ((z64, (syRes d).1), (syRes d).2) := by unfold runRes; rw [if_neg c4, if_pos c5]
    rw [e]; exact run_sync p d w k o ho c5 h0 h1
  by_cases c6 : kd o = 6
  · have e : runRes d o = ((z64, (armRes d o.num).1), (armRes d o.num).2) := by unfold runRes; rw [if_neg c4, if_neg c5, if_pos c6]
    rw [e]; exact run_arm p d w k o ho c6
  by_cases c7 : kd o = 7
  · have e : runRes d o = ((z64, (failRes d o.num).1), (failRes d o.num).2) := by unfold runRes; rw [if_neg c4, if_neg c5, if_neg c6, if_pos c7]
    rw [e]; exact run_fail p d w k o ho c7
  by_cases c8 : kd o = 8
  · have e : runRes d o = ((z64, 0), crRes d (o.ks.take 60)) := by unfold runRes; rw [if_neg c4, if_neg c5, if_neg c6, if_neg c7, if_pos c8]
    rw [e]; exact run_crash p d w k o ho c8
  · have e : runRes d o = ((z64, (wrRes d o.pos (rep o.byte)).1), (wrRes d o.pos (rep o.byte)).2) := by unfold runRes; rw [if_neg c4, if_neg c5, if_neg c6, if_neg c7, if_neg c8]
    have := kd_range o
    rw [e]; exact run_write p d w k o ho (by omega) h0 h1

end Go.Proofs.Ytnjandmlhncapaa
