/- (Op).wants, by its contract: Write; and wants whole. -/
import Derived.Test.YtnjandmlhncapaaWantC
namespace Go.Proofs.Ytnjandmlhncapaa
open Go.RowKit

set_option maxRecDepth 100000 in
set_option maxHeartbeats 4000000 in
theorem wants_write {w : World} {q : Option Addr} {c : Nat} {S : List Sc} {d : Dk} {ops ar fl : Int} {dead : Bool} (hd : Doc w q c S d ops ar fl dead) (hR : Room d) (o : OpV) (ho : IsOp w o) (hk : kd o < 4) :
    Calls Try.prog 14 #[.agg o.cells.toArray, .agg #[.slice q S.length c, .int .i64 ops, .int .i64 ar, .int .i64 fl, .bool dead]] w (DocPost w q ((wrRes d o.pos (rep o.byte)).2) (fun v => .returned (.tuple #[v, agg z64, .int .i64 (wrRes d o.pos (rep o.byte)).1]))) := by
  obtain ⟨r, hr⟩ : ∃ r, wrRes d o.pos (rep o.byte) = r := ⟨_, rfl⟩
  rw [hr]
  have t0 := Lib.hid (WaRel.start w o (dL q S.length c ops ar fl dead))
  have hlow := Lib.hid hd.low
  have ck := t0.out.op.cell 0
  have cn := t0.out.op.cell 2
  have c4 := t0.out.d.cell 4
  have hsz0 : Hid (w.heap.size + 5 ≤ (waW w o (dL q S.length c ops ar fl dead)).heap.size) := by
    show _ ≤ _
    unfold waW
    simp [World.size_alloc]
  have d0 := Lib.hid (hd.below t0.out.below)
  have f0 := Lib.hid (Far.of hlow.out hsz0.out (.inl rfl))
  have f2 := t0.out.d.free 2
  have f3 := t0.out.d.free 3
  have c2 := t0.out.d.cell 2
  have c3 := t0.out.d.cell 3
  unfold waW at t0 ck cn c4 hsz0 d0 f2 f3 c2 c3
  unfold OpV.cells at ck cn c4 t0 hsz0 d0 f2 f3 c2 c3 ⊢
  simp only [List.getElem?_cons_zero, List.getElem?_cons_succ] at ck cn c4 c2 c3
  have hrg := kd_range o
  have k4 : ((IntKind.u64.wrap o.kind).tmod 9 == 4) = false := by rw [kd_eq]; simp; omega
  have k5 : ((IntKind.u64.wrap o.kind).tmod 9 == 5) = false := by rw [kd_eq]; simp; omega
  have k6 : ((IntKind.u64.wrap o.kind).tmod 9 == 6) = false := by rw [kd_eq]; simp; omega
  have k7 : ((IntKind.u64.wrap o.kind).tmod 9 == 7) = false := by rw [kd_eq]; simp; omega
  have k8 : ((IntKind.u64.wrap o.kind).tmod 9 == 8) = false := by rw [kd_eq]; simp; omega
  clear hk hrg
  have hop0 := Lib.hid ho
  clear hd ho c2 c3 f2 f3 cn c4
  go_enter Try.func14, Try.ntmps14
  go_wp2_with (first
    | ((with_reducible refine wpList_alloc_z rfl 37 rfl alloc37z ?_)
       try simp only [World.size_alloc]))
  obtain ⟨w2, hw2⟩ : ∃ w2, ((((w.alloc (.cells #[.int .i64 o.kind, .int .i64 o.pos, .int .i64 o.num, .int .u8 o.byte, o.kv] 35)).alloc (.cells #[.slice q S.length c, .int .i64 ops, .int .i64 ar, .int .i64 fl, .bool dead] 31)).alloc (.cells #[.slice none 0 0, .int .i64 0, .int .i64 0, .int .i64 0, .bool false] 31)).alloc (.cells (bl z64).toArray 37)).alloc (.cells (bl z64).toArray 37) = w2 := ⟨_, rfl⟩
  change Hid (WaRel w (((((w.alloc (.cells #[.int .i64 o.kind, .int .i64 o.pos, .int .i64 o.num, .int .u8 o.byte, o.kv] 35)).alloc (.cells #[.slice q S.length c, .int .i64 ops, .int .i64 ar, .int .i64 fl, .bool dead] 31)).alloc (.cells #[.slice none 0 0, .int .i64 0, .int .i64 0, .int .i64 0, .bool false] 31)).alloc (.cells (bl z64).toArray 37)).alloc (.cells (bl z64).toArray 37)) o _ _ _) at t0
  change Hid (Doc (((((w.alloc (.cells #[.int .i64 o.kind, .int .i64 o.pos, .int .i64 o.num, .int .u8 o.byte, o.kv] 35)).alloc (.cells #[.slice q S.length c, .int .i64 ops, .int .i64 ar, .int .i64 fl, .bool dead] 31)).alloc (.cells #[.slice none 0 0, .int .i64 0, .int .i64 0, .int .i64 0, .bool false] 31)).alloc (.cells (bl z64).toArray 37)).alloc (.cells (bl z64).toArray 37)) _ _ _ _ _ _ _ _) at d0
  change Hid (w.heap.size + 5 ≤ (((((w.alloc (.cells #[.int .i64 o.kind, .int .i64 o.pos, .int .i64 o.num, .int .u8 o.byte, o.kv] 35)).alloc (.cells #[.slice q S.length c, .int .i64 ops, .int .i64 ar, .int .i64 fl, .bool dead] 31)).alloc (.cells #[.slice none 0 0, .int .i64 0, .int .i64 0, .int .i64 0, .bool false] 31)).alloc (.cells (bl z64).toArray 37)).alloc (.cells (bl z64).toArray 37)).heap.size) at hsz0
  rw [hw2] at t0 d0 hsz0 ⊢
  clear hw2 ck
  refine wp_region_held (S := fun W => RowV 35 W w.heap.size o.cells) (by kernel_rfl) ?_
  change wpAnyH _ _ _ _ _ _ _ _ (World.drew w2)
  have t1 := Lib.hid (t0.out.stay (below_drewN w2 1))
  have d1 := Lib.hid (d0.out.below (below_drewN w2 1))
  have hS : RowV 35 w2.drew w.heap.size o.cells := t1.out.op
  have hz1 : Hid (w.heap.size + 5 ≤ w2.drew.heap.size) := hsz0.out
  have hop1 := Lib.hid (hop0.out.below t1.out.below (Nat.le_refl _))
  refine held_take (i := 1) (dst := some 18) (v := .pointer (some ⟨w.heap.size, 1, none⟩)) rfl rfl (by kernel_rfl) (by kernel_rfl) (by kernel_rfl) (fun _ _ _ h => h) (.inl ⟨rfl, fun W _ => by go_simp⟩) hS ?_
  go_frame
  refine held_take (i := 2) (dst := some 19) (v := .int .i64 o.pos) rfl rfl (by kernel_rfl) (by kernel_rfl) (by kernel_rfl) (fun _ _ _ h => h) (.inl ⟨rfl, fun W hW => by have c1 : W.cell? ⟨w.heap.size, 1, none⟩ = some (.int .i64 o.pos) := hW.cell 1; go_simp⟩) hS ?_
  go_frame
  refine held_take (i := 3) (dst := some 20) rfl rfl (by kernel_rfl) (by kernel_rfl) (by kernel_rfl) (fun _ _ _ h => h) (y_load_agg 35 (.tmp 2) rfl rfl rfl (fun W hW => load_op hW)) hS ?_
  go_frame
  obtain ⟨kq, kc, hkv, hkvr⟩ := hop1.out.keep
  clear hkvr
  have hcb := block_any o.kind o.pos o.num o.byte kq o.ks.length kc w2.drew
  rw [← hkv, ← bl_rep] at hcb
  change Calls _ _ #[.agg o.cells.toArray] _ _ at hcb
  clear hkv
  refine held_pair2 (i := 4) (j := 0) (di := some 21) (dj := some 17) (Z := fun v u W => (v = agg (rep o.byte) ∧ w2.drew.heap.size ≤ W.heap.size) ∧ u = .agg #[.slice q S.length c, .int .i64 ops, .int .i64 ar, .int .i64 fl, .bool dead] ∧ Hid (WaRel w W o (dL q S.length c ops ar fl dead) (dL none 0 0 0 0 0 false) (bl z64)) ∧ Hid (Doc W q c S d ops ar fl dead)) rfl rfl rfl rfl (by kernel_rfl) (by kernel_rfl) (by kernel_rfl) (by kernel_rfl) rfl rfl (fun _ => rfl) (fun _ => rfl) (fun _ _ => rfl) (by go_simp) hcb ?_ ?_ ?_
  · rintro e w' ⟨rfl, hb⟩
    have t2 := Lib.hid (t1.out.stay hb)
    exact ⟨_, .agg #[.slice q S.length c, .int .i64 ops, .int .i64 ar, .int .i64 fl, .bool dead], w', rfl, t2.out.op, run_load_op rfl rfl (load_d5 t2.out.d), t2.out.op, ⟨rfl, hb.size⟩, rfl, t2, Lib.hid (d1.out.below hb)⟩
  · refine ⟨.agg #[.slice q S.length c, .int .i64 ops, .int .i64 ar, .int .i64 fl, .bool dead], w2.drew, _, run_load_op rfl rfl (load_d5 t1.out.d), t1.out.op, by go_simp, hcb, ?_⟩
    rintro e w' ⟨rfl, hb⟩
    have t2 := Lib.hid (t1.out.stay hb)
    exact ⟨_, rfl, t2.out.op, ⟨rfl, hb.size⟩, rfl, t2, Lib.hid (d1.out.below hb)⟩
  rintro v u W ⟨⟨rfl, hbs⟩, rfl, t2, d2⟩
  go_frame
  have hzW : Hid (w.heap.size + 5 ≤ W.heap.size) := Nat.le_trans hz1.out hbs
  have hcw := write_doc d2.out hR o.pos (rep o.byte) (rep_len o.byte)
  rw [hr] at hcw
  refine held_call (i := 5) (dst := some 22) rfl rfl (by kernel_rfl) rfl (by go_simp) hcw ?_
  rintro e w5 ⟨q5, c5, S5, ops5, ar5, fl5, dead5, rfl, hd5, hb5, hf5⟩
  have t5 := Lib.hid (t2.out.stay hb5)
  have d5 := Lib.hid hd5
  have f5 := Lib.hid (Far.of hlow.out hzW.out hf5)
  have g5 := Lib.hid (Far.post t2.out.below.size hf5)
  have hS5 := t5.out.op
  refine ⟨_, rfl, hS5, ?_⟩
  go_frame
  clear hd5 hb5 hf5 t0 d0 t1 d1 t2 d2 hS hop0 hop1 hcb hcw
  refine held_take (i := 6) (dst := some 16) rfl rfl (by kernel_rfl) (by kernel_rfl) (by kernel_rfl) (fun _ _ _ h => h) (y_move (.tmp 22) rfl rfl rfl) hS5 ?_
  go_frame
  refine held_take (i := 7) (dst := some 23) (v := .agg #[.slice q5 S5.length c5, .int .i64 ops5, .int .i64 ar5, .int .i64 fl5, .bool dead5]) rfl rfl (by kernel_rfl) (by kernel_rfl) (by kernel_rfl) (fun _ _ _ h => h) (.inl ⟨rfl, fun W _ => by go_simp⟩) hS5 ?_
  go_frame
  refine held_take (i := 8) (dst := some 24) (v := .int .i64 r.1) rfl rfl (by kernel_rfl) (by kernel_rfl) (by kernel_rfl) (fun _ _ _ h => h) (.inl ⟨rfl, fun W _ => by go_simp⟩) hS5 ?_
  go_frame
  obtain ⟨w6, hst6, h6, hg6⟩ := run_storeVar_at (P := Try.prog) (ty := 31) t5.out.d (size31b (.slice q5 S5.length c5) (.int .i64 ops5) (.int .i64 ar5) (.int .i64 fl5) (.bool dead5)) (fit31 _ _ _ _ _ _ _ _ _ _) (one31 q5 S5.length c5 ops5 ar5 fl5 dead5)
  rw [d5_splice] at h6
  have t6 := Lib.hid (t5.out.putD h6 hg6)
  have d6 := Lib.hid (d5.out.far f5.out hg6 ⟨by omega, by omega⟩)
  refine held_skip (i := 9) (dst := none) (w' := w6) rfl rfl (by kernel_rfl) rfl (run_store_op rfl rfl rfl hst6) t6.out.op ?_
  go_frame
  refine held_value (i := 10) (dst := some 8) (w' := w6) (v := .int .i64 r.1) rfl rfl (by kernel_rfl) rfl (by go_simp) t6.out.op ?_
  go_frame
  refine wpAnyH_done (by kernel_rfl) ?_ _
  go_wp2
  clear t5 d5 h6 hg6 hst6 hS5
  refine wp_region_held (S := fun W => RowV 31 W (w.heap.size + 1) [.slice q5 S5.length c5, .int .i64 ops5, .int .i64 ar5, .int .i64 fl5, .bool dead5] ∧ RowV 37 W (w.heap.size + 1 + 1 + 1 + 1) (bl z64)) (by kernel_rfl) ?_
  change wpAnyH _ _ _ _ _ _ _ _ (World.drew w6)
  have xA := t6.out.stay (below_drewN w6 1)
  have yA := d6.out.below (below_drewN w6 1)
  have hS : RowV 31 (World.drew w6) (w.heap.size + 1) [.slice q5 S5.length c5, .int .i64 ops5, .int .i64 ar5, .int .i64 fl5, .bool dead5] ∧ RowV 37 (World.drew w6) (w.heap.size + 1 + 1 + 1 + 1) (bl z64) := ⟨xA.d, xA.z⟩
  refine held_take (i := 0) (dst := some 63) rfl rfl (by kernel_rfl) (by kernel_rfl) (by kernel_rfl) (fun _ _ _ h => h) (y_load_agg 31 (.tmp 3) rfl rfl rfl (fun W hW => load_d5 hW.1)) hS ?_
  go_frame
  refine held_take (i := 1) (dst := some 64) rfl rfl (by kernel_rfl) (by kernel_rfl) (by kernel_rfl) (fun _ _ _ h => h) (y_load_agg 37 (.tmp 7) rfl rfl rfl (fun W hW => load_blk hW.2 z64_len)) hS ?_
  go_frame
  refine held_take (i := 2) (dst := some 65) rfl rfl (by kernel_rfl) (by kernel_rfl) (by kernel_rfl) (fun _ _ _ h => h) (y_move (.tmp 8) rfl rfl rfl) hS ?_
  go_frame
  obtain ⟨wB, hstB, hB, hgB⟩ := run_storeVar_at (P := Try.prog) (ty := 31) xA.r (size31b (.slice q5 S5.length c5) (.int .i64 ops5) (.int .i64 ar5) (.int .i64 fl5) (.bool dead5)) (fit31 _ _ _ _ _ _ _ _ _ _) (one31 q5 S5.length c5 ops5 ar5 fl5 dead5)
  rw [d5_splice] at hB
  have xB := xA.putR hB hgB
  have yB := yA.far f5.out hgB ⟨by omega, by omega⟩
  refine held_skip (i := 3) (dst := none) (w' := wB) rfl rfl (by kernel_rfl) rfl (run_store_op rfl rfl rfl hstB) ⟨xB.d, xB.z⟩ ?_
  go_frame
  obtain ⟨wC, hstC, hC, hgC⟩ := run_storeVar_at (P := Try.prog) (ty := 37) xB.b (bl_size z64_len) (bl_fits z64_len z64_len) (bl_one z64)
  rw [bl_splice z64_len z64_len] at hC
  have xC := xB.putB hC hgC
  have yC := yB.far f5.out hgC ⟨by omega, by omega⟩
  refine held_skip (i := 4) (dst := none) (w' := wC) rfl rfl (by kernel_rfl) rfl (run_store_op rfl rfl rfl hstC) ⟨xC.d, xC.z⟩ ?_
  go_frame
  refine held_value (i := 5) (dst := some 6) (w' := wC) (v := .int .i64 r.1) rfl rfl (by kernel_rfl) rfl (by go_simp) ⟨xC.d, xC.z⟩ ?_
  go_frame
  refine wpAnyH_done (by kernel_rfl) ?_ _
  go_wp2
  refine bodyPost_ret (results_disk_blk_tmp (r := 4) (s := 5) (u := 6) Try.results14 _ _ (w.heap.size + 1 + 1) (w.heap.size + 1 + 1 + 1) _ _ _ _ _ (bl z64) ⟨by rw [bl_len, z64_len], bl_one z64⟩ rfl xC.r rfl xC.b _ rfl) rfl ?_
  exact ⟨q5, c5, S5, ops5, ar5, fl5, dead5, rfl, yC, xC.below, g5.out⟩

theorem wants_any {w : World} {q : Option Addr} {c : Nat} {S : List Sc} {d : Dk} {ops ar fl : Int} {dead : Bool} (hd : Doc w q c S d ops ar fl dead) (hR : Room d) (o : OpV) (ho : IsOp w o) :
    Calls Try.prog 14 #[.agg o.cells.toArray, .agg #[.slice q S.length c, .int .i64 ops, .int .i64 ar, .int .i64 fl, .bool dead]] w (DocPost w q (runRes d o).2 (fun v => .returned (.tuple #[v, agg (runRes d o).1.1, .int .i64 (runRes d o).1.2]))) := by
  have hde := hd.tw.dead
  by_cases c4 : kd o = 4
  · have e : runRes d o = rdRes d o.pos := by unfold runRes; rw [if_pos c4]
    rw [e]; exact wants_read hd hR o c4
  by_cases c5 : kd o = 5
  · have e : runRes d o = ((z64, (syRes d).1), (syRes d).2) := by unfold runRes; rw [if_neg c4, if_pos c5]
    rw [e]; exact wants_sync hd hR o c5
  by_cases c6 : kd o = 6
  · have e : runRes d o = ((z64, (armRes d o.num).1), (armRes d o.num).2) := by unfold runRes; rw [if_neg c4, if_neg c5, if_pos c6]
    rw [e]
    unfold armRes
    cases dead with
    | true => rw [if_pos hde.symm]; exact wants_arm_dead hd o c6
    | false => rw [if_neg (by rw [← hde]; decide)]; exact wants_arm hd o c6
  by_cases c7 : kd o = 7
  · have e : runRes d o = ((z64, (failRes d o.num).1), (failRes d o.num).2) := by unfold runRes; rw [if_neg c4, if_neg c5, if_neg c6, if_pos c7]
    rw [e]
    unfold failRes
    cases dead with
    | true => rw [if_pos hde.symm]; exact wants_fail_dead hd o c7
    | false => rw [if_neg (by rw [← hde]; decide)]; exact wants_fail hd o c7
  by_cases c8 : kd o = 8
  · have e : runRes d o = ((z64, 0), crRes d (o.ks.take 60)) := by unfold runRes; rw [if_neg c4, if_neg c5, if_neg c6, if_neg c7, if_pos c8]
    rw [e]; exact wants_crash hd hR.good o ho c8
  · have e : runRes d o = ((z64, (wrRes d o.pos (rep o.byte)).1), (wrRes d o.pos (rep o.byte)).2) := by unfold runRes; rw [if_neg c4, if_neg c5, if_neg c6, if_neg c7, if_neg c8]
    have := kd_range o
    rw [e]; exact wants_write hd hR o ho (by omega)

end Go.Proofs.Ytnjandmlhncapaa
