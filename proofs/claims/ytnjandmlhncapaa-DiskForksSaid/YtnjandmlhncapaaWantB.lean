/- (Op).wants, by its contract: Sync, Arm and Fail. -/
import Derived.Test.YtnjandmlhncapaaWant
namespace Go.Proofs.Ytnjandmlhncapaa
open Go.RowKit

set_option maxRecDepth 100000 in
set_option maxHeartbeats 4000000 in
theorem wants_sync {w : World} {q : Option Addr} {c : Nat} {S : List Sc} {d : Dk} {ops ar fl : Int} {dead : Bool} (hd : Doc w q c S d ops ar fl dead) (hR : Room d) (o : OpV) (hk : kd o = 5) :
    Calls Try.prog 14 #[.agg o.cells.toArray, .agg #[.slice q S.length c, .int .i64 ops, .int .i64 ar, .int .i64 fl, .bool dead]] w (DocPost w q ((syRes d).2) (fun v => .returned (.tuple #[v, agg z64, .int .i64 (syRes d).1]))) := by
  obtain ⟨n, hn⟩ : ∃ n, S.length = n := ⟨_, rfl⟩
  have hcl : ∀ u, Below w.heap.size w u → Calls Try.prog 36 #[.agg #[.slice q n c, .int .i64 ops, .int .i64 ar, .int .i64 fl, .bool dead]] u (DocPost u q (syRes d).2 (fun v => .returned (.tuple #[v, .int .i64 (syRes d).1]))) := fun u hu => by
    rw [← hn]; exact sync_doc (hd.below hu) hR
  obtain ⟨r, hr⟩ : ∃ r, syRes d = r := ⟨_, rfl⟩
  rw [hr] at hcl ⊢
  rw [hn]
  have hcl' := Lib.hid hcl
  have t0 := Lib.hid (WaRel.start w o (dL q n c ops ar fl dead))
  have hlow := Lib.hid hd.low
  have ck := t0.out.op.cell 0
  have hsz0 : Hid (w.heap.size + 5 ≤ (waW w o (dL q n c ops ar fl dead)).heap.size) := by
    show _ ≤ _
    unfold waW
    simp [World.size_alloc]
  unfold waW at t0 ck hsz0
  unfold OpV.cells at ck t0 hsz0 ⊢
  simp only [List.getElem?_cons_zero] at ck
  have hk4 : (IntKind.u64.wrap o.kind).tmod 9 = 5 := by rw [kd_eq, hk]
  clear hcl hd hk hn
  go_enter Try.func14, Try.ntmps14
  go_wp2_with (first
    | ((with_reducible refine wpList_alloc_z rfl 37 rfl alloc37z ?_)
       try simp only [World.size_alloc])
    | (with_reducible refine wpList_load_at rfl 31 (.tmp 3) rfl Try.underlying31 rfl (vs := dL q n c ops ar fl dead) (size31b _ _ _ _ _) rfl (t0.out.d.part (o := 0) (pre := []) (rest := []) (part31 _) rfl) ?_)
    | (go_at_call 36; refine (hcl'.out _ t0.out.below).mono ?_; rintro e w5 ⟨q5, c5, S5, ops5, ar5, fl5, dead5, rfl, hd5, hb5, hf5⟩
       have t5 := Lib.hid (t0.out.stay hb5)
       have d5 := Lib.hid hd5
       have f5 := Lib.hid (Far.of hlow.out hsz0.out hf5)
       have g5 := Lib.hid (Far.post t0.out.below.size hf5)
       clear hd5 hb5 hf5)
    | ((with_reducible refine wpList_store_at rfl 31 (.tmp 3) (.tmp 39) rfl (o := 0) rfl rfl t5.out.d (size31b _ _ _ _ _) (fit31 _ _ _ _ _ _ _ _ _ _) (one31 q5 S5.length c5 ops5 ar5 fl5 dead5) ?_)
       intro w6 h6 hg6
       rw [d5_splice] at h6
       have t6 := Lib.hid (t5.out.putD h6 hg6)
       have d6 := Lib.hid (d5.out.far f5.out hg6 ⟨by omega, by omega⟩)
       clear h6 hg6))
  clear t0 t5 d5 ck
  refine wp_region_held (S := fun W => RowV 31 W (w.heap.size + 1) [.slice q5 S5.length c5, .int .i64 ops5, .int .i64 ar5, .int .i64 fl5, .bool dead5] ∧ RowV 37 W (w.heap.size + 1 + 1 + 1 + 1) (bl z64)) (by kernel_rfl) ?_
  change wpAnyH _ _ _ _ _ _ _ _ (World.drew w6)
  have xA := t6.out.stay (below_drewN w6 1)
  have yA := d6.out.below (below_drewN w6 1)
  have hS : RowV 31 (World.drew w6) (w.heap.size + 1) [.slice q5 S5.length c5, .int .i64 ops5, .int .i64 ar5, .int .i64 fl5, .bool dead5] ∧ RowV 37 (World.drew w6) (w.heap.size + 1 + 1 + 1 + 1) (bl z64) := ⟨xA.d, xA.z⟩
  refine held_take (i := 0) (dst := some 63) rfl rfl (by kernel_rfl) (by kernel_rfl) (by kernel_rfl) (fun _ _ _ h => h) (y_load_agg 31 (.tmp 3) rfl rfl rfl (fun W hW => load_d5 hW.1)) hS ?_
  go_frame
  refine held_take (i := 1) (dst := some 64) rfl rfl (by kernel_rfl) (by kernel_rfl) (by kernel_rfl) (fun _ _ _ h => h) (y_load_agg 37 (.tmp 7) rfl rfl rfl (fun W hW => load_blk hW.2 z64_len)) hS ?_
  go_frame
  refine held_take (i := 2) (dst := some 65) rfl rfl (by kernel_rfl) (by kernel_rfl) (by kernel_rfl) (fun _ _ _ h => h) (y_move (.tmp 8) rfl rfl rfl) hS ?_
  go_frame
  obtain ⟨wB, hstB, hB, hgB⟩ := run_storeVar_at (P := Try.prog) (ty := 31) xA.r (size31b (.slice q5 S5.length c5) (.int .i64 ops5) (.int .i64 ar5) (.int .i64 fl5) (.bool dead5)) (fit31 _ _ _ _ _ _ _ _ _ _) (one31 q5 S5.length c5 ops5 ar5 fl5 dead5)
  rw [d5_splice] at hB
  have xB := xA.putR hB hgB
  have yB := yA.far f5.out hgB ⟨by omega, by omega⟩
  refine held_skip (i := 3) (dst := none) (w' := wB) rfl rfl (by kernel_rfl) rfl (run_store_op rfl rfl rfl hstB) ⟨xB.d, xB.z⟩ ?_
  go_frame
  obtain ⟨wC, hstC, hC, hgC⟩ := run_storeVar_at (P := Try.prog) (ty := 37) xB.b (bl_size z64_len) (bl_fits z64_len z64_len) (bl_one z64)
  rw [bl_splice z64_len z64_len] at hC
  have xC := xB.putB hC hgC
  have yC := yB.far f5.out hgC ⟨by omega, by omega⟩
  refine held_skip (i := 4) (dst := none) (w' := wC) rfl rfl (by kernel_rfl) rfl (run_store_op rfl rfl rfl hstC) ⟨xC.d, xC.z⟩ ?_
  go_frame
  refine held_value (i := 5) (dst := some 6) (w' := wC) (v := .int .i64 r.1) rfl rfl (by kernel_rfl) rfl (by go_simp) ⟨xC.d, xC.z⟩ ?_
  go_frame
  refine wpAnyH_done (by kernel_rfl) ?_ _
  go_wp2
  refine bodyPost_ret (results_disk_blk_tmp (r := 4) (s := 5) (u := 6) Try.results14 _ _ (w.heap.size + 1 + 1) (w.heap.size + 1 + 1 + 1) _ _ _ _ _ (bl z64) ⟨by rw [bl_len, z64_len], bl_one z64⟩ rfl xC.r rfl xC.b _ rfl) rfl ?_
  exact ⟨q5, c5, S5, ops5, ar5, fl5, dead5, rfl, yC, xC.below, g5.out⟩

set_option maxRecDepth 100000 in
set_option maxHeartbeats 4000000 in
theorem wants_arm_dead {w : World} {q : Option Addr} {c : Nat} {S : List Sc} {d : Dk} {ops ar fl : Int} (hd : Doc w q c S d ops ar fl true) (o : OpV) (hk : kd o = 6) :
    Calls Try.prog 14 #[.agg o.cells.toArray, .agg #[.slice q S.length c, .int .i64 ops, .int .i64 ar, .int .i64 fl, .bool true]] w (DocPost w q (d) (fun v => .returned (.tuple #[v, agg z64, .int .i64 9]))) := by
  have t0 := Lib.hid (WaRel.start w o (dL q S.length c ops ar fl true))
  have hlow := Lib.hid hd.low
  have ck := t0.out.op.cell 0
  have cn := t0.out.op.cell 2
  have c4 := t0.out.d.cell 4
  have hsz0 : Hid (w.heap.size + 5 ≤ (waW w o (dL q S.length c ops ar fl true)).heap.size) := by
    show _ ≤ _
    unfold waW
    simp [World.size_alloc]
  have d0 := Lib.hid (hd.below t0.out.below)
  have f0 := Lib.hid (Far.of hlow.out hsz0.out (.inl rfl))
  have f2 := t0.out.d.free 2
  have f3 := t0.out.d.free 3
  have c2 := t0.out.d.cell 2
  have c3 := t0.out.d.cell 3
  unfold waW at t0 ck cn c4 hsz0 d0 f2 f3 c2 c3
  unfold OpV.cells at ck cn c4 t0 hsz0 d0 f2 f3 c2 c3 ⊢
  simp only [List.getElem?_cons_zero, List.getElem?_cons_succ] at ck cn c4 c2 c3
  have hk4 : (IntKind.u64.wrap o.kind).tmod 9 = 6 := by rw [kd_eq, hk]
  clear hd hk c2 c3 f2 f3 cn
  go_enter Try.func14, Try.ntmps14
  go_wp2_with (first
    | ((with_reducible refine wpList_alloc_z rfl 37 rfl alloc37z ?_)
       try simp only [World.size_alloc]))
  obtain ⟨w2, hw2⟩ : ∃ w2, ((((w.alloc (.cells #[.int .i64 o.kind, .int .i64 o.pos, .int .i64 o.num, .int .u8 o.byte, o.kv] 35)).alloc (.cells #[.slice q S.length c, .int .i64 ops, .int .i64 ar, .int .i64 fl, .bool true] 31)).alloc (.cells #[.slice none 0 0, .int .i64 0, .int .i64 0, .int .i64 0, .bool false] 31)).alloc (.cells (bl z64).toArray 37)).alloc (.cells (bl z64).toArray 37) = w2 := ⟨_, rfl⟩
  change Hid (WaRel w (((((w.alloc (.cells #[.int .i64 o.kind, .int .i64 o.pos, .int .i64 o.num, .int .u8 o.byte, o.kv] 35)).alloc (.cells #[.slice q S.length c, .int .i64 ops, .int .i64 ar, .int .i64 fl, .bool true] 31)).alloc (.cells #[.slice none 0 0, .int .i64 0, .int .i64 0, .int .i64 0, .bool false] 31)).alloc (.cells (bl z64).toArray 37)).alloc (.cells (bl z64).toArray 37)) o _ _ _) at t0
  change Hid (Doc (((((w.alloc (.cells #[.int .i64 o.kind, .int .i64 o.pos, .int .i64 o.num, .int .u8 o.byte, o.kv] 35)).alloc (.cells #[.slice q S.length c, .int .i64 ops, .int .i64 ar, .int .i64 fl, .bool true] 31)).alloc (.cells #[.slice none 0 0, .int .i64 0, .int .i64 0, .int .i64 0, .bool false] 31)).alloc (.cells (bl z64).toArray 37)).alloc (.cells (bl z64).toArray 37)) _ _ _ _ _ _ _ _) at d0
  rw [hw2] at t0 d0 ⊢
  clear hw2 ck c4 hsz0
  refine wp_region_held (S := fun W => RowV 31 W (w.heap.size + 1) [.slice q S.length c, .int .i64 ops, .int .i64 ar, .int .i64 fl, .bool true] ∧ RowV 37 W (w.heap.size + 1 + 1 + 1 + 1) (bl z64)) (by kernel_rfl) ?_
  change wpAnyH _ _ _ _ _ _ _ _ (World.drew w2)
  have xA := t0.out.stay (below_drewN w2 1)
  have yA := d0.out.below (below_drewN w2 1)
  have hS : RowV 31 (World.drew w2) (w.heap.size + 1) [.slice q S.length c, .int .i64 ops, .int .i64 ar, .int .i64 fl, .bool true] ∧ RowV 37 (World.drew w2) (w.heap.size + 1 + 1 + 1 + 1) (bl z64) := ⟨xA.d, xA.z⟩
  refine held_take (i := 0) (dst := some 46) rfl rfl (by kernel_rfl) (by kernel_rfl) (by kernel_rfl) (fun _ _ _ h => h) (y_load_agg 31 (.tmp 3) rfl rfl rfl (fun W hW => load_d5 hW.1)) hS ?_
  go_frame
  refine held_take (i := 1) (dst := some 47) rfl rfl (by kernel_rfl) (by kernel_rfl) (by kernel_rfl) (fun _ _ _ h => h) (y_load_agg 37 (.tmp 7) rfl rfl rfl (fun W hW => load_blk hW.2 z64_len)) hS ?_
  go_frame
  obtain ⟨wB, hstB, hB, hgB⟩ := run_storeVar_at (P := Try.prog) (ty := 31) xA.r (size31b (.slice q S.length c) (.int .i64 ops) (.int .i64 ar) (.int .i64 fl) (.bool true)) (fit31 _ _ _ _ _ _ _ _ _ _) (one31 q S.length c ops ar fl true)
  rw [d5_splice] at hB
  have xB := xA.putR hB hgB
  have yB := yA.far f0.out hgB ⟨by omega, by omega⟩
  refine held_skip (i := 2) (dst := none) (w' := wB) rfl rfl (by kernel_rfl) rfl (run_store_op rfl rfl rfl hstB) ⟨xB.d, xB.z⟩ ?_
  go_frame
  obtain ⟨wC, hstC, hC, hgC⟩ := run_storeVar_at (P := Try.prog) (ty := 37) xB.b (bl_size z64_len) (bl_fits z64_len z64_len) (bl_one z64)
  rw [bl_splice z64_len z64_len] at hC
  have xC := xB.putB hC hgC
  have yC := yB.far f0.out hgC ⟨by omega, by omega⟩
  refine held_skip (i := 3) (dst := none) (w' := wC) rfl rfl (by kernel_rfl) rfl (run_store_op rfl rfl rfl hstC) ⟨xC.d, xC.z⟩ ?_
  go_frame
  refine held_value (i := 4) (dst := some 6) (w' := wC) (v := .int .i64 9) rfl rfl (by kernel_rfl) rfl (by go_simp) ⟨xC.d, xC.z⟩ ?_
  go_frame
  refine wpAnyH_done (by kernel_rfl) ?_ _
  go_wp2
  refine bodyPost_ret (results_disk_blk_tmp (r := 4) (s := 5) (u := 6) Try.results14 _ _ (w.heap.size + 1 + 1) (w.heap.size + 1 + 1 + 1) _ _ _ _ _ (bl z64) ⟨by rw [bl_len, z64_len], bl_one z64⟩ rfl xC.r rfl xC.b _ rfl) rfl ?_
  exact ⟨q, c, S, ops, ar, fl, true, rfl, yC, xC.below, .inl rfl⟩

set_option maxRecDepth 100000 in
set_option maxHeartbeats 4000000 in
theorem wants_arm {w : World} {q : Option Addr} {c : Nat} {S : List Sc} {d : Dk} {ops ar fl : Int} (hd : Doc w q c S d ops ar fl false) (o : OpV) (hk : kd o = 6) :
    Calls Try.prog 14 #[.agg o.cells.toArray, .agg #[.slice q S.length c, .int .i64 ops, .int .i64 ar, .int .i64 fl, .bool false]] w (DocPost w q ({ d with al := decide (0 ≤ o.num), an := o.num }) (fun v => .returned (.tuple #[v, agg z64, .int .i64 0]))) := by
  have t0 := Lib.hid (WaRel.start w o (dL q S.length c ops ar fl false))
  have hlow := Lib.hid hd.low
  have ck := t0.out.op.cell 0
  have cn := t0.out.op.cell 2
  have c4 := t0.out.d.cell 4
  have hsz0 : Hid (w.heap.size + 5 ≤ (waW w o (dL q S.length c ops ar fl false)).heap.size) := by
    show _ ≤ _
    unfold waW
    simp [World.size_alloc]
  have d0 := Lib.hid (hd.below t0.out.below)
  have f0 := Lib.hid (Far.of hlow.out hsz0.out (.inl rfl))
  have f2 := t0.out.d.free 2
  have f3 := t0.out.d.free 3
  have c2 := t0.out.d.cell 2
  have c3 := t0.out.d.cell 3
  unfold waW at t0 ck cn c4 hsz0 d0 f2 f3 c2 c3
  unfold OpV.cells at ck cn c4 t0 hsz0 d0 f2 f3 c2 c3 ⊢
  simp only [List.getElem?_cons_zero, List.getElem?_cons_succ] at ck cn c4 c2 c3
  have hk4 : (IntKind.u64.wrap o.kind).tmod 9 = 6 := by rw [kd_eq, hk]
  have htw := Lib.hid hd.tw
  have hd' := Lib.hid hd
  clear hd hk c3 f3
  go_enter Try.func14, Try.ntmps14
  go_wp2_with (first
    | ((with_reducible refine wpList_alloc_z rfl 37 rfl alloc37z ?_)
       try simp only [World.size_alloc]))
  have t6 : Hid (WaRel w (((((w.alloc (.cells #[.int .i64 o.kind, .int .i64 o.pos, .int .i64 o.num, .int .u8 o.byte, o.kv] 35)).alloc (.cells #[.slice q S.length c, .int .i64 ops, .int .i64 (max o.num (-1)), .int .i64 fl, .bool false] 31)).alloc (.cells #[.slice none 0 0, .int .i64 0, .int .i64 0, .int .i64 0, .bool false] 31)).alloc (.cells (bl z64).toArray 37)).alloc (.cells (bl z64).toArray 37)) o (dL q S.length c ops (max o.num (-1)) fl false) (dL none 0 0 0 0 0 false) (bl z64)) := WaRel.start w o (dL q S.length c ops (max o.num (-1)) fl false)
  have d6a := hd'.out.below t6.out.below
  have d6 : Hid (Doc (((((w.alloc (.cells #[.int .i64 o.kind, .int .i64 o.pos, .int .i64 o.num, .int .u8 o.byte, o.kv] 35)).alloc (.cells #[.slice q S.length c, .int .i64 ops, .int .i64 (max o.num (-1)), .int .i64 fl, .bool false] 31)).alloc (.cells #[.slice none 0 0, .int .i64 0, .int .i64 0, .int .i64 0, .bool false] 31)).alloc (.cells (bl z64).toArray 37)).alloc (.cells (bl z64).toArray 37)) q c S { d with al := decide (0 ≤ o.num), an := o.num } ops (max o.num (-1)) fl false) := ⟨d6a.holds, d6a.low, ⟨htw.out.secs.same rfl rfl, htw.out.ops, htw.out.dead, fun hx => ⟨fz_max.symm, (htw.out.fuse hx).2⟩⟩⟩
  obtain ⟨w2, hw2⟩ : ∃ w2, ((((w.alloc (.cells #[.int .i64 o.kind, .int .i64 o.pos, .int .i64 o.num, .int .u8 o.byte, o.kv] 35)).alloc (.cells #[.slice q S.length c, .int .i64 ops, .int .i64 (max o.num (-1)), .int .i64 fl, .bool false] 31)).alloc (.cells #[.slice none 0 0, .int .i64 0, .int .i64 0, .int .i64 0, .bool false] 31)).alloc (.cells (bl z64).toArray 37)).alloc (.cells (bl z64).toArray 37) = w2 := ⟨_, rfl⟩
  rw [hw2] at t6 d6 ⊢
  clear hw2 ck c4 hsz0 t0 d0 d6a cn c2 f2 hd'
  refine wp_region_held (S := fun W => RowV 31 W (w.heap.size + 1) [.slice q S.length c, .int .i64 ops, .int .i64 (max o.num (-1)), .int .i64 fl, .bool false] ∧ RowV 37 W (w.heap.size + 1 + 1 + 1 + 1) (bl z64)) (by kernel_rfl) ?_
  change wpAnyH _ _ _ _ _ _ _ _ (World.drew w2)
  have xA := t6.out.stay (below_drewN w2 1)
  have yA := d6.out.below (below_drewN w2 1)
  have hS : RowV 31 (World.drew w2) (w.heap.size + 1) [.slice q S.length c, .int .i64 ops, .int .i64 (max o.num (-1)), .int .i64 fl, .bool false] ∧ RowV 37 (World.drew w2) (w.heap.size + 1 + 1 + 1 + 1) (bl z64) := ⟨xA.d, xA.z⟩
  refine held_take (i := 0) (dst := some 63) rfl rfl (by kernel_rfl) (by kernel_rfl) (by kernel_rfl) (fun _ _ _ h => h) (y_load_agg 31 (.tmp 3) rfl rfl rfl (fun W hW => load_d5 hW.1)) hS ?_
  go_frame
  refine held_take (i := 1) (dst := some 64) rfl rfl (by kernel_rfl) (by kernel_rfl) (by kernel_rfl) (fun _ _ _ h => h) (y_load_agg 37 (.tmp 7) rfl rfl rfl (fun W hW => load_blk hW.2 z64_len)) hS ?_
  go_frame
  refine held_take (i := 2) (dst := some 65) rfl rfl (by kernel_rfl) (by kernel_rfl) (by kernel_rfl) (fun _ _ _ h => h) (y_move (.tmp 8) rfl rfl rfl) hS ?_
  go_frame
  obtain ⟨wB, hstB, hB, hgB⟩ := run_storeVar_at (P := Try.prog) (ty := 31) xA.r (size31b (.slice q S.length c) (.int .i64 ops) (.int .i64 (max o.num (-1))) (.int .i64 fl) (.bool false)) (fit31 _ _ _ _ _ _ _ _ _ _) (one31 q S.length c ops (max o.num (-1)) fl false)
  rw [d5_splice] at hB
  have xB := xA.putR hB hgB
  have yB := yA.far f0.out hgB ⟨by omega, by omega⟩
  refine held_skip (i := 3) (dst := none) (w' := wB) rfl rfl (by kernel_rfl) rfl (run_store_op rfl rfl rfl hstB) ⟨xB.d, xB.z⟩ ?_
  go_frame
  obtain ⟨wC, hstC, hC, hgC⟩ := run_storeVar_at (P := Try.prog) (ty := 37) xB.b (bl_size z64_len) (bl_fits z64_len z64_len) (bl_one z64)
  rw [bl_splice z64_len z64_len] at hC
  have xC := xB.putB hC hgC
  have yC := yB.far f0.out hgC ⟨by omega, by omega⟩
  refine held_skip (i := 4) (dst := none) (w' := wC) rfl rfl (by kernel_rfl) rfl (run_store_op rfl rfl rfl hstC) ⟨xC.d, xC.z⟩ ?_
  go_frame
  refine held_value (i := 5) (dst := some 6) (w' := wC) (v := .int .i64 0) rfl rfl (by kernel_rfl) rfl (by go_simp) ⟨xC.d, xC.z⟩ ?_
  go_frame
  refine wpAnyH_done (by kernel_rfl) ?_ _
  go_wp2
  refine bodyPost_ret (results_disk_blk_tmp (r := 4) (s := 5) (u := 6) Try.results14 _ _ (w.heap.size + 1 + 1) (w.heap.size + 1 + 1 + 1) _ _ _ _ _ (bl z64) ⟨by rw [bl_len, z64_len], bl_one z64⟩ rfl xC.r rfl xC.b _ rfl) rfl ?_
  exact ⟨q, c, S, ops, (max o.num (-1)), fl, false, rfl, yC, xC.below, .inl rfl⟩

set_option maxRecDepth 100000 in
set_option maxHeartbeats 4000000 in
theorem wants_fail_dead {w : World} {q : Option Addr} {c : Nat} {S : List Sc} {d : Dk} {ops ar fl : Int} (hd : Doc w q c S d ops ar fl true) (o : OpV) (hk : kd o = 7) :
    Calls Try.prog 14 #[.agg o.cells.toArray, .agg #[.slice q S.length c, .int .i64 ops, .int .i64 ar, .int .i64 fl, .bool true]] w (DocPost w q (d) (fun v => .returned (.tuple #[v, agg z64, .int .i64 9]))) := by
  have t0 := Lib.hid (WaRel.start w o (dL q S.length c ops ar fl true))
  have hlow := Lib.hid hd.low
  have ck := t0.out.op.cell 0
  have cn := t0.out.op.cell 2
  have c4 := t0.out.d.cell 4
  have hsz0 : Hid (w.heap.size + 5 ≤ (waW w o (dL q S.length c ops ar fl true)).heap.size) := by
    show _ ≤ _
    unfold waW
    simp [World.size_alloc]
  have d0 := Lib.hid (hd.below t0.out.below)
  have f0 := Lib.hid (Far.of hlow.out hsz0.out (.inl rfl))
  have f2 := t0.out.d.free 2
  have f3 := t0.out.d.free 3
  have c2 := t0.out.d.cell 2
  have c3 := t0.out.d.cell 3
  unfold waW at t0 ck cn c4 hsz0 d0 f2 f3 c2 c3
  unfold OpV.cells at ck cn c4 t0 hsz0 d0 f2 f3 c2 c3 ⊢
  simp only [List.getElem?_cons_zero, List.getElem?_cons_succ] at ck cn c4 c2 c3
  have hk4 : (IntKind.u64.wrap o.kind).tmod 9 = 7 := by rw [kd_eq, hk]
  clear hd hk c2 c3 f2 f3 cn
  go_enter Try.func14, Try.ntmps14
  go_wp2_with (first
    | ((with_reducible refine wpList_alloc_z rfl 37 rfl alloc37z ?_)
       try simp only [World.size_alloc]))
  obtain ⟨w2, hw2⟩ : ∃ w2, ((((w.alloc (.cells #[.int .i64 o.kind, .int .i64 o.pos, .int .i64 o.num, .int .u8 o.byte, o.kv] 35)).alloc (.cells #[.slice q S.length c, .int .i64 ops, .int .i64 ar, .int .i64 fl, .bool true] 31)).alloc (.cells #[.slice none 0 0, .int .i64 0, .int .i64 0, .int .i64 0, .bool false] 31)).alloc (.cells (bl z64).toArray 37)).alloc (.cells (bl z64).toArray 37) = w2 := ⟨_, rfl⟩
  change Hid (WaRel w (((((w.alloc (.cells #[.int .i64 o.kind, .int .i64 o.pos, .int .i64 o.num, .int .u8 o.byte, o.kv] 35)).alloc (.cells #[.slice q S.length c, .int .i64 ops, .int .i64 ar, .int .i64 fl, .bool true] 31)).alloc (.cells #[.slice none 0 0, .int .i64 0, .int .i64 0, .int .i64 0, .bool false] 31)).alloc (.cells (bl z64).toArray 37)).alloc (.cells (bl z64).toArray 37)) o _ _ _) at t0
  change Hid (Doc (((((w.alloc (.cells #[.int .i64 o.kind, .int .i64 o.pos, .int .i64 o.num, .int .u8 o.byte, o.kv] 35)).alloc (.cells #[.slice q S.length c, .int .i64 ops, .int .i64 ar, .int .i64 fl, .bool true] 31)).alloc (.cells #[.slice none 0 0, .int .i64 0, .int .i64 0, .int .i64 0, .bool false] 31)).alloc (.cells (bl z64).toArray 37)).alloc (.cells (bl z64).toArray 37)) _ _ _ _ _ _ _ _) at d0
  rw [hw2] at t0 d0 ⊢
  clear hw2 ck c4 hsz0
  refine wp_region_held (S := fun W => RowV 31 W (w.heap.size + 1) [.slice q S.length c, .int .i64 ops, .int .i64 ar, .int .i64 fl, .bool true] ∧ RowV 37 W (w.heap.size + 1 + 1 + 1 + 1) (bl z64)) (by kernel_rfl) ?_
  change wpAnyH _ _ _ _ _ _ _ _ (World.drew w2)
  have xA := t0.out.stay (below_drewN w2 1)
  have yA := d0.out.below (below_drewN w2 1)
  have hS : RowV 31 (World.drew w2) (w.heap.size + 1) [.slice q S.length c, .int .i64 ops, .int .i64 ar, .int .i64 fl, .bool true] ∧ RowV 37 (World.drew w2) (w.heap.size + 1 + 1 + 1 + 1) (bl z64) := ⟨xA.d, xA.z⟩
  refine held_take (i := 0) (dst := some 46) rfl rfl (by kernel_rfl) (by kernel_rfl) (by kernel_rfl) (fun _ _ _ h => h) (y_load_agg 31 (.tmp 3) rfl rfl rfl (fun W hW => load_d5 hW.1)) hS ?_
  go_frame
  refine held_take (i := 1) (dst := some 47) rfl rfl (by kernel_rfl) (by kernel_rfl) (by kernel_rfl) (fun _ _ _ h => h) (y_load_agg 37 (.tmp 7) rfl rfl rfl (fun W hW => load_blk hW.2 z64_len)) hS ?_
  go_frame
  obtain ⟨wB, hstB, hB, hgB⟩ := run_storeVar_at (P := Try.prog) (ty := 31) xA.r (size31b (.slice q S.length c) (.int .i64 ops) (.int .i64 ar) (.int .i64 fl) (.bool true)) (fit31 _ _ _ _ _ _ _ _ _ _) (one31 q S.length c ops ar fl true)
  rw [d5_splice] at hB
  have xB := xA.putR hB hgB
  have yB := yA.far f0.out hgB ⟨by omega, by omega⟩
  refine held_skip (i := 2) (dst := none) (w' := wB) rfl rfl (by kernel_rfl) rfl (run_store_op rfl rfl rfl hstB) ⟨xB.d, xB.z⟩ ?_
  go_frame
  obtain ⟨wC, hstC, hC, hgC⟩ := run_storeVar_at (P := Try.prog) (ty := 37) xB.b (bl_size z64_len) (bl_fits z64_len z64_len) (bl_one z64)
  rw [bl_splice z64_len z64_len] at hC
  have xC := xB.putB hC hgC
  have yC := yB.far f0.out hgC ⟨by omega, by omega⟩
  refine held_skip (i := 3) (dst := none) (w' := wC) rfl rfl (by kernel_rfl) rfl (run_store_op rfl rfl rfl hstC) ⟨xC.d, xC.z⟩ ?_
  go_frame
  refine held_value (i := 4) (dst := some 6) (w' := wC) (v := .int .i64 9) rfl rfl (by kernel_rfl) rfl (by go_simp) ⟨xC.d, xC.z⟩ ?_
  go_frame
  refine wpAnyH_done (by kernel_rfl) ?_ _
  go_wp2
  refine bodyPost_ret (results_disk_blk_tmp (r := 4) (s := 5) (u := 6) Try.results14 _ _ (w.heap.size + 1 + 1) (w.heap.size + 1 + 1 + 1) _ _ _ _ _ (bl z64) ⟨by rw [bl_len, z64_len], bl_one z64⟩ rfl xC.r rfl xC.b _ rfl) rfl ?_
  exact ⟨q, c, S, ops, ar, fl, true, rfl, yC, xC.below, .inl rfl⟩

set_option maxRecDepth 100000 in
set_option maxHeartbeats 4000000 in
theorem wants_fail {w : World} {q : Option Addr} {c : Nat} {S : List Sc} {d : Dk} {ops ar fl : Int} (hd : Doc w q c S d ops ar fl false) (o : OpV) (hk : kd o = 7) :
    Calls Try.prog 14 #[.agg o.cells.toArray, .agg #[.slice q S.length c, .int .i64 ops, .int .i64 ar, .int .i64 fl, .bool false]] w (DocPost w q ({ d with fl := decide (0 ≤ o.num), fn := o.num }) (fun v => .returned (.tuple #[v, agg z64, .int .i64 0]))) := by
  have t0 := Lib.hid (WaRel.start w o (dL q S.length c ops ar fl false))
  have hlow := Lib.hid hd.low
  have ck := t0.out.op.cell 0
  have cn := t0.out.op.cell 2
  have c4 := t0.out.d.cell 4
  have hsz0 : Hid (w.heap.size + 5 ≤ (waW w o (dL q S.length c ops ar fl false)).heap.size) := by
    show _ ≤ _
    unfold waW
    simp [World.size_alloc]
  have d0 := Lib.hid (hd.below t0.out.below)
  have f0 := Lib.hid (Far.of hlow.out hsz0.out (.inl rfl))
  have f2 := t0.out.d.free 2
  have f3 := t0.out.d.free 3
  have c2 := t0.out.d.cell 2
  have c3 := t0.out.d.cell 3
  unfold waW at t0 ck cn c4 hsz0 d0 f2 f3 c2 c3
  unfold OpV.cells at ck cn c4 t0 hsz0 d0 f2 f3 c2 c3 ⊢
  simp only [List.getElem?_cons_zero, List.getElem?_cons_succ] at ck cn c4 c2 c3
  have hk4 : (IntKind.u64.wrap o.kind).tmod 9 = 7 := by rw [kd_eq, hk]
  have htw := Lib.hid hd.tw
  have hd' := Lib.hid hd
  clear hd hk c2 f2
  go_enter Try.func14, Try.ntmps14
  go_wp2_with (first
    | ((with_reducible refine wpList_alloc_z rfl 37 rfl alloc37z ?_)
       try simp only [World.size_alloc]))
  have t6 : Hid (WaRel w (((((w.alloc (.cells #[.int .i64 o.kind, .int .i64 o.pos, .int .i64 o.num, .int .u8 o.byte, o.kv] 35)).alloc (.cells #[.slice q S.length c, .int .i64 ops, .int .i64 ar, .int .i64 (max o.num (-1)), .bool false] 31)).alloc (.cells #[.slice none 0 0, .int .i64 0, .int .i64 0, .int .i64 0, .bool false] 31)).alloc (.cells (bl z64).toArray 37)).alloc (.cells (bl z64).toArray 37)) o (dL q S.length c ops ar (max o.num (-1)) false) (dL none 0 0 0 0 0 false) (bl z64)) := WaRel.start w o (dL q S.length c ops ar (max o.num (-1)) false)
  have d6a := hd'.out.below t6.out.below
  have d6 : Hid (Doc (((((w.alloc (.cells #[.int .i64 o.kind, .int .i64 o.pos, .int .i64 o.num, .int .u8 o.byte, o.kv] 35)).alloc (.cells #[.slice q S.length c, .int .i64 ops, .int .i64 ar, .int .i64 (max o.num (-1)), .bool false] 31)).alloc (.cells #[.slice none 0 0, .int .i64 0, .int .i64 0, .int .i64 0, .bool false] 31)).alloc (.cells (bl z64).toArray 37)).alloc (.cells (bl z64).toArray 37)) q c S { d with fl := decide (0 ≤ o.num), fn := o.num } ops ar (max o.num (-1)) false) := ⟨d6a.holds, d6a.low, ⟨htw.out.secs.same rfl rfl, htw.out.ops, htw.out.dead, fun hx => ⟨(htw.out.fuse hx).1, fz_max.symm⟩⟩⟩
  obtain ⟨w2, hw2⟩ : ∃ w2, ((((w.alloc (.cells #[.int .i64 o.kind, .int .i64 o.pos, .int .i64 o.num, .int .u8 o.byte, o.kv] 35)).alloc (.cells #[.slice q S.length c, .int .i64 ops, .int .i64 ar, .int .i64 (max o.num (-1)), .bool false] 31)).alloc (.cells #[.slice none 0 0, .int .i64 0, .int .i64 0, .int .i64 0, .bool false] 31)).alloc (.cells (bl z64).toArray 37)).alloc (.cells (bl z64).toArray 37) = w2 := ⟨_, rfl⟩
  rw [hw2] at t6 d6 ⊢
  clear hw2 ck c4 hsz0 t0 d0 d6a cn c3 f3 hd'
  refine wp_region_held (S := fun W => RowV 31 W (w.heap.size + 1) [.slice q S.length c, .int .i64 ops, .int .i64 ar, .int .i64 (max o.num (-1)), .bool false] ∧ RowV 37 W (w.heap.size + 1 + 1 + 1 + 1) (bl z64)) (by kernel_rfl) ?_
  change wpAnyH _ _ _ _ _ _ _ _ (World.drew w2)
  have xA := t6.out.stay (below_drewN w2 1)
  have yA := d6.out.below (below_drewN w2 1)
  have hS : RowV 31 (World.drew w2) (w.heap.size + 1) [.slice q S.length c, .int .i64 ops, .int .i64 ar, .int .i64 (max o.num (-1)), .bool false] ∧ RowV 37 (World.drew w2) (w.heap.size + 1 + 1 + 1 + 1) (bl z64) := ⟨xA.d, xA.z⟩
  refine held_take (i := 0) (dst := some 63) rfl rfl (by kernel_rfl) (by kernel_rfl) (by kernel_rfl) (fun _ _ _ h => h) (y_load_agg 31 (.tmp 3) rfl rfl rfl (fun W hW => load_d5 hW.1)) hS ?_
  go_frame
  refine held_take (i := 1) (dst := some 64) rfl rfl (by kernel_rfl) (by kernel_rfl) (by kernel_rfl) (fun _ _ _ h => h) (y_load_agg 37 (.tmp 7) rfl rfl rfl (fun W hW => load_blk hW.2 z64_len)) hS ?_
  go_frame
  refine held_take (i := 2) (dst := some 65) rfl rfl (by kernel_rfl) (by kernel_rfl) (by kernel_rfl) (fun _ _ _ h => h) (y_move (.tmp 8) rfl rfl rfl) hS ?_
  go_frame
  obtain ⟨wB, hstB, hB, hgB⟩ := run_storeVar_at (P := Try.prog) (ty := 31) xA.r (size31b (.slice q S.length c) (.int .i64 ops) (.int .i64 ar) (.int .i64 (max o.num (-1))) (.bool false)) (fit31 _ _ _ _ _ _ _ _ _ _) (one31 q S.length c ops ar (max o.num (-1)) false)
  rw [d5_splice] at hB
  have xB := xA.putR hB hgB
  have yB := yA.far f0.out hgB ⟨by omega, by omega⟩
  refine held_skip (i := 3) (dst := none) (w' := wB) rfl rfl (by kernel_rfl) rfl (run_store_op rfl rfl rfl hstB) ⟨xB.d, xB.z⟩ ?_
  go_frame
  obtain ⟨wC, hstC, hC, hgC⟩ := run_storeVar_at (P := Try.prog) (ty := 37) xB.b (bl_size z64_len) (bl_fits z64_len z64_len) (bl_one z64)
  rw [bl_splice z64_len z64_len] at hC
  have xC := xB.putB hC hgC
  have yC := yB.far f0.out hgC ⟨by omega, by omega⟩
  refine held_skip (i := 4) (dst := none) (w' := wC) rfl rfl (by kernel_rfl) rfl (run_store_op rfl rfl rfl hstC) ⟨xC.d, xC.z⟩ ?_
  go_frame
  refine held_value (i := 5) (dst := some 6) (w' := wC) (v := .int .i64 0) rfl rfl (by kernel_rfl) rfl (by go_simp) ⟨xC.d, xC.z⟩ ?_
  go_frame
  refine wpAnyH_done (by kernel_rfl) ?_ _
  go_wp2
  refine bodyPost_ret (results_disk_blk_tmp (r := 4) (s := 5) (u := 6) Try.results14 _ _ (w.heap.size + 1 + 1) (w.heap.size + 1 + 1 + 1) _ _ _ _ _ (bl z64) ⟨by rw [bl_len, z64_len], bl_one z64⟩ rfl xC.r rfl xC.b _ rfl) rfl ?_
  exact ⟨q, c, S, ops, ar, (max o.num (-1)), false, rfl, yC, xC.below, .inl rfl⟩

end Go.Proofs.Ytnjandmlhncapaa
