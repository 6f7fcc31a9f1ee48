/- (Op).wants, by its contract: Crash. -/
import Derived.Test.YtnjandmlhncapaaWantB
import Derived.Test.YtnjandmlhncapaaPair
namespace Go.Proofs.Ytnjandmlhncapaa
open Go.RowKit

theorem run_load_op {P : Program} {o : Oper} {a : Act} {w : World} {ty : TypeId} {x : Operand} {ad : Addr} {v : Value} (ho : o.op = .load ty x) (hx : a.eval x = .pointer (some ad)) (h : (loadVar ty ad).run P w = .ok v w) : (execOp a.eval o).run P w = .ok (.value v) w := by
  unfold execOp
  simp only [ho, hx, Instr.loadAt, Instr.sureAddr, Sem.run_bind, Sem.run_pure, Result.andThen_ok, h]

set_option maxRecDepth 100000 in
set_option maxHeartbeats 4000000 in
theorem wants_crash {w : World} {q : Option Addr} {c : Nat} {S : List Sc} {d : Dk} {ops ar fl : Int} {dead : Bool} (hd : Doc w q c S d ops ar fl dead) (hG : Good d) (o : OpV) (ho : IsOp w o) (hk : kd o = 8) :
    Calls Try.prog 14 #[.agg o.cells.toArray, .agg #[.slice q S.length c, .int .i64 ops, .int .i64 ar, .int .i64 fl, .bool dead]] w (DocPost w q (crRes d (o.ks.take 60)) (fun v => .returned (.tuple #[v, agg z64, .int .i64 0]))) := by
  have t0 := Lib.hid (WaRel.start w o (dL q S.length c ops ar fl dead))
  have hlow := Lib.hid hd.low
  have ck := t0.out.op.cell 0
  have cn := t0.out.op.cell 2
  have c4 := t0.out.d.cell 4
  have hsz0 : Hid (w.heap.size + 5 ≤ (waW w o (dL q S.length c ops ar fl dead)).heap.size) := by
    show _ ≤ _
    unfold waW
    simp [World.size_alloc]
  have d0 := Lib.hid (hd.below t0.out.below)
  have f0 := Lib.hid (Far.of hlow.out hsz0.out (.inl rfl))
  have f2 := t0.out.d.free 2
  have f3 := t0.out.d.free 3
  have c2 := t0.out.d.cell 2
  have c3 := t0.out.d.cell 3
  unfold waW at t0 ck cn c4 hsz0 d0 f2 f3 c2 c3
  unfold OpV.cells at ck cn c4 t0 hsz0 d0 f2 f3 c2 c3 ⊢
  simp only [List.getElem?_cons_zero, List.getElem?_cons_succ] at ck cn c4 c2 c3
  have hk4 : (IntKind.u64.wrap o.kind).tmod 9 = 8 := by rw [kd_eq, hk]
  clear hk
  have hop0 := Lib.hid ho
  clear hd ho c2 c3 f2 f3 cn c4
  go_enter Try.func14, Try.ntmps14
  go_wp2_with (first
    | ((with_reducible refine wpList_alloc_z rfl 37 rfl alloc37z ?_)
       try simp only [World.size_alloc]))
  obtain ⟨w2, hw2⟩ : ∃ w2, ((((w.alloc (.cells #[.int .i64 o.kind, .int .i64 o.pos, .int .i64 o.num, .int .u8 o.byte, o.kv] 35)).alloc (.cells #[.slice q S.length c, .int .i64 ops, .int .i64 ar, .int .i64 fl, .bool dead] 31)).alloc (.cells #[.slice none 0 0, .int .i64 0, .int .i64 0, .int .i64 0, .bool false] 31)).alloc (.cells (bl z64).toArray 37)).alloc (.cells (bl z64).toArray 37) = w2 := ⟨_, rfl⟩
  change Hid (WaRel w (((((w.alloc (.cells #[.int .i64 o.kind, .int .i64 o.pos, .int .i64 o.num, .int .u8 o.byte, o.kv] 35)).alloc (.cells #[.slice q S.length c, .int .i64 ops, .int .i64 ar, .int .i64 fl, .bool dead] 31)).alloc (.cells #[.slice none 0 0, .int .i64 0, .int .i64 0, .int .i64 0, .bool false] 31)).alloc (.cells (bl z64).toArray 37)).alloc (.cells (bl z64).toArray 37)) o _ _ _) at t0
  change Hid (Doc (((((w.alloc (.cells #[.int .i64 o.kind, .int .i64 o.pos, .int .i64 o.num, .int .u8 o.byte, o.kv] 35)).alloc (.cells #[.slice q S.length c, .int .i64 ops, .int .i64 ar, .int .i64 fl, .bool dead] 31)).alloc (.cells #[.slice none 0 0, .int .i64 0, .int .i64 0, .int .i64 0, .bool false] 31)).alloc (.cells (bl z64).toArray 37)).alloc (.cells (bl z64).toArray 37)) _ _ _ _ _ _ _ _) at d0
  change Hid (w.heap.size + 5 ≤ (((((w.alloc (.cells #[.int .i64 o.kind, .int .i64 o.pos, .int .i64 o.num, .int .u8 o.byte, o.kv] 35)).alloc (.cells #[.slice q S.length c, .int .i64 ops, .int .i64 ar, .int .i64 fl, .bool dead] 31)).alloc (.cells #[.slice none 0 0, .int .i64 0, .int .i64 0, .int .i64 0, .bool false] 31)).alloc (.cells (bl z64).toArray 37)).alloc (.cells (bl z64).toArray 37)).heap.size) at hsz0
  rw [hw2] at t0 d0 hsz0 ⊢
  clear hw2 ck
  refine wp_region_held (S := fun W => RowV 35 W w.heap.size o.cells) (by kernel_rfl) ?_
  change wpAnyH _ _ _ _ _ _ _ _ (World.drew w2)
  have t1 := Lib.hid (t0.out.stay (below_drewN w2 1))
  have d1 := Lib.hid (d0.out.below (below_drewN w2 1))
  have hS : RowV 35 w2.drew w.heap.size o.cells := t1.out.op
  have hz1 : Hid (w.heap.size + 5 ≤ w2.drew.heap.size) := hsz0.out
  have hop1 := Lib.hid (hop0.out.below t1.out.below (Nat.le_refl _))
  refine held_take (i := 1) (dst := some 60) rfl rfl (by kernel_rfl) (by kernel_rfl) (by kernel_rfl) (fun _ _ _ h => h) (y_load_agg 35 (.tmp 2) rfl rfl rfl (fun W hW => load_op hW)) hS ?_
  go_frame
  refine held_pair2 (i := 2) (j := 0) (di := some 61) (dj := some 59) (Z := fun v u W => (∃ kq kc, v = .slice kq (o.ks.take 60).length kc ∧ KeepW W (.slice kq (o.ks.take 60).length kc) (o.ks.take 60) ∧ w2.drew.heap.size ≤ W.heap.size) ∧ u = .agg #[.slice q S.length c, .int .i64 ops, .int .i64 ar, .int .i64 fl, .bool dead] ∧ Hid (WaRel w W o (dL q S.length c ops ar fl dead) (dL none 0 0 0 0 0 false) (bl z64)) ∧ Hid (Doc W q c S d ops ar fl dead)) rfl rfl rfl rfl (by kernel_rfl) (by kernel_rfl) (by kernel_rfl) (by kernel_rfl) rfl rfl (fun _ => rfl) (fun _ => rfl) (fun _ _ => rfl) (by go_simp) (keep_any o _ hop1.out) ?_ ?_ ?_
  · rintro e w' ⟨v, rfl, hb, hkp⟩
    have hkw := (hkp [] (fun x hx => by simp at hx)).toW (by unfold maxLen; rw [List.length_take]; omega)
    obtain ⟨kq, kc, rfl, _⟩ := id hkw
    have t2 := Lib.hid (t1.out.stay hb)
    exact ⟨_, .agg #[.slice q S.length c, .int .i64 ops, .int .i64 ar, .int .i64 fl, .bool dead], w', rfl, t2.out.op, run_load_op rfl rfl (load_d5 t2.out.d), t2.out.op, ⟨kq, kc, rfl, hkw, hb.size⟩, rfl, t2, Lib.hid (d1.out.below hb)⟩
  · refine ⟨.agg #[.slice q S.length c, .int .i64 ops, .int .i64 ar, .int .i64 fl, .bool dead], w2.drew, _, run_load_op rfl rfl (load_d5 t1.out.d), t1.out.op, by go_simp, keep_any o _ hop1.out, ?_⟩
    rintro e w' ⟨v, rfl, hb, hkp⟩
    have hkw := (hkp [] (fun x hx => by simp at hx)).toW (by unfold maxLen; rw [List.length_take]; omega)
    obtain ⟨kq, kc, rfl, _⟩ := id hkw
    have t2 := Lib.hid (t1.out.stay hb)
    exact ⟨_, rfl, t2.out.op, ⟨kq, kc, rfl, hkw, hb.size⟩, rfl, t2, Lib.hid (d1.out.below hb)⟩
  rintro v u W ⟨⟨kq, kc, rfl, hkw, hbs⟩, rfl, t2, d2⟩
  go_frame
  have hzW : Hid (w.heap.size + 5 ≤ W.heap.size) := Nat.le_trans hz1.out hbs
  refine held_call (i := 3) (dst := some 62) rfl rfl (by kernel_rfl) rfl (by go_simp) (crash_doc d2.out hG hkw) ?_
  rintro e w5 ⟨q5, c5, S5, ops5, ar5, fl5, dead5, rfl, hd5, hb5, hf5⟩
  have t5 := Lib.hid (t2.out.stay hb5)
  have d5 := Lib.hid hd5
  have f5 := Lib.hid (Far.of hlow.out hzW.out hf5)
  have g5 := Lib.hid (Far.post t2.out.below.size hf5)
  refine ⟨_, rfl, t5.out.op, ?_⟩
  go_frame
  clear hd5 hb5 hf5 t0 d0 t1 d1 t2 d2 hS hop0 hop1 hkw
  obtain ⟨w6, hst6, h6, hg6⟩ := run_storeVar_at (P := Try.prog) (ty := 31) t5.out.d (size31b (.slice q5 S5.length c5) (.int .i64 ops5) (.int .i64 ar5) (.int .i64 fl5) (.bool dead5)) (fit31 _ _ _ _ _ _ _ _ _ _) (one31 q5 S5.length c5 ops5 ar5 fl5 dead5)
  rw [d5_splice] at h6
  have t6 := Lib.hid (t5.out.putD h6 hg6)
  have d6 := Lib.hid (d5.out.far f5.out hg6 ⟨by omega, by omega⟩)
  refine held_skip (i := 4) (dst := none) (w' := w6) rfl rfl (by kernel_rfl) rfl (run_store_op rfl rfl rfl hst6) t6.out.op ?_
  go_frame
  refine wpAnyH_done (by kernel_rfl) ?_ _
  go_wp2
  clear t5 d5 h6 hg6 hst6
  refine wp_region_held (S := fun W => RowV 31 W (w.heap.size + 1) [.slice q5 S5.length c5, .int .i64 ops5, .int .i64 ar5, .int .i64 fl5, .bool dead5] ∧ RowV 37 W (w.heap.size + 1 + 1 + 1 + 1) (bl z64)) (by kernel_rfl) ?_
  change wpAnyH _ _ _ _ _ _ _ _ (World.drew w6)
  have xA := t6.out.stay (below_drewN w6 1)
  have yA := d6.out.below (below_drewN w6 1)
  have hS : RowV 31 (World.drew w6) (w.heap.size + 1) [.slice q5 S5.length c5, .int .i64 ops5, .int .i64 ar5, .int .i64 fl5, .bool dead5] ∧ RowV 37 (World.drew w6) (w.heap.size + 1 + 1 + 1 + 1) (bl z64) := ⟨xA.d, xA.z⟩
  refine held_take (i := 0) (dst := some 63) rfl rfl (by kernel_rfl) (by kernel_rfl) (by kernel_rfl) (fun _ _ _ h => h) (y_load_agg 31 (.tmp 3) rfl rfl rfl (fun W hW => load_d5 hW.1)) hS ?_
  go_frame
  refine held_take (i := 1) (dst := some 64) rfl rfl (by kernel_rfl) (by kernel_rfl) (by kernel_rfl) (fun _ _ _ h => h) (y_load_agg 37 (.tmp 7) rfl rfl rfl (fun W hW => load_blk hW.2 z64_len)) hS ?_
  go_frame
  refine held_take (i := 2) (dst := some 65) rfl rfl (by kernel_rfl) (by kernel_rfl) (by kernel_rfl) (fun _ _ _ h => h) (y_move (.tmp 8) rfl rfl rfl) hS ?_
  go_frame
  obtain ⟨wB, hstB, hB, hgB⟩ := run_storeVar_at (P := Try.prog) (ty := 31) xA.r (size31b (.slice q5 S5.length c5) (.int .i64 ops5) (.int .i64 ar5) (.int .i64 fl5) (.bool dead5)) (fit31 _ _ _ _ _ _ _ _ _ _) (one31 q5 S5.length c5 ops5 ar5 fl5 dead5)
  rw [d5_splice] at hB
  have xB := xA.putR hB hgB
  have yB := yA.far f5.out hgB ⟨by omega, by omega⟩
  refine held_skip (i := 3) (dst := none) (w' := wB) rfl rfl (by kernel_rfl) rfl (run_store_op rfl rfl rfl hstB) ⟨xB.d, xB.z⟩ ?_
  go_frame
  obtain ⟨wC, hstC, hC, hgC⟩ := run_storeVar_at (P := Try.prog) (ty := 37) xB.b (bl_size z64_len) (bl_fits z64_len z64_len) (bl_one z64)
  rw [bl_splice z64_len z64_len] at hC
  have xC := xB.putB hC hgC
  have yC := yB.far f5.out hgC ⟨by omega, by omega⟩
  refine held_skip (i := 4) (dst := none) (w' := wC) rfl rfl (by kernel_rfl) rfl (run_store_op rfl rfl rfl hstC) ⟨xC.d, xC.z⟩ ?_
  go_frame
  refine held_value (i := 5) (dst := some 6) (w' := wC) (v := .int .i64 0) rfl rfl (by kernel_rfl) rfl (by go_simp) ⟨xC.d, xC.z⟩ ?_
  go_frame
  refine wpAnyH_done (by kernel_rfl) ?_ _
  go_wp2
  refine bodyPost_ret (results_disk_blk_tmp (r := 4) (s := 5) (u := 6) Try.results14 _ _ (w.heap.size + 1 + 1) (w.heap.size + 1 + 1 + 1) _ _ _ _ _ (bl z64) ⟨by rw [bl_len, z64_len], bl_one z64⟩ rfl xC.r rfl xC.b _ rfl) rfl ?_
  exact ⟨q5, c5, S5, ops5, ar5, fl5, dead5, rfl, yC, xC.below, g5.out⟩

end Go.Proofs.Ytnjandmlhncapaa
