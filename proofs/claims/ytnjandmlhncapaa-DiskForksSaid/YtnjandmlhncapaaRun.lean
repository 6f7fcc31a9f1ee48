/- Op.run: what an operation does to a disk. -/
import Derived.Test.YtnjandmlhncapaaHelp
import Derived.Test.YtnjandmlhncapaaHeld
namespace Go.Proofs.Ytnjandmlhncapaa
open Go.RowKit

def kd (o : OpV) : Int := o.kind % 18446744073709551616 % 9
def rep (b : Int) : List Int := List.replicate 64 b
theorem rep_len (b : Int) : (rep b).length = 64 := by simp [rep]
theorem bl_rep (b : Int) : bl (rep b) = blk b := by simp [bl, rep, blk]
theorem kd_eq (o : OpV) : (IntKind.u64.wrap o.kind).tmod 9 = kd o := by
  rw [IntKind.wrap_u64, Int.tmod_eq_emod_of_nonneg (by omega)]; rfl
theorem kd_range (o : OpV) : 0 ≤ kd o ∧ kd o < 9 := by unfold kd; omega

def runRes (d : Dk) (o : OpV) : (List Int × Int) × Dk :=
  if kd o = 4 then rdRes d o.pos
  else if kd o = 5 then ((z64, (syRes d).1), (syRes d).2)
  else if kd o = 6 then ((z64, (armRes d o.num).1), (armRes d o.num).2)
  else if kd o = 7 then ((z64, (failRes d o.num).1), (failRes d o.num).2)
  else if kd o = 8 then ((z64, 0), crRes d (o.ks.take 60))
  else ((z64, (wrRes d o.pos (rep o.byte)).1), (wrRes d o.pos (rep o.byte)).2)

structure RunRel (w W : World) (p : Pl) (d : Dk) (o : OpV) : Prop where
  disk : At W p d
  op : RowV 35 W w.heap.size o.cells
  out : RowV 37 W (w.heap.size + 1) (bl z64)
  tch : Tch p.L w W
  arg : IsOp W o

theorem run_start (w : World) (p : Pl) (d : Dk) (o : OpV) (k : At w p d) (ho : IsOp w o) : RunRel w ((w.alloc (.cells o.cells.toArray 35)).alloc (.cells (bl z64).toArray 37)) p d o := by
  have hb : Below w.heap.size w ((w.alloc (.cells o.cells.toArray 35)).alloc (.cells (bl z64).toArray 37)) := ((Below.refl _ _).alloc (Nat.le_refl _) _).alloc (by simp) _
  refine ⟨k.below hb, (RowV.made w o.cells).block (heap_alloc_old _ _ (by simp)), ?_, Tch.of_below hb _, ho.below hb (Nat.le_refl _)⟩
  have h := RowV.made (T := 37) (w.alloc (.cells o.cells.toArray 35)) (bl z64)
  rw [World.size_alloc] at h
  exact h

theorem At.other {w w' : World} {p : Pl} {d : Dk} {j : Nat} (k : At w p d) (hg : w.grownBy w' (some j)) (hj : j ∉ p.L) : At w' p d := by
  have h1 : p.g ≠ j := fun e => hj (by rw [← e]; exact g_in p)
  have h2 : p.h ≠ j := fun e => hj (by rw [← e]; exact h_in p)
  have h3 : p.m ≠ j := fun e => hj (by rw [← e]; exact m_in p)
  exact k.block (hg.block _ k.glt (by simpa using h1)) (hg.block _ k.hlt (by simpa using h2)) (hg.block _ k.mlt (by simpa using h3))

theorem build37 (u : World) : (Instr.build 37 #[]).run Try.prog u = .ok (agg z64) u := by kernel_rfl
theorem y_build {ops : Array Oper} {S : World → Prop} {a : Act} {o : Oper} (ho : o.op = .build 37 #[]) (hw : Region.wanted o (yielded ops a.tmps) = true) : YieldsIf Try.prog ops S o (agg z64) a := by
  refine .inl ⟨hw, fun w _ => ?_⟩
  unfold execOp
  have hb := build37 w
  simp only [ho, List.map_toArray, List.map_nil, Sem.run_bind, hb, Result.andThen_ok, Sem.run_pure]
theorem wpList_build_z {ops : Array Oper} {rest : List Oper} {o : Oper} {a : Act} {w : World} {Q : Exit → Act → World → Prop} (hgd : o.guard = none) (ho : o.op = .build 37 #[])
    (h : wpList Try.prog ops Q rest (a.put o.dst (agg z64)) w) : wpList Try.prog ops Q (o :: rest) a w := by
  refine wpList_plain hgd fun K hK => ?_
  unfold Oper.wp execOp
  have hb := build37 w
  simp only [ho, List.map_toArray, List.map_nil, Sem.run_bind, hb, Result.andThen_ok, Sem.run_pure]
  exact hK _ _ h

set_option maxRecDepth 100000 in
set_option maxHeartbeats 2000000 in
theorem run_read (p : Pl) (d : Dk) (w : World) (k : At w p d) (o : OpV) (ho : IsOp w o) (hk : kd o = 4) (h0 : 0 ≤ d.ops) (h1 : d.ops < 4611686018427387904) :
    Calls Try.prog 13 #[.agg o.cells.toArray, ptr p] w (fun e w' => e = .returned (.tuple #[agg (rdRes d o.pos).1.1, .int .i64 (rdRes d o.pos).1.2]) ∧ At w' p (rdRes d o.pos).2 ∧ Tch p.L w w') := by
  have hrel := Lib.hid (run_start w p d o k ho)
  have ck := hrel.out.op.cell 0
  have cp := hrel.out.op.cell 1
  have hn1 := k.not_in (j := w.heap.size + 1) (by omega)
  have hcl := Lib.hid (read_any p d _ hrel.out.disk h0 h1 o.pos)
  have hlb : ((rdRes d o.pos).1.1).length = 64 := by
    unfold rdRes
    split
    · exact z64_len
    · split
      · exact z64_len
      · rename_i h2 _
        have := why_ok (Decidable.not_not.1 h2)
        exact Dk.says_len k.good this.2.1 this.2.2
  obtain ⟨r, hr⟩ : ∃ r, rdRes d o.pos = r := ⟨_, rfl⟩
  rw [hr] at hcl hlb ⊢
  unfold OpV.cells at ck cp hrel hcl ⊢
  simp only [List.getElem?_cons_zero, List.getElem?_cons_succ] at ck cp
  have hk4 : (IntKind.u64.wrap o.kind).tmod 9 = 4 := by rw [kd_eq, hk]
  clear k
  go_enter Try.func13, Try.ntmps13
  go_wp2_with (first
    | ((with_reducible refine wpList_alloc_z rfl 37 rfl alloc37z ?_)
       try simp only [World.size_alloc])
    | (go_at_call 19; refine hcl.out.mono ?_; clear hcl; rintro e w5 ⟨rfl, hA, hT⟩
       have k5 := Lib.hid hA
       have t5 := Lib.hid (hrel.out.tch.trans hT)
       have r5 := Lib.hid (hrel.out.out.tch hT hn1)
       clear hA hT)
    | ((with_reducible refine wpList_store_at rfl 37 (.tmp 4) (.tmp 16) rfl (o := 0) rfl rfl r5.out (bl_size hlb) (bl_fits hlb z64_len) (bl_one r.1.1) ?_)
       intro w6 h6 hg6
       rw [bl_splice hlb z64_len] at h6)
    | (refine bodyPost_ret (results_blk_tmp (r := 4) (u := 5) Try.results13 _ _ (w.heap.size + 1) r.1.1 hlb rfl h6 _ rfl) rfl ⟨rfl, ?_⟩))
  exact ⟨k5.out.other hg6 hn1, t5.out.grown hg6 (.inr (by omega))⟩

set_option maxRecDepth 100000 in
set_option maxHeartbeats 2000000 in
theorem run_sync (p : Pl) (d : Dk) (w : World) (k : At w p d) (o : OpV) (ho : IsOp w o) (hk : kd o = 5) (h0 : 0 ≤ d.ops) (h1 : d.ops < 4611686018427387904) :
    Calls Try.prog 13 #[.agg o.cells.toArray, ptr p] w (fun e w' => e = .returned (.tuple #[agg z64, .int .i64 (syRes d).1]) ∧ At w' p (syRes d).2 ∧ Tch p.L w w') := by
  have hrel := Lib.hid (run_start w p d o k ho)
  have ck := hrel.out.op.cell 0
  have cn := hrel.out.op.cell 2
  have hn1 := k.not_in (j := w.heap.size + 1) (by omega)
  have hcl := Lib.hid (sync_any p d _ hrel.out.disk h0 h1)
  obtain ⟨r, hr⟩ : ∃ r, syRes d = r := ⟨_, rfl⟩
  rw [hr] at hcl ⊢
  unfold OpV.cells at ck cn hrel hcl ⊢
  simp only [List.getElem?_cons_zero, List.getElem?_cons_succ] at ck cn
  have hk4 : (IntKind.u64.wrap o.kind).tmod 9 = 5 := by rw [kd_eq, hk]
  clear k hk
  go_enter Try.func13, Try.ntmps13
  go_wp2_with (first
    | ((with_reducible refine wpList_alloc_z rfl 37 rfl alloc37z ?_)
       try simp only [World.size_alloc])
    | (refine wpList_build_z rfl rfl ?_)
    | (go_at_call 27; refine hcl.out.mono ?_; clear hcl; rintro e w5 ⟨rfl, hA, hT⟩
       have k5 := Lib.hid hA
       have t5 := Lib.hid (hrel.out.tch.trans hT)
       have r5 := Lib.hid (hrel.out.out.tch hT hn1)
       clear hA hT)
    | ((with_reducible refine wpList_store_at rfl 37 (.tmp 4) (.tmp 20) rfl (o := 0) rfl rfl r5.out (bl_size z64_len) (bl_fits z64_len z64_len) (bl_one z64) ?_)
       intro w6 h6 hg6
       rw [bl_splice z64_len z64_len] at h6)
    | (refine bodyPost_ret (results_blk_tmp (r := 4) (u := 5) Try.results13 _ _ (w.heap.size + 1) z64 z64_len rfl h6 _ rfl) rfl ⟨rfl, ?_⟩))
  exact ⟨k5.out.other hg6 hn1, t5.out.grown hg6 (.inr (by omega))⟩

set_option maxRecDepth 100000 in
set_option maxHeartbeats 2000000 in
theorem run_arm (p : Pl) (d : Dk) (w : World) (k : At w p d) (o : OpV) (ho : IsOp w o) (hk : kd o = 6) :
    Calls Try.prog 13 #[.agg o.cells.toArray, ptr p] w (fun e w' => e = .returned (.tuple #[agg z64, .int .i64 (armRes d o.num).1]) ∧ At w' p (armRes d o.num).2 ∧ Tch p.L w w') := by
  have hrel := Lib.hid (run_start w p d o k ho)
  have ck := hrel.out.op.cell 0
  have cn := hrel.out.op.cell 2
  have hn1 := k.not_in (j := w.heap.size + 1) (by omega)
  have hcl := Lib.hid (arm_any p d _ hrel.out.disk o.num ho.num.2)
  obtain ⟨r, hr⟩ : ∃ r, armRes d o.num = r := ⟨_, rfl⟩
  rw [hr] at hcl ⊢
  unfold OpV.cells at ck cn hrel hcl ⊢
  simp only [List.getElem?_cons_zero, List.getElem?_cons_succ] at ck cn
  have hk4 : (IntKind.u64.wrap o.kind).tmod 9 = 6 := by rw [kd_eq, hk]
  clear k hk
  go_enter Try.func13, Try.ntmps13
  go_wp2_with (first
    | ((with_reducible refine wpList_alloc_z rfl 37 rfl alloc37z ?_)
       try simp only [World.size_alloc])
    | (refine wpList_build_z rfl rfl ?_)
    | (go_at_call 33; refine hcl.out.mono ?_; clear hcl; rintro e w5 ⟨rfl, hA, hT⟩
       have k5 := Lib.hid hA
       have t5 := Lib.hid (hrel.out.tch.trans hT)
       have r5 := Lib.hid (hrel.out.out.tch hT hn1)
       clear hA hT)
    | ((with_reducible refine wpList_store_at rfl 37 (.tmp 4) (.tmp 25) rfl (o := 0) rfl rfl r5.out (bl_size z64_len) (bl_fits z64_len z64_len) (bl_one z64) ?_)
       intro w6 h6 hg6
       rw [bl_splice z64_len z64_len] at h6)
    | (refine bodyPost_ret (results_blk_tmp (r := 4) (u := 5) Try.results13 _ _ (w.heap.size + 1) z64 z64_len rfl h6 _ rfl) rfl ⟨rfl, ?_⟩))
  exact ⟨k5.out.other hg6 hn1, t5.out.grown hg6 (.inr (by omega))⟩

set_option maxRecDepth 100000 in
set_option maxHeartbeats 2000000 in
theorem run_fail (p : Pl) (d : Dk) (w : World) (k : At w p d) (o : OpV) (ho : IsOp w o) (hk : kd o = 7) :
    Calls Try.prog 13 #[.agg o.cells.toArray, ptr p] w (fun e w' => e = .returned (.tuple #[agg z64, .int .i64 (failRes d o.num).1]) ∧ At w' p (failRes d o.num).2 ∧ Tch p.L w w') := by
  have hrel := Lib.hid (run_start w p d o k ho)
  have ck := hrel.out.op.cell 0
  have cn := hrel.out.op.cell 2
  have hn1 := k.not_in (j := w.heap.size + 1) (by omega)
  have hcl := Lib.hid (fail_any p d _ hrel.out.disk o.num ho.num.2)
  obtain ⟨r, hr⟩ : ∃ r, failRes d o.num = r := ⟨_, rfl⟩
  rw [hr] at hcl ⊢
  unfold OpV.cells at ck cn hrel hcl ⊢
  simp only [List.getElem?_cons_zero, List.getElem?_cons_succ] at ck cn
  have hk4 : (IntKind.u64.wrap o.kind).tmod 9 = 7 := by rw [kd_eq, hk]
  clear k hk
  go_enter Try.func13, Try.ntmps13
  go_wp2_with (first
    | ((with_reducible refine wpList_alloc_z rfl 37 rfl alloc37z ?_)
       try simp only [World.size_alloc])
    | (refine wpList_build_z rfl rfl ?_)
    | (go_at_call 34; refine hcl.out.mono ?_; clear hcl; rintro e w5 ⟨rfl, hA, hT⟩
       have k5 := Lib.hid hA
       have t5 := Lib.hid (hrel.out.tch.trans hT)
       have r5 := Lib.hid (hrel.out.out.tch hT hn1)
       clear hA hT)
    | ((with_reducible refine wpList_store_at rfl 37 (.tmp 4) (.tmp 32) rfl (o := 0) rfl rfl r5.out (bl_size z64_len) (bl_fits z64_len z64_len) (bl_one z64) ?_)
       intro w6 h6 hg6
       rw [bl_splice z64_len z64_len] at h6)
    | (refine bodyPost_ret (results_blk_tmp (r := 4) (u := 5) Try.results13 _ _ (w.heap.size + 1) z64 z64_len rfl h6 _ rfl) rfl ⟨rfl, ?_⟩))
  exact ⟨k5.out.other hg6 hn1, t5.out.grown hg6 (.inr (by omega))⟩

set_option maxRecDepth 100000 in
set_option maxHeartbeats 2000000 in
theorem run_crash (p : Pl) (d : Dk) (w : World) (k : At w p d) (o : OpV) (ho : IsOp w o) (hk : kd o = 8) :
    Calls Try.prog 13 #[.agg o.cells.toArray, ptr p] w (fun e w' => e = .returned (.tuple #[agg z64, .int .i64 0]) ∧ At w' p (crRes d (o.ks.take 60)) ∧ Tch p.L w w') := by
  have hrel := Lib.hid (run_start w p d o k ho)
  have ck := hrel.out.op.cell 0
  have hn1 := k.not_in (j := w.heap.size + 1) (by omega)
  have hkp := Lib.hid (keep_any o _ hrel.out.arg)
  have hLL : ∀ x ∈ p.L, x < ((w.alloc (.cells o.cells.toArray 35)).alloc (.cells (bl z64).toArray 37)).heap.size := by
    have h1 := hrel.out.disk.glt
    have h2 := hrel.out.disk.hlt
    have h3 := hrel.out.disk.mlt
    intro x hx
    simp only [Pl.L, List.mem_cons, List.not_mem_nil, or_false] at hx
    rcases hx with rfl | rfl | rfl
    · exact h1
    · exact h2
    · exact h3
  have hL0 := Lib.hid hLL
  unfold OpV.cells at ck hrel hkp hL0 ⊢
  simp only [List.getElem?_cons_zero] at ck
  have hk4 : (IntKind.u64.wrap o.kind).tmod 9 = 8 := by rw [kd_eq, hk]
  have hop := Lib.hid hrel.out.op
  unfold OpV.cells at hop
  have hsz : (Try.prog.info? 35).map (·.size) = some [Value.int .i64 o.kind, .int .i64 o.pos, .int .i64 o.num, .int .u8 o.byte, o.kv].length := by kernel_rfl
  clear k hk hLL
  go_enter Try.func13, Try.ntmps13
  go_wp2_with (first
    | ((with_reducible refine wpList_alloc_z rfl 37 rfl alloc37z ?_)
       try simp only [World.size_alloc])
    | (refine wpList_build_z rfl rfl ?_)
    | (with_reducible refine wpList_load_at rfl 35 (.tmp 2) rfl Try.underlying35 rfl hsz rfl (hop.out.part (o := 0) (pre := []) (rest := []) (by simp) rfl) ?_)
    | (go_at_call 32; refine hkp.out.mono ?_; clear hkp; rintro e w4 ⟨v4, rfl, hb4, hv4⟩
       have hb4' := Lib.hid hb4
       have hcl := Lib.hid (crash_any p d w4 (hrel.out.disk.below hb4) v4 (o.ks.take 60) (hv4 p.L hL0.out))
       clear hb4 hv4)
    | (go_at_call 17; refine hcl.out.mono ?_; clear hcl; rintro e w5 ⟨rfl, hA, hT⟩
       have k5 := Lib.hid hA
       have t5 := Lib.hid ((hrel.out.tch.trans (Tch.of_below hb4'.out _)).trans hT)
       have r5 := Lib.hid ((hrel.out.out.below hb4'.out).tch hT hn1)
       clear hA hT)
    | ((with_reducible refine wpList_store_at rfl 37 (.tmp 4) (.tmp 39) rfl (o := 0) rfl rfl r5.out (bl_size z64_len) (bl_fits z64_len z64_len) (bl_one z64) ?_)
       intro w6 h6 hg6
       rw [bl_splice z64_len z64_len] at h6)
    | (refine bodyPost_ret (results_blk_tmp (r := 4) (u := 5) Try.results13 _ _ (w.heap.size + 1) z64 z64_len rfl h6 _ rfl) rfl ⟨rfl, ?_⟩))
  exact ⟨k5.out.other hg6 hn1, t5.out.grown hg6 (.inr (by omega))⟩

end Go.Proofs.Ytnjandmlhncapaa
