/- (Op).wants, by its contract: Read, Sync. -/
import Derived.Test.YtnjandmlhncapaaRefPe
import Derived.Test.YtnjandmlhncapaaStops0
namespace Go.Proofs.Ytnjandmlhncapaa
open Go.RowKit

/-- the call's own variables: the operation, the disk, what it returns, a block -/
structure WaRel (w wr : World) (o : OpV) (D R B : List Value) : Prop where
  below : Below w.heap.size w wr
  op : RowV 35 wr w.heap.size o.cells
  d : RowV 31 wr (w.heap.size + 1) D
  r : RowV 31 wr (w.heap.size + 1 + 1) R
  b : RowV 37 wr (w.heap.size + 1 + 1 + 1) B
  z : RowV 37 wr (w.heap.size + 1 + 1 + 1 + 1) (bl z64)

abbrev waW (w : World) (o : OpV) (D : List Value) : World := ((((w.alloc (.cells o.cells.toArray 35)).alloc (.cells D.toArray 31)).alloc (.cells (dL none 0 0 0 0 0 false).toArray 31)).alloc (.cells (bl z64).toArray 37)).alloc (.cells (bl z64).toArray 37)
theorem WaRel.start (w : World) (o : OpV) (D : List Value) : WaRel w (waW w o D) o D (dL none 0 0 0 0 0 false) (bl z64) := by
  unfold waW
  have b1 : Below w.heap.size w (waW w o D) := (((((Below.refl _ _).alloc (Nat.le_refl _) _).alloc (by simp) _).alloc (by simp <;> omega) _).alloc (by simp <;> omega) _).alloc (by simp <;> omega) _
  refine ⟨b1, ?_, ?_, ?_, ?_, ?_⟩
  · exact ((((RowV.made w o.cells).block (heap_alloc_old _ _ (by simp))).block (heap_alloc_old _ _ (by simp <;> omega))).block (heap_alloc_old _ _ (by simp <;> omega))).block (heap_alloc_old _ _ (by simp <;> omega))
  · have h := (RowV.made (T := 31) (w.alloc (.cells o.cells.toArray 35)) D)
    rw [World.size_alloc] at h
    exact ((h.block (heap_alloc_old _ _ (by simp))).block (heap_alloc_old _ _ (by simp <;> omega))).block (heap_alloc_old _ _ (by simp <;> omega))
  · have h := (RowV.made (T := 31) ((w.alloc (.cells o.cells.toArray 35)).alloc (.cells D.toArray 31)) (dL none 0 0 0 0 0 false))
    rw [World.size_alloc, World.size_alloc] at h
    exact (h.block (heap_alloc_old _ _ (by simp <;> omega))).block (heap_alloc_old _ _ (by simp <;> omega))
  · have h := (RowV.made (T := 37) (((w.alloc (.cells o.cells.toArray 35)).alloc (.cells D.toArray 31)).alloc (.cells (dL none 0 0 0 0 0 false).toArray 31)) (bl z64))
    rw [World.size_alloc, World.size_alloc, World.size_alloc] at h
    exact h.block (heap_alloc_old _ _ (by simp <;> omega))
  · have h := (RowV.made (T := 37) ((((w.alloc (.cells o.cells.toArray 35)).alloc (.cells D.toArray 31)).alloc (.cells (dL none 0 0 0 0 0 false).toArray 31)).alloc (.cells (bl z64).toArray 37)) (bl z64))
    rw [World.size_alloc, World.size_alloc, World.size_alloc, World.size_alloc] at h
    exact h
theorem WaRel.putD {w wr w' : World} {o : OpV} {D R B D' : List Value} (h : WaRel w wr o D R B) (hr : RowV 31 w' (w.heap.size + 1) D') (hg : wr.grownBy w' (some (w.heap.size + 1))) : WaRel w w' o D' R B :=
  ⟨h.below.grown hg h.below.size (fun k e => by cases e; omega), h.op.kept hg (by omega), hr, h.r.kept hg (by omega), h.b.kept hg (by omega), h.z.kept hg (by omega)⟩
theorem WaRel.putR {w wr w' : World} {o : OpV} {D R B R' : List Value} (h : WaRel w wr o D R B) (hr : RowV 31 w' (w.heap.size + 1 + 1) R') (hg : wr.grownBy w' (some (w.heap.size + 1 + 1))) : WaRel w w' o D R' B :=
  ⟨h.below.grown hg h.below.size (fun k e => by cases e; omega), h.op.kept hg (by omega), h.d.kept hg (by omega), hr, h.b.kept hg (by omega), h.z.kept hg (by omega)⟩
theorem WaRel.putB {w wr w' : World} {o : OpV} {D R B B' : List Value} (h : WaRel w wr o D R B) (hr : RowV 37 w' (w.heap.size + 1 + 1 + 1) B') (hg : wr.grownBy w' (some (w.heap.size + 1 + 1 + 1))) : WaRel w w' o D R B' :=
  ⟨h.below.grown hg h.below.size (fun k e => by cases e; omega), h.op.kept hg (by omega), h.d.kept hg (by omega), h.r.kept hg (by omega), hr, h.z.kept hg (by omega)⟩
theorem WaRel.stay {w wr w' : World} {o : OpV} {D R B : List Value} (h : WaRel w wr o D R B) (hg : Below wr.heap.size wr w') : WaRel w w' o D R B :=
  ⟨h.below.trans (hg.mono h.below.size), h.op.below hg, h.d.below hg, h.r.below hg, h.b.below hg, h.z.below hg⟩

/-- where the sectors of a disk may lie: not among the call's own five variables -/
def Far (w : World) (q : Option Addr) : Prop := ∀ a, q = some a → a.block < w.heap.size ∨ w.heap.size + 5 ≤ a.block
theorem Far.of {w u : World} {q q' : Option Addr} (h : ∀ a, q = some a → a.block < w.heap.size) (hu : w.heap.size + 5 ≤ u.heap.size) (hf : q' = q ∨ ∀ a, q' = some a → u.heap.size ≤ a.block) : Far w q' := by
  intro a ha
  rcases hf with rfl | hf
  · exact .inl (h a ha)
  · exact .inr (Nat.le_trans hu (hf a ha))
theorem Far.post {w u : World} {q q' : Option Addr} (hu : w.heap.size ≤ u.heap.size) (hf : q' = q ∨ ∀ a, q' = some a → u.heap.size ≤ a.block) : q' = q ∨ ∀ a, q' = some a → w.heap.size ≤ a.block := hf.imp id (fun h a ha => Nat.le_trans hu (h a ha))
theorem Doc.far {w wr w' : World} {q : Option Addr} {c : Nat} {S : List Sc} {d : Dk} {ops ar fl : Int} {dead : Bool} {k : Nat} (h : Doc wr q c S d ops ar fl dead) (hf : Far w q) (hg : wr.grownBy w' (some k)) (hk : w.heap.size ≤ k ∧ k < w.heap.size + 5) : Doc w' q c S d ops ar fl dead :=
  h.kept (fun a ha => hg.block _ (h.low a ha) (fun e => by have := Option.some.inj e; have := hf a ha; omega)) hg.size

set_option maxRecDepth 100000 in
set_option maxHeartbeats 4000000 in
theorem wants_read {w : World} {q : Option Addr} {c : Nat} {S : List Sc} {d : Dk} {ops ar fl : Int} {dead : Bool} (hd : Doc w q c S d ops ar fl dead) (hR : Room d) (o : OpV) (hk : kd o = 4) :
    Calls Try.prog 14 #[.agg o.cells.toArray, .agg #[.slice q S.length c, .int .i64 ops, .int .i64 ar, .int .i64 fl, .bool dead]] w (DocPost w q (rdRes d o.pos).2 (fun v => .returned (.tuple #[v, agg (rdRes d o.pos).1.1, .int .i64 (rdRes d o.pos).1.2]))) := by
  have hlb : ((rdRes d o.pos).1.1).length = 64 := rd_len hR.good o.pos
  obtain ⟨n, hn⟩ : ∃ n, S.length = n := ⟨_, rfl⟩
  have hcl : ∀ u, Below w.heap.size w u → Calls Try.prog 35 #[.agg #[.slice q n c, .int .i64 ops, .int .i64 ar, .int .i64 fl, .bool dead], .int .i64 o.pos] u (DocPost u q (rdRes d o.pos).2 (fun v => .returned (.tuple #[v, agg (rdRes d o.pos).1.1, .int .i64 (rdRes d o.pos).1.2]))) := fun u hu => by
    rw [← hn]; exact read_doc (hd.below hu) hR o.pos
  obtain ⟨r, hr⟩ : ∃ r, rdRes d o.pos = r := ⟨_, rfl⟩
  rw [hr] at hcl hlb ⊢
  rw [hn]
  have t0 := Lib.hid (WaRel.start w o (dL q n c ops ar fl dead))
  have hlow := Lib.hid hd.low
  have hcl' := Lib.hid hcl
  have ck := t0.out.op.cell 0
  have cp := t0.out.op.cell 1
  have hsz0 : Hid (w.heap.size + 5 ≤ (waW w o (dL q n c ops ar fl dead)).heap.size) := by
    show _ ≤ _
    unfold waW
    simp [World.size_alloc]
  unfold waW at t0 ck cp hsz0
  unfold OpV.cells at ck cp t0 hsz0 ⊢
  simp only [List.getElem?_cons_zero, List.getElem?_cons_succ] at ck cp
  have hk4 : (IntKind.u64.wrap o.kind).tmod 9 = 4 := by rw [kd_eq, hk]
  clear hcl hd hk hn
  go_enter Try.func14, Try.ntmps14
  go_wp2_with (first
    | ((with_reducible refine wpList_alloc_z rfl 37 rfl alloc37z ?_)
       try simp only [World.size_alloc])
    | (with_reducible refine wpList_load_at rfl 31 (.tmp 3) rfl Try.underlying31 rfl (vs := dL q n c ops ar fl dead) (size31b _ _ _ _ _) rfl (t0.out.d.part (o := 0) (pre := []) (rest := []) (part31 _) rfl) ?_)
    | (go_at_call 35; refine (hcl'.out _ t0.out.below).mono ?_; rintro e w5 ⟨q5, c5, S5, ops5, ar5, fl5, dead5, rfl, hd5, hb5, hf5⟩
       have t5 := Lib.hid (t0.out.stay hb5)
       have d5 := Lib.hid hd5
       have f5 := Lib.hid (Far.of hlow.out hsz0.out hf5)
       have g5 := Lib.hid (Far.post t0.out.below.size hf5)
       clear hd5 hb5 hf5)
    | ((with_reducible refine wpList_store_at rfl 31 (.tmp 4) (.tmp 31) rfl (o := 0) rfl rfl t5.out.r (size31b _ _ _ _ _) (fit31 _ _ _ _ _ _ _ _ _ _) (one31 q5 S5.length c5 ops5 ar5 fl5 dead5) ?_)
       intro w6 h6 hg6
       rw [d5_splice] at h6
       have t6 := Lib.hid (t5.out.putR h6 hg6)
       have d6 := Lib.hid (d5.out.far f5.out hg6 ⟨by omega, by omega⟩)
       clear h6 hg6)
    | ((with_reducible refine wpList_store_at rfl 37 (.tmp 5) (.tmp 32) rfl (o := 0) rfl rfl t6.out.b (bl_size hlb) (bl_fits hlb z64_len) (bl_one r.1.1) ?_)
       intro w7 h7 hg7
       rw [bl_splice hlb z64_len] at h7
       have t7 := Lib.hid (t6.out.putB h7 hg7)
       have d7 := Lib.hid (d6.out.far f5.out hg7 ⟨by omega, by omega⟩)
       clear h7 hg7)
    | (refine bodyPost_ret (results_disk_blk_tmp (r := 4) (s := 5) (u := 6) Try.results14 _ _ (w.heap.size + 1 + 1) (w.heap.size + 1 + 1 + 1) _ _ _ _ _ (bl r.1.1) ⟨by rw [bl_len, hlb], bl_one r.1.1⟩ rfl t7.out.r rfl t7.out.b _ rfl) rfl ?_))
  exact ⟨q5, c5, S5, ops5, ar5, fl5, dead5, rfl, d7.out, t7.out.below, g5.out⟩

end Go.Proofs.Ytnjandmlhncapaa
