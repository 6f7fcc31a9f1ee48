/- laidNext: the mark of the next entry, and the function that tells its sectors. -/
import Derived.Test.YtjhnagipagkhiaaGreatRRg
namespace Go.Proofs.YtjhnagipagkhiaaGreat
open Go.RowKit

section
variable {P : Program} {ops : Array Oper} {Q : Exit → Act → World → Prop} {md : Region.Mode} {S : World → Prop}
/-- two may come up -/
theorem held_two {i j fuel : Nat} {listed : Array Bool} {a : Act} {w : World} (hr : Region.ready md ops listed = [i, j])
    (hi : wpOp P ops Q i (fun a' w' => S w' ∧ wpAnyH P md ops Q S fuel (listed.setIfInBounds i true) a' w') a w)
    (hj : wpOp P ops Q j (fun a' w' => S w' ∧ wpAnyH P md ops Q S fuel (listed.setIfInBounds j true) a' w') a w) : wpAnyH P md ops Q S (fuel + 1) listed a w := by
  refine wpAnyH_all hr (by simp) (fun k hk => ?_)
  rcases List.mem_cons.1 hk with rfl | hk
  · exact hi
  · rw [List.mem_singleton.1 hk]; exact hj
theorem op_call {i : Nat} {o : Oper} {dst : Option Tmp} (hd : o.dst = dst) {K : Act → World → Prop} {a : Act} {w : World} {f : FuncId} {args : Array Value} {R : Ending → World → Prop} (hi : ops[i]? = some o) (hw : Region.wanted o (yielded ops a.tmps) = true)
    (hrun : (execOp a.eval o).run P w = .ok (.enter f args) w) (hc : Calls P f args w R) (h : ∀ e w', R e w' → ∃ v, e = .returned v ∧ K (a.put dst v) w') : wpOp P ops Q i K a w := by
  subst hd
  unfold wpOp
  simp only [hi, hw, if_true]
  refine .inl ?_
  unfold Oper.wp
  rw [hrun, Oper.upon_enter]
  refine hc.mono fun e w' he => ?_
  obtain ⟨v, rfl, h1⟩ := h e w' he
  exact h1
theorem op_value {i : Nat} {o : Oper} {dst : Option Tmp} (hd : o.dst = dst) {K : Act → World → Prop} {a : Act} {w w' : World} {v : Value} (hi : ops[i]? = some o) (hw : Region.wanted o (yielded ops a.tmps) = true)
    (hrun : (execOp a.eval o).run P w = .ok (.value v) w') (h : K (a.put dst v) w') : wpOp P ops Q i K a w := by
  subst hd
  unfold wpOp
  simp only [hi, hw, if_true]
  refine .inl ?_
  unfold Oper.wp
  rw [hrun, Oper.upon_value]
  exact h
end

structure LnS (w : World) (rg rB eB : Nat) (x : RgV) (en : Value) (entry : List UInt8) (W : World) : Prop where
  r : RowV 39 W rB [.pointer (some ⟨rg, 0, none⟩)]
  e : RowV 30 W eB [en]
  g : RgAt W rg x
  v : Lib.HoldsBytes W en entry
  b : Below w.heap.size w W
theorem LnS.below {w W W' : World} {rg rB eB : Nat} {x : RgV} {en : Value} {entry : List UInt8} (h : LnS w rg rB eB x en entry W) (hb : Below W.heap.size W W') : LnS w rg rB eB x en entry W' :=
  ⟨h.r.below hb, h.e.below hb, RowV.below h.g hb, holds_below h.v hb (Nat.le_refl _), h.b.trans (hb.mono h.b.size)⟩

theorem run_store_op {P : Program} {o : Oper} {a : Act} {w w' : World} {ty : TypeId} {x y : Operand} {ad : Addr} {v : Value} (ho : o.op = .store ty x y) (hx : a.eval x = .pointer (some ad)) (hy : a.eval y = v) (h : (storeVar ty ad v).run P w = .ok () w') : (execOp a.eval o).run P w = .ok .skip w' := by
  subst hy
  unfold execOp
  simp only [ho, hx, Instr.storeAt, Instr.sureAddr, Sem.run_bind, Sem.run_pure, Result.andThen_ok, h]
theorem one_mark (a b : Nat) (c : Nat) : ∀ v ∈ mkL a b c, v.oneCell' = true := by
  intro v hv
  simp only [mkL, List.mem_cons, List.not_mem_nil, or_false] at hv
  rcases hv with rfl | rfl | rfl <;> rfl

set_option maxRecDepth 100000 in
set_option maxHeartbeats 2000000 in
theorem laidNext_any (rg : Nat) (x : RgV) (q : Option Addr) (c : Nat) (entry : List UInt8) (w : World) (h : RgAt w rg x) (hv : Lib.HoldsBytes w (.slice q entry.length c) entry) (h1 : x.first < 1099511627776) (h2 : x.el < 1099511627776) :
    Calls Tryz.prog 57 #[.pointer (some ⟨rg, 0, none⟩), .slice q entry.length c] w (fun e w' => ∃ mB rB eB, e = .returned (.func (.func 85) #[] #[.pointer (some ⟨mB, 0, none⟩), .pointer (some ⟨rB, 0, none⟩), .pointer (some ⟨eB, 0, none⟩)]) ∧
      NxR mB rB eB rg (mkL x.turn (x.first + x.el) entry.length) (.slice q entry.length c) entry x.cells w' ∧ Below w.heap.size w w' ∧ w.heap.size ≤ mB ∧ w.heap.size ≤ rB ∧ w.heap.size ≤ eB) := by
  obtain ⟨n, hn⟩ : ∃ n, entry.length = n := ⟨_, rfl⟩
  obtain ⟨w2, hw2⟩ : ∃ w2, (w.alloc (.cells #[.pointer (some ⟨rg, 0, none⟩)] 39)).alloc (.cells #[.slice q n c] 30) = w2 := ⟨_, rfl⟩
  rw [hn] at hv ⊢
  have hb2 : Below w.heap.size w w2 := by rw [← hw2]; exact ((Below.refl _ _).alloc (Nat.le_refl _) _).alloc (by simp) _
  have hz2 : w2.heap.size = w.heap.size + 2 := by rw [← hw2]; simp
  have hS2 : LnS w rg w.heap.size (w.heap.size + 1) x (.slice q n c) entry w2 := by
    refine ⟨?_, ?_, RowV.below h hb2, holds_below hv hb2 (Nat.le_refl _), hb2⟩
    · rw [← hw2]; exact (RowV.made w [.pointer (some ⟨rg, 0, none⟩)]).block (heap_alloc_old _ _ (by simp))
    · rw [← hw2]
      have h := RowV.made (T := 30) (w.alloc (.cells #[.pointer (some ⟨rg, 0, none⟩)] 39)) [.slice q n c]
      rw [World.size_alloc] at h
      exact h
  have hrl := RowV.lt h
  go_enter Tryz.func57, Tryz.ntmps57
  go_wp2
  try rw [hw2]
  clear hw2
  refine wp_region_held (S := LnS w rg w.heap.size (w.heap.size + 1) x (.slice q n c) entry) (by kernel_rfl) ?_
  change wpAnyH _ _ _ _ _ _ _ _ (World.drew w2)
  have hS := hS2.below ((Below.refl _ _).drew)
  refine held_take (i := 0) (dst := some 6) (v := .pointer (some ⟨rg, 0, none⟩)) rfl rfl (by kernel_rfl) (by kernel_rfl) (by kernel_rfl) (fun _ _ _ h => h) (.inl ⟨rfl, fun W hW => by have c1 : W.cell? ⟨w.heap.size, 0, none⟩ = some (.pointer (some ⟨rg, 0, none⟩)) := (LnS.r hW).cell 0; go_simp⟩) hS ?_
  go_frame
  refine held_take (i := 1) (dst := some 7) (v := .pointer (some ⟨rg, 0, none⟩)) rfl rfl (by kernel_rfl) (by kernel_rfl) (by kernel_rfl) (fun _ _ _ h => h) (.inl ⟨rfl, fun W hW => by go_simp⟩) hS ?_
  go_frame
  refine held_take (i := 2) (dst := some 8) (v := .pointer (some ⟨rg, 0, none⟩)) rfl rfl (by kernel_rfl) (by kernel_rfl) (by kernel_rfl) (fun _ _ _ h => h) (.inl ⟨rfl, fun W hW => by go_simp⟩) hS ?_
  go_frame
  refine held_take (i := 3) (dst := some 9) (v := .pointer (some ⟨rg, 0, none⟩)) rfl rfl (by kernel_rfl) (by kernel_rfl) (by kernel_rfl) (fun _ _ _ h => h) (.inl ⟨rfl, fun W hW => by go_simp⟩) hS ?_
  go_frame
  refine held_take (i := 4) (dst := some 10) (v := .int .u32 x.turn) rfl rfl (by kernel_rfl) (by kernel_rfl) (by kernel_rfl) (fun _ _ _ h => h) (.inl ⟨rfl, fun W hW => by have c1 : W.cell? ⟨rg, 0, none⟩ = some (.int .u32 x.turn) := (LnS.g hW).cell 0; go_simp⟩) hS ?_
  go_frame
  refine held_take (i := 5) (dst := some 11) (v := .pointer (some ⟨rg, 0, none⟩)) rfl rfl (by kernel_rfl) (by kernel_rfl) (by kernel_rfl) (fun _ _ _ h => h) (.inl ⟨rfl, fun W hW => by have c1 : W.cell? ⟨w.heap.size, 0, none⟩ = some (.pointer (some ⟨rg, 0, none⟩)) := (LnS.r hW).cell 0; go_simp⟩) hS ?_
  go_frame
  refine held_take (i := 7) (dst := some 13) (v := .slice q n c) rfl rfl (by kernel_rfl) (by kernel_rfl) (by kernel_rfl) (fun _ _ _ h => h) (.inl ⟨rfl, fun W hW => by have c1 : W.cell? ⟨w.heap.size + 1, 0, none⟩ = some (.slice q n c) := (LnS.e hW).cell 0; go_simp⟩) hS ?_
  go_frame
  refine held_take (i := 8) (dst := some 14) (v := .int .i64 n) rfl rfl (by kernel_rfl) (by kernel_rfl) (by kernel_rfl) (fun _ _ _ h => h) (.inl ⟨rfl, fun W hW => by go_simp⟩) hS ?_
  go_frame
  have zr : ∀ u : World, LnS w rg w.heap.size (w.heap.size + 1) x (.slice q n c) entry u → LnS w rg w.heap.size (w.heap.size + 1) x (.slice q n c) entry (u.alloc (.cells #[.int .u32 0, .int .u64 0, .int .i64 0] 129)) := fun u hu => hu.below ((Below.refl _ _).alloc (Nat.le_refl _) _)
  have hnx := fun u hu => nextNum_any rg x u (LnS.g (w := w) (rB := w.heap.size) (eB := w.heap.size + 1) (en := .slice q n c) (entry := entry) hu) h1 h2
  refine held_two (i := 6) (j := 10) (by kernel_rfl) ?_ ?_
  · refine op_call (dst := some 12) rfl rfl rfl (by go_simp) (hnx _ hS) ?_
    rintro e w' ⟨rfl, hb⟩
    have hS' := hS.below hb
    have hm1 : Hid (RowV 129 (w'.alloc (.cells #[.int .u32 0, .int .u64 0, .int .i64 0] 129)) w'.heap.size [.int .u32 0, .int .u64 0, .int .i64 0]) := RowV.made w' _
    have hS1 := Lib.hid (zr _ hS')
    have hg : w.heap.size + 2 ≤ w'.heap.size := by have := hb.size; have : w2.drew.heap.size = w2.heap.size := rfl; omega
    refine ⟨_, rfl, hS', ?_⟩
    go_frame
    refine held_take (i := 9) (dst := some 15) (v := .agg (mkL x.turn (x.first + x.el) n).toArray) rfl rfl (by kernel_rfl) (by kernel_rfl) (by kernel_rfl) (fun _ _ _ h => h) (.inl ⟨rfl, fun W hW => by go_simp⟩) hS' ?_
    go_frame
    refine held_value (i := 10) (dst := some 5) (v := .pointer (some ⟨w'.heap.size, 0, none⟩)) (w' := w'.alloc (.cells #[.int .u32 0, .int .u64 0, .int .i64 0] 129)) rfl rfl (by kernel_rfl) rfl (by go_simp) (zr _ hS') ?_
    go_frame
    obtain ⟨w7, hst, h7, hg7⟩ := run_storeVar_at (P := Tryz.prog) (ty := 129) (o := 0) (vs := mkL x.turn (x.first + x.el) n) hm1.out (size_mark x.turn (x.first + x.el) n) (Nat.le_refl 3) (one_mark _ _ _)
    have e7 : splice [.int .u32 0, .int .u64 0, .int .i64 0] 0 (mkL x.turn (x.first + x.el) n) = mkL x.turn (x.first + x.el) n := rfl
    rw [e7] at h7
    have hlt := hm1.out.lt
    have hb7 : Below w.heap.size w w7 := hS1.out.b.grown hg7 hS1.out.b.size (fun k e => by cases e; omega)
    have hS7 : LnS w rg w.heap.size (w.heap.size + 1) x (.slice q n c) entry w7 :=
      ⟨hS1.out.r.kept hg7 (by omega), hS1.out.e.kept hg7 (by omega), RowV.kept hS1.out.g hg7 (by omega), holds_below hv hb7 (Nat.le_refl _), hb7⟩
    refine held_skip (i := 11) (dst := none) (w' := w7) rfl rfl (by kernel_rfl) rfl (run_store_op rfl rfl rfl hst) hS7 ?_
    go_frame
    refine wpAnyH_done (by kernel_rfl) ?_ _
    go_wp2
    go_ret
    exact ⟨_, w.heap.size, w.heap.size + 1, rfl, ⟨h7, hS7.r, hS7.e, hS7.v, hS7.g⟩, hS7.b, by omega, by omega, by omega⟩

  · refine op_value (dst := some 5) (v := .pointer (some ⟨w2.drew.heap.size, 0, none⟩)) (w' := w2.drew.alloc (.cells #[.int .u32 0, .int .u64 0, .int .i64 0] 129)) rfl rfl rfl (by go_simp) ⟨zr _ hS, ?_⟩
    go_frame
    refine held_call (i := 6) (dst := some 12) rfl rfl (by kernel_rfl) rfl (by go_simp) (hnx _ (zr _ hS)) ?_
    rintro e w' ⟨rfl, hb⟩
    have hS1 := Lib.hid ((zr _ hS).below hb)
    have hm1 : Hid (RowV 129 w' w2.drew.heap.size [.int .u32 0, .int .u64 0, .int .i64 0]) := (RowV.made w2.drew [.int .u32 0, .int .u64 0, .int .i64 0]).below hb
    refine ⟨_, rfl, hS1.out, ?_⟩
    go_frame
    refine held_take (i := 9) (dst := some 15) (v := .agg (mkL x.turn (x.first + x.el) n).toArray) rfl rfl (by kernel_rfl) (by kernel_rfl) (by kernel_rfl) (fun _ _ _ h => h) (.inl ⟨rfl, fun W hW => by go_simp⟩) hS1.out ?_
    go_frame
    have hg : w.heap.size + 2 ≤ w2.drew.heap.size := by have : w2.drew.heap.size = w2.heap.size := rfl; omega
    obtain ⟨w7, hst, h7, hg7⟩ := run_storeVar_at (P := Tryz.prog) (ty := 129) (o := 0) (vs := mkL x.turn (x.first + x.el) n) hm1.out (size_mark x.turn (x.first + x.el) n) (Nat.le_refl 3) (one_mark _ _ _)
    have e7 : splice [.int .u32 0, .int .u64 0, .int .i64 0] 0 (mkL x.turn (x.first + x.el) n) = mkL x.turn (x.first + x.el) n := rfl
    rw [e7] at h7
    have hlt := hm1.out.lt
    have hb7 : Below w.heap.size w w7 := hS1.out.b.grown hg7 hS1.out.b.size (fun k e => by cases e; omega)
    have hS7 : LnS w rg w.heap.size (w.heap.size + 1) x (.slice q n c) entry w7 :=
      ⟨hS1.out.r.kept hg7 (by omega), hS1.out.e.kept hg7 (by omega), RowV.kept hS1.out.g hg7 (by omega), holds_below hv hb7 (Nat.le_refl _), hb7⟩
    refine held_skip (i := 11) (dst := none) (w' := w7) rfl rfl (by kernel_rfl) rfl (run_store_op rfl rfl rfl hst) hS7 ?_
    go_frame
    refine wpAnyH_done (by kernel_rfl) ?_ _
    go_wp2
    go_ret
    have hz3 : w2.drew.heap.size = w.heap.size + 2 := hz2
    rw [hz3] at h7
    exact ⟨_, w.heap.size, w.heap.size + 1, rfl, ⟨h7, hS7.r, hS7.e, hS7.v, hS7.g⟩, hS7.b, by omega, by omega, by omega⟩


end Go.Proofs.YtjhnagipagkhiaaGreat
