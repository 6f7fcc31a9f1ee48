/- Crash (bursaryref02), by its contract. -/
import Derived.Test.YtnjandmlhncapaaRefSy
namespace Go.Proofs.Ytnjandmlhncapaa
open Go.RowKit

set_option maxRecDepth 100000 in
set_option maxHeartbeats 4000000 in
theorem rcrash_any (q : Option Addr) (c : Nat) (ops armed failing : Int) (dd : Bool) (kq : Option Addr) (kc : Nat) (ks : List Bool) (S : List Sc) (w : World) (hv : HoldsE w (.slice q S.length c) (S.map Sc.cells)) (hS : ∀ s ∈ S, s.Ok) (hn : S.length ≤ 4096) (hk : KeepW w (.slice kq ks.length kc) ks) :
    Calls Try.prog 18 #[.agg #[.slice q S.length c, .int .i64 ops, .int .i64 armed, .int .i64 failing, .bool dd], .slice kq ks.length kc] w (StPost w S.length (stl (kept false ks) 0 S) ops (-1) (-1) false) := by
  have hst : ∀ u : World, Below w.heap.size w u → Calls Try.prog 44 #[.agg #[.slice q S.length c, .int .i64 ops, .int .i64 armed, .int .i64 failing, .bool dd], .bool false, .slice kq ks.length kc] u (StPost u S.length (stl (kept false ks) 0 S) ops armed failing dd) := fun u hu =>
    settled_any q c ops armed failing dd false kq kc ks S u (holdsE_below hv hu (Nat.le_refl _)) hS hn (hk.below hu (Nat.le_refl _))
  obtain ⟨n, hnS⟩ : ∃ n, S.length = n := ⟨_, rfl⟩
  obtain ⟨kl, hkl⟩ : ∃ kl, ks.length = kl := ⟨_, rfl⟩
  rw [hnS, hkl] at hst ⊢
  have hst' := Lib.hid hst
  have t0 := Lib.hid (YRel.start w (dL q n c ops armed failing dd) (dL none 0 0 0 0 0 false))
  clear hst hv hS hn hnS hk hkl
  go_enter Try.func18, Try.ntmps18
  go_wp2_with (first
    | (go_at_call 44; refine (hst'.out _ t0.out.below).mono ?_; rintro e w6 ⟨q6, c6, rfl, ho6, hb6⟩
       have t6 := Lib.hid (t0.out.stay hb6)
       have o6 := Lib.hid ho6
       clear hb6 ho6)
    | (with_reducible refine wpList_load_at rfl 31 (.tmp 2) rfl Try.underlying31 rfl (vs := dL q6 n c6 ops (-1) (-1) false) (size31b _ _ _ _ _) rfl (xA.out.d.part (o := 0) (pre := []) (rest := []) (part31 _) rfl) ?_)
    | (with_reducible refine wpList_load_at rfl 31 (.tmp 2) rfl Try.underlying31 rfl (vs := dL q n c ops armed failing dd) (size31b _ _ _ _ _) rfl (t0.out.d.part (o := 0) (pre := []) (rest := []) (part31 _) rfl) ?_)
    | ((with_reducible refine wpList_store_at rfl 31 (.tmp 2) (.tmp 7) rfl (o := 0) rfl rfl t6.out.d (size31b _ _ _ _ _) (fit31 _ _ _ _ _ _ _ _ _ _) (one31 q6 n c6 ops armed failing dd) ?_)
       intro w7 h7 hg7
       rw [d5_splice] at h7
       have t7 := t6.out.putD h7 hg7
       have d7 : w7.cell? ⟨w.heap.size, 4, none⟩ = some (.bool dd) := t7.d.cell 4
       have f7 := t7.d.free 4
       have t8 : YRel w (w7.setCell ⟨w.heap.size, 4, none⟩ (.bool false)) (dL q6 n c6 ops armed failing false) (dL none 0 0 0 0 0 false) := t7.putD (t7.d.set 4 (.bool false)) (setCell_grown w7 w.heap.size 4 (.bool false))
       have d8 : (w7.setCell ⟨w.heap.size, 4, none⟩ (.bool false)).cell? ⟨w.heap.size, 2, none⟩ = some (.int .i64 armed) := t8.d.cell 2
       have f8 := t8.d.free 2
       have t9 : YRel w ((w7.setCell ⟨w.heap.size, 4, none⟩ (.bool false)).setCell ⟨w.heap.size, 2, none⟩ (.int .i64 (-1))) (dL q6 n c6 ops (-1) failing false) (dL none 0 0 0 0 0 false) := t8.putD (t8.d.set 2 (.int .i64 (-1))) (setCell_grown _ w.heap.size 2 (.int .i64 (-1)))
       have d9 : ((w7.setCell ⟨w.heap.size, 4, none⟩ (.bool false)).setCell ⟨w.heap.size, 2, none⟩ (.int .i64 (-1))).cell? ⟨w.heap.size, 3, none⟩ = some (.int .i64 failing) := t9.d.cell 3
       have f9 := t9.d.free 3
       have tA : YRel w (((w7.setCell ⟨w.heap.size, 4, none⟩ (.bool false)).setCell ⟨w.heap.size, 2, none⟩ (.int .i64 (-1))).setCell ⟨w.heap.size, 3, none⟩ (.int .i64 (-1))) (dL q6 n c6 ops (-1) (-1) false) (dL none 0 0 0 0 0 false) := t9.putD (t9.d.set 3 (.int .i64 (-1))) (setCell_grown _ w.heap.size 3 (.int .i64 (-1)))
       have xA := Lib.hid tA
       have hl6 := t0.out.r.lt
       have far : ∀ {u u' : World}, OwnE 47 129 u ((w.alloc (.cells (dL q n c ops armed failing dd).toArray 31)).alloc (.cells (dL none 0 0 0 0 0 false).toArray 31)).heap.size (.slice q6 n c6) ((stl (kept false ks) 0 S).map Sc.cells) → u.grownBy u' (some w.heap.size) → OwnE 47 129 u' ((w.alloc (.cells (dL q n c ops armed failing dd).toArray 31)).alloc (.cells (dL none 0 0 0 0 0 false).toArray 31)).heap.size (.slice q6 n c6) ((stl (kept false ks) 0 S).map Sc.cells) := fun {u u'} ho hg =>
         ho.kept fun a ha => hg.block _ (ho.holds.2.2 a ha).2 (fun e => by
           have := Option.some.inj e
           have := (ho.holds.2.2 a ha).1
           omega)
       have oA := Lib.hid (far (far (far (far o6.out hg7) (setCell_grown w7 w.heap.size 4 (.bool false))) (setCell_grown _ w.heap.size 2 (.int .i64 (-1)))) (setCell_grown _ w.heap.size 3 (.int .i64 (-1))))
       clear h7 hg7 t7 t8 t9 tA far)
    | ((with_reducible refine wpList_store_at rfl 31 (.tmp 4) (.tmp 11) rfl (o := 0) rfl rfl xA.out.r (size31b _ _ _ _ _) (fit31 _ _ _ _ _ _ _ _ _ _) (one31 q6 n c6 ops (-1) (-1) false) ?_)
       intro wB hB hgB
       rw [d5_splice] at hB)
    | (refine bodyPost_ret (results_cell_row (P := Try.prog) Try.results18 _ _ (w.heap.size + 1) 31 #[.slice q6 n c6, .int .i64 ops, .int .i64 (-1), .int .i64 (-1), .bool false] (0, 0) _ rfl hB Try.underlying31 rfl size31) rfl ?_))
  exact ⟨q6, c6, rfl, (oA.out.kept fun a ha => hgB.block _ (oA.out.holds.2.2 a ha).2 (fun e => by
    have := Option.some.inj e
    have := (oA.out.holds.2.2 a ha).1
    omega)).lower (by omega), (xA.out.putR hB hgB).below⟩

end Go.Proofs.Ytnjandmlhncapaa
