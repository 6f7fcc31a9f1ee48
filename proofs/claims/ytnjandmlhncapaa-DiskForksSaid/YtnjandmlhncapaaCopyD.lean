/- The contract of Copy: a disk that is the same, in memory of its own. -/
import Derived.Test.YtnjandmlhncapaaBlkEq
import Derived.Lib.SliceRun
namespace Go.Proofs.Ytnjandmlhncapaa
open Go.RowKit

set_option maxRecDepth 100000 in
set_option maxHeartbeats 1000000 in
theorem cloneB_any (h n c : Nat) (L : List (List Value)) (w : World) (hv : OwnE 37 64 w 0 (.slice (some ⟨h, 0, none⟩) n c) L) (h1 : 1 ≤ n) (hn : n ≤ 2048) :
    Calls Try.prog 38 #[.slice (some ⟨h, 0, none⟩) n c] w (fun e w' => ∃ h' c', e = .returned (.slice (some ⟨h', 0, none⟩) n c') ∧ w.heap.size ≤ h' ∧ OwnE 37 64 w' w.heap.size (.slice (some ⟨h', 0, none⟩) n c') L ∧ Below w.heap.size w w') := by
  have hL := Lib.hid hv.holds.1
  have hE := Lib.hid hv.2
  have hb0 : Hid (Below w.heap.size w (w.alloc (.cells #[] 37))) := (Below.refl _ _).alloc (Nat.le_refl _) _
  have ho0 : Hid (OwnE 37 64 (w.alloc (.cells #[] 37)) w.heap.size (.slice (some ⟨w.heap.size, 0, none⟩) 0 0) []) := OwnE.empty (Nat.le_refl _)
  have hz : (agg z64).cells.size = 64 := by rfl
  have hq := fun u : World => Lib.run_eql_slice_nil (P := Try.prog) u 56 37 (some ⟨h, 0, none⟩) n c 0 0 Try.underlying56
  clear hv
  go_enter Try.func38, Try.ntmps38
  go_wp2_with (refine wpList_append_elems Try.underlying56 info37 hz (by decide) rfl (.tmp 5) (.tmp 6) rfl rfl rfl ho0.out (holdsE_below hL.out hb0.out (Nat.le_refl _)) hE.out (by omega) (by omega) (by simp) ?_; intro q' c' w' ho hg)
  rw [Nat.zero_add, List.nil_append] at ho
  go_ret
  obtain ⟨q2, c2, he⟩ := ho.shape
  have hq : ∃ h', q' = some ⟨h', 0, none⟩ := by
    obtain ⟨⟨_, ⟨he, h0⟩ | ⟨g, cap, cur, he, _⟩⟩, _⟩ := ho
    · simp only [Value.slice.injEq] at he; omega
    · simp only [Value.slice.injEq] at he; exact ⟨g, he.1⟩
  obtain ⟨h', rfl⟩ := hq
  refine ⟨h', c', rfl, (ho.holds.2.2 _ rfl).1, ho, ?_⟩
  exact hb0.out.grown hg (by simp) (fun j e => by unfold blockOf at e; cases e; exact Nat.le_refl _)

theorem cloneM_any (b cn : Nat) (f : Int → Option Value) (w : World) (h : IMap .i64 w b cn f) :
    Calls Try.prog 39 #[.map (some b)] w (fun e w' => e = .returned (.map (some w.heap.size)) ∧ IMap .i64 w' w.heap.size cn f ∧ Below w.heap.size w w') := by
  obtain ⟨es, clock, hb, hr⟩ := h
  refine (AnyW.maps_Clone Try.cloneA b es clock w hb).mono ?_
  rintro e w' ⟨rfl, rfl⟩
  exact ⟨rfl, ⟨es, clock, heap_alloc_new _ _, hr⟩, (Below.refl _ _).alloc (Nat.le_refl _) _⟩

set_option maxRecDepth 100000 in
set_option maxHeartbeats 2000000 in
theorem copy_any (p : Pl) (d : Dk) (w : World) (k : At w p d) :
    Calls Try.prog 15 #[ptr p] w (fun e w' => ∃ p2, e = .returned (ptr p2) ∧ At w' p2 d ∧ Below w.heap.size w w' ∧ ∀ x ∈ p2.L, w.heap.size ≤ x) := by
  have hk := Lib.hid k
  have hlt : p.g < w.heap.size ∧ p.h < w.heap.size ∧ p.m < w.heap.size := ⟨k.glt, k.hlt, k.mlt⟩
  have c0 : w.cell? ⟨p.g, 0, none⟩ = some (.slice (some ⟨p.h, 0, none⟩) d.held.length p.c) := k.row.cell 0
  have c1 : w.cell? ⟨p.g, 1, none⟩ = some (.map (some p.m)) := k.row.cell 1
  have c2 : w.cell? ⟨p.g, 2, none⟩ = some (.int .i64 d.ops) := k.row.cell 2
  have c3 : w.cell? ⟨p.g, 3, none⟩ = some (.bool d.dead) := k.row.cell 3
  have c4 : w.cell? ⟨p.g, 4, none⟩ = some (.bool d.al) := k.row.cell 4
  have c5 : w.cell? ⟨p.g, 5, none⟩ = some (.int .i64 d.an) := k.row.cell 5
  have c6 : w.cell? ⟨p.g, 6, none⟩ = some (.bool d.fl) := k.row.cell 6
  have c7 : w.cell? ⟨p.g, 7, none⟩ = some (.int .i64 d.fn) := k.row.cell 7
  have hb0 : Hid (Below w.heap.size w (w.alloc (.cells (dkL p d).toArray 76))) := (Below.refl _ _).alloc (Nat.le_refl _) _
  have r0 : Hid (RowV 76 (w.alloc (.cells (dkL p d).toArray 76)) w.heap.size (dkL p d)) := RowV.made w _
  have hne : ¬ w.heap.size = p.g := by omega
  clear k
  go_enter Try.func15, Try.ntmps15
  go_wp2_with fail
  clear c0 c2 c3 c4 c5 c6 c7
  refine (cloneB_any p.h d.held.length p.c (d.held.map bl) _ (hk.out.own.kept (fun a ha => hb0.out.block _ (hk.out.own.holds.2.2 a ha).2)) hk.out.good.pos hk.out.good.n).mono ?_
  rintro e w2 ⟨h2, n2, rfl, hh2, ho2, hb⟩
  have hs1 : w.heap.size < w2.heap.size := by have := hb.size; rw [World.size_alloc] at this; omega
  have r2 := Lib.hid (r0.out.below hb)
  have hb2 := Lib.hid (hb0.out.trans (hb.mono (by simp)))
  have g1 : w2.cell? ⟨p.g, 1, none⟩ = some (.map (some p.m)) := by rw [hb2.out.cell (p := ⟨p.g, 1, none⟩) hlt.1]; exact c1
  have g0 : w2.cell? ⟨w.heap.size, 0, none⟩ = some (.slice (some ⟨p.h, 0, none⟩) d.held.length p.c) := r2.out.cell 0
  have f0 : w2.frozen? ⟨w.heap.size, 0, none⟩ = false := r2.out.free 0
  have r3 := Lib.hid (r2.out.set 0 (.slice (some ⟨h2, 0, none⟩) d.held.length n2))
  have hb3 := Lib.hid (hb2.out.setCell (p := ⟨w.heap.size, 0, none⟩) (Nat.le_refl _) (.slice (some ⟨h2, 0, none⟩) d.held.length n2))
  have hh2' : w.heap.size < h2 := by rw [World.size_alloc] at hh2; omega
  have ho3 : Hid (OwnE 37 64 (w2.setCell ⟨w.heap.size, 0, none⟩ (.slice (some ⟨h2, 0, none⟩) d.held.length n2)) 0 (.slice (some ⟨h2, 0, none⟩) d.held.length n2) (d.held.map bl)) :=
    (ho2.lower (Nat.zero_le _)).kept (fun a ha => by cases ha; exact Below.heap_setCell _ _ _ _ (by show h2 ≠ w.heap.size; omega))
  clear hb hh2 ho2 c1
  go_wp2_with fail
  clear g0 g1 f0
  obtain ⟨cn, hm⟩ := hk.out.map
  refine (cloneM_any p.m cn _ _ (hm.block (hb3.out.block _ hlt.2.2))).mono ?_
  rintro e w4 ⟨rfl, hm4, hb⟩
  have hz : (w2.setCell ⟨w.heap.size, 0, none⟩ (.slice (some ⟨h2, 0, none⟩) d.held.length n2)).heap.size = w2.heap.size := by simp [World.setCell]
  rw [hz] at hm4 ⊢
  have r4 := Lib.hid (r3.out.below hb)
  have hb4 := Lib.hid (hb3.out.trans (hb.mono (by rw [hz]; omega)))
  have ho4 := Lib.hid (ho3.out.below hb)
  have hm4' := Lib.hid hm4
  have hs4 : w2.heap.size < w4.heap.size := hm4.lt
  have hl2 : h2 < w2.heap.size := by have := (ho3.out.holds.2.2 _ rfl).2; rw [hz] at this; exact this
  have f1 : w4.frozen? ⟨w.heap.size, 1, none⟩ = false := r4.out.free 1
  have g1 : w4.cell? ⟨w.heap.size, 1, none⟩ = some (.map (some p.m)) := r4.out.cell 1
  have r5 := Lib.hid (r4.out.set 1 (.map (some w2.heap.size)))
  have hb5 := Lib.hid (hb4.out.setCell (p := ⟨w.heap.size, 1, none⟩) (Nat.le_refl _) (.map (some w2.heap.size)))
  have ho5 := Lib.hid (ho4.out.kept (w' := w4.setCell ⟨w.heap.size, 1, none⟩ (.map (some w2.heap.size))) (fun a ha => by cases ha; exact Below.heap_setCell _ _ _ _ (by show h2 ≠ w.heap.size; omega)))
  have hm5 := Lib.hid (hm4'.out.block (w' := w4.setCell ⟨w.heap.size, 1, none⟩ (.map (some w2.heap.size))) (Below.heap_setCell _ _ _ _ (by show w2.heap.size ≠ w.heap.size; omega)))
  clear hm hm4 hb
  go_wp2_with fail
  go_ret
  refine ⟨⟨w.heap.size, h2, w2.heap.size, n2⟩, rfl, ⟨hk.out.good, r5.out, ho5.out, cn, hm5.out⟩, hb5.out, fun x hx => ?_⟩
  simp only [Pl.L, List.mem_cons, List.not_mem_nil, or_false] at hx
  omega

end Go.Proofs.Ytnjandmlhncapaa
