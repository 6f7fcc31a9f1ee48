/- Pending: the sectors that are pending, in a new slice. -/
import Derived.Test.YtjhnagipagkhiaaGreatSettle
import Derived.RangeFuncBox
import Derived.Maps.AppendAt
namespace Go.Proofs.YtjhnagipagkhiaaGreat
open Go.RowKit Go.Maps Go.Sort Go.Shelf
attribute [local go_sem] Oper.semAt_some

theorem info3 : (Tryz.prog.info? 3).map (fun i => (i.zero, i.size, i.bytes)) = some (some (.int .i64 0), 1, 8) := by kernel_rfl

structure ApRel (w0 Wf W : World) (p : Pl) (d : Dk) (xs : List Int) : Prop where
  disk : At W p d
  box : ∃ v, RowV 34 W w0.heap.size [v] ∧ W.ownsRow Wf.heap.size 3 1 v xs.length (xs.map encZ)
  below : Below w0.heap.size w0 W

theorem ApRel.putObj {w0 Wf W : World} {p : Pl} {d : Dk} {xs : List Int} (h : ApRel w0 Wf W p d xs) (hk : p.g < w0.heap.size ∧ p.h < w0.heap.size ∧ p.m < w0.heap.size) {l : Nat} {o : Obj} (o' : Obj) (hl : w0.heap.size + 1 ≤ l) (ho : W.heap[l]? = some o) (hc : o.isCells = false) : ApRel w0 Wf (W.putObj l o') p d xs := by
  obtain ⟨v, h1, h2⟩ := h.box
  refine ⟨h.disk.block (World.putObj_heap_other (by omega)) (World.putObj_heap_other (by omega)) (World.putObj_heap_other (by omega)), ⟨v, h1.block (World.putObj_heap_other (by omega)), ownsRow_putObj h2 o' ho hc⟩, ?_⟩
  exact h.below.grown (grownBy_putObj' W l o') h.below.size (fun k e => by cases e; omega)

theorem ownsRow_cells {W : World} {base : Nat} {e : TypeId} {s : Nat} {v : Value} {n : Nat} {xs : List Value} (h : W.ownsRow base e s v n xs) : ∀ r, v.ownBlock = some r → base ≤ r ∧ r < W.heap.size ∧ ∃ o : Obj, W.heap[r]? = some o ∧ o.isCells = true := by
  intro r hr
  rcases h.2 with ⟨rfl, _⟩ | ⟨g, cap, cur, rfl, hg, hh, _⟩
  · cases hr
  · cases hr
    exact ⟨hg, (Array.getElem?_eq_some_iff.1 hh).1, _, hh, rfl⟩

set_option maxRecDepth 100000 in
set_option maxHeartbeats 2000000 in
theorem appendSeq_any (p : Pl) (d : Dk) (w : World) (k : At w p d) :
    Calls Tryz.prog 124 #[.slice none 0 0, .func (.func 70) #[ptr p] #[]] w (fun e w' => ∃ v, e = .returned v ∧ At w' p d ∧ w'.ownsRow w.heap.size 3 1 v d.pend.length (d.pend.map encZ) ∧ Below w.heap.size w w') := by
  refine (callsIn_wide (n := 10)).1 ?_
  obtain ⟨i0, hi, hz0, hz1, hz2⟩ := info_parts info3
  have hlt : p.g < w.heap.size ∧ p.h < w.heap.size ∧ p.m < w.heap.size := ⟨k.glt, k.hlt, k.mlt⟩
  have hb0 : Below w.heap.size w (w.alloc (.cells #[.slice none 0 0] 34)) := (Below.refl _ _).alloc (Nat.le_refl _) _
  have hk1 := Lib.hid (k.alloc (.cells #[.slice none 0 0] 34))
  have hr0 : Hid (RowV 34 (w.alloc (.cells #[.slice none 0 0] 34)) w.heap.size [.slice none 0 0]) := RowV.made w _
  have hbx := Lib.hid hb0
  have hlen := Nat.le_trans d.pend_len k.good.n
  clear k hb0
  refine callsIn_of_wp_marks Tryz.func124 rfl trivial ?_ rfl
  simp only [Tryz.ntmps124, List.size_toArray, List.length_cons, List.length_nil, Nat.reduceAdd, Nat.reduceSub, Array.replicate_succ, Array.replicate_zero, List.push_toArray, List.append_toArray, List.nil_append, List.cons_append]
  gi_wp2
  refine range_each (k := hk1.out) rfl rfl (fun Wf pre W => ApRel w Wf W p d pre)
    (fun Wf hb => ⟨hk1.out.below hb, ⟨_, hr0.out.below hb, ⟨rfl, .inl ⟨rfl, rfl⟩⟩⟩, hbx.out.trans (hb.mono (by simp))⟩)
    (fun _ _ _ _ _ o' hl _ _ ho hc h => h.putObj hlt o' (by simpa using hl) ho hc)
    (fun x => { tmps := #[.slice none 0 0, .func (.func 70) #[ptr p] #[], .pointer (some ⟨w.heap.size, 0, none⟩), undef, .slice none 0 0, .int .i64 x, .func (.func 70) #[ptr p] #[], .int .i64 x, undef, undef, undef, undef, undef], defers := [] }) ?assign ?body ?done
  case assign =>
    intro l x W K hK
    gi_wp2
    exact hK
  case body =>
    intro l Wf pre x post W hbf hwf hsp hI hle
    obtain ⟨v, hrow, hown⟩ := hI.box
    have hdk := Lib.hid hI.disk
    have hbl := Lib.hid hI.below
    have hown' := Lib.hid hown
    have hrow' := Lib.hid hrow
    have b0 : W.cell? ⟨w.heap.size, 0, none⟩ = some v := hrow.cell 0
    have hpl : pre.length < 2048 := by
      rw [hsp, List.length_append, List.length_cons] at hlen
      omega
    have hwfs : w.heap.size + 3 ≤ Wf.heap.size := by simpa using hwf
    clear hI hown hrow
    gi_wp2_with (
      gi_at_builtin
      refine wpListIn_append_own _ rfl _ _ 34 rfl Wf.heap.size 3 i0 (.int .i64 0) 1 8 Tryz.underlying34 hi hz0 hz1 hz2 rfl (by decide) _ _ _ rfl (hown'.out.alloc _) ⟨W.heap.size, 0, none⟩ 1 1 [encZ x] rfl rfl (cell_one_new _ _ _) (by simp [Value.oneCell']) (by unfold maxLen; omega) (by omega) (by simp; omega) ?_
      intro v' w3 hown3 hg3 _
      have hcells := ownsRow_cells (hown'.out.alloc (.cells #[encZ x] 3))
      have hrow3 : Hid (RowV 34 w3 w.heap.size [v]) := (hrow'.out.block (heap_alloc_old _ _ hrow'.out.lt)).block (hg3.block _ (by have := hrow'.out.lt; simp; omega) (fun e => by have := (hcells _ e.symm).1; omega))
      have hg3' := Lib.hid hg3
      obtain ⟨g', cap', rfl⟩ := ownsRow_succ hown3
      have hown3' := Lib.hid hown3
      have b3 : w3.cell? ⟨w.heap.size, 0, none⟩ = some v := hrow3.out.cell 0
      have f3 : w3.frozen? ⟨w.heap.size, 0, none⟩ = false := hrow3.out.free 0
      have hcl := Lib.hid hcells
      clear hown3 hg3 hcells)
    have hg3 : (W.alloc (.cells #[encZ x] 3)).grownBy w3 v.ownBlock := hg3'.out
    have hWs : w.heap.size < W.heap.size := hrow'.out.lt
    have hne : ∀ j, j < Wf.heap.size → some j ≠ v.ownBlock := fun j hj e => by have := (hcl.out j e.symm).1; omega
    have h3 : ∀ j, j < Wf.heap.size → w3.heap[j]? = W.heap[j]? := fun j hj => (hg3.block j (by simp; omega) (hne j hj)).trans (heap_alloc_old _ _ (by omega))
    have h4 : ∀ j, j ≠ w.heap.size → (w3.setCell ⟨w.heap.size, 0, none⟩ (.slice (some ⟨g', 0, none⟩) (pre.length + 1) cap')).heap[j]? = w3.heap[j]? := fun j hj => Below.heap_setCell _ _ _ _ (fun e => hj (by rw [e]))
    refine ⟨(((KeepsOthers.alloc _ _).trans (KeepsOthers.of_grownBy hg3 (fun j o e ho => ?_))).trans (KeepsOthers.setCell _ _ _)).from _, fun j h1 h2 => ?_, ⟨?_, ⟨_, hrow3.out.set 0 _, ?_⟩, ?_⟩⟩
    · obtain ⟨_, _, o', ho', hc⟩ := hcl.out j e
      rw [ho] at ho'; cases ho'; exact hc
    · rw [h4 j (by simp at h1; omega), h3 j h2]
    · refine hdk.out.block ?_ ?_ ?_
      · rw [h4 _ (by omega), h3 _ (by omega)]
      · rw [h4 _ (by omega), h3 _ (by omega)]
      · rw [h4 _ (by omega), h3 _ (by omega)]
    · have ho := hown3'.out.kept (setCell_grown w3 w.heap.size 0 (.slice (some ⟨g', 0, none⟩) (pre.length + 1) cap')) (.inr (fun e => by have := (ownsRow_cells hown3'.out _ e).1; omega))
      simpa using ho
    · exact ((hbl.out.alloc hbl.out.size _).grown hg3 (by simp; omega) (fun j e => by have := (hcl.out j e).1; omega)).setCell (p := ⟨w.heap.size, 0, none⟩) (Nat.le_refl _) _
  case done =>
    intro D Wf W hD hbf hI hKD hD1
    obtain ⟨v, hrow, hown⟩ := hI.box
    have hrow' := Lib.hid hrow
    have hown' := Lib.hid hown
    have b0 : W.cell? ⟨w.heap.size, 0, none⟩ = some v := hrow.cell 0
    have hI' := Lib.hid hI
    clear hI hown hrow
    gi_wp2
    have hD2 : w.heap.size + 1 ≤ D := by simpa using hD
    refine ⟨by simp, .inl ⟨_, _, rfl, run_takeDeferred hKD, ?_⟩⟩
    have hA := hI'.out.disk
    have hWf := hbf.size
    refine ⟨_, results_tmp rfl _ _ _, v, rfl, hA.block (World.putObj_heap_other (by omega)) (World.putObj_heap_other (by omega)) (World.putObj_heap_other (by omega)), ?_, ?_⟩
    · refine ownsRow_putObj (ownsRow_base_a hown'.out ?_) _ hKD rfl
      simp at hWf; omega
    · exact hI'.out.below.grown (grownBy_putObj' W D _) hI'.out.below.size (fun j e => by cases e; omega)

theorem collect_any (p : Pl) (d : Dk) (w : World) (k : At w p d) :
    Calls Tryz.prog 115 #[.func (.func 70) #[ptr p] #[]] w (fun e w' => ∃ v, e = .returned v ∧ At w' p d ∧ w'.ownsRow w.heap.size 3 1 v d.pend.length (d.pend.map encZ) ∧ Below w.heap.size w w') := by
  have hk := Lib.hid k
  clear k
  go_enter Tryz.func115, Tryz.ntmps115
  go_wp2_with (go_at_call 124; refine (appendSeq_any p d w hk.out).mono ?_; rintro e w' ⟨v, rfl, h⟩; have h' := Lib.hid h; clear h)
  go_ret
  exact ⟨v, rfl, h'.out⟩

end Go.Proofs.YtjhnagipagkhiaaGreat
