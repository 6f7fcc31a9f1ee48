/- others of ideal: what of a request does not count of its Kind. -/
import Derived.Test.YtkdkncbccofpdaaQ08
namespace Go.Proofs.Ytkdkncbccofpdaa
open Go.RowKit
set_option maxRecDepth 100000
def othR (q : ReqD) : ReqD :=
 if q.k = 1 ∨ q.k = 4 then ⟨0, ⟨0, 0⟩, q.to, q.val, q.note, q.n⟩
 else if q.k = 2 then ⟨0, ⟨0, q.key.id⟩, q.to, q.val, q.note, q.n⟩
 else if q.k = 3 then ⟨0, ⟨0, 0⟩, q.to, 0, ⟨#[]⟩, q.n⟩
 else if q.k = 5 then ⟨0, ⟨0, 0⟩, q.to, q.val, ⟨#[]⟩, q.n⟩
 else if q.k = 6 ∨ q.k = 7 then ⟨0, ⟨0, 0⟩, q.to, 0, q.note, q.n⟩
 else if q.k = 8 then ⟨0, ⟨0, 0⟩, ⟨0, 0⟩, 0, q.note, q.n⟩
 else if q.k = 10 then ⟨0, q.key, q.to, q.val, q.note, 0⟩
 else ⟨0, q.key, q.to, q.val, q.note, q.n⟩
theorem bset {B : Nat} {w u : World} {g o : Nat} {v : Value} (h : Below B w u ∧ B ≤ u.heap.size) (hg : B ≤ g) : Below B w (u.setCell ⟨g, o, none⟩ v) ∧ B ≤ (u.setCell ⟨g, o, none⟩ v).heap.size :=
 ⟨h.1.grown (setCell_grown _ _ _ _) h.2 (fun k hk => by cases hk; exact hg), by rw [show (u.setCell ⟨g, o, none⟩ v).heap.size = u.heap.size by simp [World.setCell]]; exact h.2⟩
def OtPost (cs : List Value) (w : World) (e : Ending) (w' : World) : Prop := e = .returned (.agg cs.toArray) ∧ Below w.heap.size w w'
set_option maxHeartbeats 4000000 in
theorem oth_1 (kt ki tt ti qv : Int) (qs : ByteArray) (qn : Int) (w : World) :
 Calls Try.prog 59 #[.agg #[.int .i64 1, .int .i64 kt, .int .u16 ki, .int .i64 tt, .int .u16 ti, .int .i64 qv, .string qs, .int .i64 qn]] w (OtPost (othR ⟨1, ⟨kt, ki⟩, ⟨tt, ti⟩, qv, qs, qn⟩).cells w) := by
 obtain ⟨W, hW⟩ : ∃ W, (w.alloc (.cells #[.int .i64 1, .int .i64 kt, .int .u16 ki, .int .i64 tt, .int .u16 ti, .int .i64 qv, .string qs, .int .i64 qn] 30)).alloc (.cells #[.int .i64 0, .int .i64 0, .int .u16 0, .int .i64 0, .int .u16 0, .int .i64 0, .string ⟨#[]⟩, .int .i64 0] 30) = W := ⟨_, rfl⟩
 have hbx := Lib.hid (two_rowsI (xs := [.int .i64 1, .int .i64 kt, .int .u16 ki, .int .i64 tt, .int .u16 ti, .int .i64 qv, .string qs, .int .i64 qn]) (ys := [.int .i64 0, .int .i64 0, .int .u16 0, .int .i64 0, .int .u16 0, .int .i64 0, .string ⟨#[]⟩, .int .i64 0]) hW)
 have r0 := Lib.hid hbx.out.2.1
 have z0 := Lib.hid hbx.out.2.2.1
 have b0 := Lib.hid hbx.out.1
 have hsz := Lib.hid hbx.out.1.size
 clear hbx
 have y0 : W.cell? ⟨w.heap.size, 0, none⟩ = some (.int .i64 1) := r0.out.cell 0
 have f0 := r0.out.free 0
 have x0 : W.cell? ⟨w.heap.size + 1, 0, none⟩ = some (.int .i64 0) := z0.out.cell 0
 have g0 := z0.out.free 0
 have y1 : W.cell? ⟨w.heap.size, 1, none⟩ = some (.int .i64 kt) := r0.out.cell 1
 have f1 := r0.out.free 1
 have x1 : W.cell? ⟨w.heap.size + 1, 1, none⟩ = some (.int .i64 0) := z0.out.cell 1
 have g1 := z0.out.free 1
 have y2 : W.cell? ⟨w.heap.size, 2, none⟩ = some (.int .u16 ki) := r0.out.cell 2
 have f2 := r0.out.free 2
 have x2 : W.cell? ⟨w.heap.size + 1, 2, none⟩ = some (.int .u16 0) := z0.out.cell 2
 have g2 := z0.out.free 2
 have y3 : W.cell? ⟨w.heap.size, 3, none⟩ = some (.int .i64 tt) := r0.out.cell 3
 have f3 := r0.out.free 3
 have x3 : W.cell? ⟨w.heap.size + 1, 3, none⟩ = some (.int .i64 0) := z0.out.cell 3
 have g3 := z0.out.free 3
 have y4 : W.cell? ⟨w.heap.size, 4, none⟩ = some (.int .u16 ti) := r0.out.cell 4
 have f4 := r0.out.free 4
 have x4 : W.cell? ⟨w.heap.size + 1, 4, none⟩ = some (.int .u16 0) := z0.out.cell 4
 have g4 := z0.out.free 4
 have y5 : W.cell? ⟨w.heap.size, 5, none⟩ = some (.int .i64 qv) := r0.out.cell 5
 have f5 := r0.out.free 5
 have x5 : W.cell? ⟨w.heap.size + 1, 5, none⟩ = some (.int .i64 0) := z0.out.cell 5
 have g5 := z0.out.free 5
 have y6 : W.cell? ⟨w.heap.size, 6, none⟩ = some (.string qs) := r0.out.cell 6
 have f6 := r0.out.free 6
 have x6 : W.cell? ⟨w.heap.size + 1, 6, none⟩ = some (.string ⟨#[]⟩) := z0.out.cell 6
 have g6 := z0.out.free 6
 have y7 : W.cell? ⟨w.heap.size, 7, none⟩ = some (.int .i64 qn) := r0.out.cell 7
 have f7 := r0.out.free 7
 have x7 : W.cell? ⟨w.heap.size + 1, 7, none⟩ = some (.int .i64 0) := z0.out.cell 7
 have g7 := z0.out.free 7
 obtain ⟨V, hV⟩ : ∃ V, (((((((((((W.setCell ⟨w.heap.size, 1, none⟩ (.int .i64 0)).setCell ⟨w.heap.size, 2, none⟩ (.int .u16 0)).setCell ⟨w.heap.size, 0, none⟩ (.int .i64 0)).setCell ⟨w.heap.size + 1, 0, none⟩ (.int .i64 0)).setCell ⟨w.heap.size + 1, 1, none⟩ (.int .i64 0)).setCell ⟨w.heap.size + 1, 2, none⟩ (.int .u16 0)).setCell ⟨w.heap.size + 1, 3, none⟩ (.int .i64 tt)).setCell ⟨w.heap.size + 1, 4, none⟩ (.int .u16 ti)).setCell ⟨w.heap.size + 1, 5, none⟩ (.int .i64 qv)).setCell ⟨w.heap.size + 1, 6, none⟩ (.string qs)).setCell ⟨w.heap.size + 1, 7, none⟩ (.int .i64 qn)) = V := ⟨_, rfl⟩
 have hz : Hid (RowV 30 V (w.heap.size + 1) [.int .i64 0, .int .i64 0, .int .u16 0, .int .i64 tt, .int .u16 ti, .int .i64 qv, .string qs, .int .i64 qn]) := by
  show RowV _ _ _ _
  rw [← hV]
  exact (((((((((((z0.out.kept (setCell_grown _ _ _ _) (by omega)).kept (setCell_grown _ _ _ _) (by omega)).kept (setCell_grown _ _ _ _) (by omega)).set 0 (.int .i64 0)).set 1 (.int .i64 0)).set 2 (.int .u16 0)).set 3 (.int .i64 tt)).set 4 (.int .u16 ti)).set 5 (.int .i64 qv)).set 6 (.string qs)).set 7 (.int .i64 qn))
 have hb : Hid (Below w.heap.size w V) := by
  show Below _ _ _
  rw [← hV]
  exact (bset (bset (bset (bset (bset (bset (bset (bset (bset (bset (bset ⟨b0.out, by have := hsz.out; omega⟩ (Nat.le_refl _)) (Nat.le_refl _)) (Nat.le_refl _)) (Nat.le_succ _)) (Nat.le_succ _)) (Nat.le_succ _)) (Nat.le_succ _)) (Nat.le_succ _)) (Nat.le_succ _)) (Nat.le_succ _)) (Nat.le_succ _)).1
 clear r0 z0 b0 hsz
 go_enter Try.func59, Try.ntmps59
 go_wp2
 try rw [hV]
 have m0 := hz.out.cell 0
 have m1 := hz.out.cell 1
 have m2 := hz.out.cell 2
 have m3 := hz.out.cell 3
 have m4 := hz.out.cell 4
 have m5 := hz.out.cell 5
 have m6 := hz.out.cell 6
 have m7 := hz.out.cell 7
 simp only [List.getElem?_cons_zero, List.getElem?_cons_succ] at m0 m1 m2 m3 m4 m5 m6 m7
 refine bodyPost_ret (v := .agg #[.int .i64 0, .int .i64 0, .int .u16 0, .int .i64 tt, .int .u16 ti, .int .i64 qv, .string qs, .int .i64 qn]) (by simp [results, Try.results59, go_sem, m0, m1, m2, m3, m4, m5, m6, m7]) rfl ?_
 exact ⟨rfl, hb.out⟩
set_option maxHeartbeats 4000000 in
theorem oth_4 (kt ki tt ti qv : Int) (qs : ByteArray) (qn : Int) (w : World) :
 Calls Try.prog 59 #[.agg #[.int .i64 4, .int .i64 kt, .int .u16 ki, .int .i64 tt, .int .u16 ti, .int .i64 qv, .string qs, .int .i64 qn]] w (OtPost (othR ⟨4, ⟨kt, ki⟩, ⟨tt, ti⟩, qv, qs, qn⟩).cells w) := by
 obtain ⟨W, hW⟩ : ∃ W, (w.alloc (.cells #[.int .i64 4, .int .i64 kt, .int .u16 ki, .int .i64 tt, .int .u16 ti, .int .i64 qv, .string qs, .int .i64 qn] 30)).alloc (.cells #[.int .i64 0, .int .i64 0, .int .u16 0, .int .i64 0, .int .u16 0, .int .i64 0, .string ⟨#[]⟩, .int .i64 0] 30) = W := ⟨_, rfl⟩
 have hbx := Lib.hid (two_rowsI (xs := [.int .i64 4, .int .i64 kt, .int .u16 ki, .int .i64 tt, .int .u16 ti, .int .i64 qv, .string qs, .int .i64 qn]) (ys := [.int .i64 0, .int .i64 0, .int .u16 0, .int .i64 0, .int .u16 0, .int .i64 0, .string ⟨#[]⟩, .int .i64 0]) hW)
 have r0 := Lib.hid hbx.out.2.1
 have z0 := Lib.hid hbx.out.2.2.1
 have b0 := Lib.hid hbx.out.1
 have hsz := Lib.hid hbx.out.1.size
 clear hbx
 have y0 : W.cell? ⟨w.heap.size, 0, none⟩ = some (.int .i64 4) := r0.out.cell 0
 have f0 := r0.out.free 0
 have x0 : W.cell? ⟨w.heap.size + 1, 0, none⟩ = some (.int .i64 0) := z0.out.cell 0
 have g0 := z0.out.free 0
 have y1 : W.cell? ⟨w.heap.size, 1, none⟩ = some (.int .i64 kt) := r0.out.cell 1
 have f1 := r0.out.free 1
 have x1 : W.cell? ⟨w.heap.size + 1, 1, none⟩ = some (.int .i64 0) := z0.out.cell 1
 have g1 := z0.out.free 1
 have y2 : W.cell? ⟨w.heap.size, 2, none⟩ = some (.int .u16 ki) := r0.out.cell 2
 have f2 := r0.out.free 2
 have x2 : W.cell? ⟨w.heap.size + 1, 2, none⟩ = some (.int .u16 0) := z0.out.cell 2
 have g2 := z0.out.free 2
 have y3 : W.cell? ⟨w.heap.size, 3, none⟩ = some (.int .i64 tt) := r0.out.cell 3
 have f3 := r0.out.free 3
 have x3 : W.cell? ⟨w.heap.size + 1, 3, none⟩ = some (.int .i64 0) := z0.out.cell 3
 have g3 := z0.out.free 3
 have y4 : W.cell? ⟨w.heap.size, 4, none⟩ = some (.int .u16 ti) := r0.out.cell 4
 have f4 := r0.out.free 4
 have x4 : W.cell? ⟨w.heap.size + 1, 4, none⟩ = some (.int .u16 0) := z0.out.cell 4
 have g4 := z0.out.free 4
 have y5 : W.cell? ⟨w.heap.size, 5, none⟩ = some (.int .i64 qv) := r0.out.cell 5
 have f5 := r0.out.free 5
 have x5 : W.cell? ⟨w.heap.size + 1, 5, none⟩ = some (.int .i64 0) := z0.out.cell 5
 have g5 := z0.out.free 5
 have y6 : W.cell? ⟨w.heap.size, 6, none⟩ = some (.string qs) := r0.out.cell 6
 have f6 := r0.out.free 6
 have x6 : W.cell? ⟨w.heap.size + 1, 6, none⟩ = some (.string ⟨#[]⟩) := z0.out.cell 6
 have g6 := z0.out.free 6
 have y7 : W.cell? ⟨w.heap.size, 7, none⟩ = some (.int .i64 qn) := r0.out.cell 7
 have f7 := r0.out.free 7
 have x7 : W.cell? ⟨w.heap.size + 1, 7, none⟩ = some (.int .i64 0) := z0.out.cell 7
 have g7 := z0.out.free 7
 obtain ⟨V, hV⟩ : ∃ V, (((((((((((W.setCell ⟨w.heap.size, 1, none⟩ (.int .i64 0)).setCell ⟨w.heap.size, 2, none⟩ (.int .u16 0)).setCell ⟨w.heap.size, 0, none⟩ (.int .i64 0)).setCell ⟨w.heap.size + 1, 0, none⟩ (.int .i64 0)).setCell ⟨w.heap.size + 1, 1, none⟩ (.int .i64 0)).setCell ⟨w.heap.size + 1, 2, none⟩ (.int .u16 0)).setCell ⟨w.heap.size + 1, 3, none⟩ (.int .i64 tt)).setCell ⟨w.heap.size + 1, 4, none⟩ (.int .u16 ti)).setCell ⟨w.heap.size + 1, 5, none⟩ (.int .i64 qv)).setCell ⟨w.heap.size + 1, 6, none⟩ (.string qs)).setCell ⟨w.heap.size + 1, 7, none⟩ (.int .i64 qn)) = V := ⟨_, rfl⟩
 have hz : Hid (RowV 30 V (w.heap.size + 1) [.int .i64 0, .int .i64 0, .int .u16 0, .int .i64 tt, .int .u16 ti, .int .i64 qv, .string qs, .int .i64 qn]) := by
  show RowV _ _ _ _
  rw [← hV]
  exact (((((((((((z0.out.kept (setCell_grown _ _ _ _) (by omega)).kept (setCell_grown _ _ _ _) (by omega)).kept (setCell_grown _ _ _ _) (by omega)).set 0 (.int .i64 0)).set 1 (.int .i64 0)).set 2 (.int .u16 0)).set 3 (.int .i64 tt)).set 4 (.int .u16 ti)).set 5 (.int .i64 qv)).set 6 (.string qs)).set 7 (.int .i64 qn))
 have hb : Hid (Below w.heap.size w V) := by
  show Below _ _ _
  rw [← hV]
  exact (bset (bset (bset (bset (bset (bset (bset (bset (bset (bset (bset ⟨b0.out, by have := hsz.out; omega⟩ (Nat.le_refl _)) (Nat.le_refl _)) (Nat.le_refl _)) (Nat.le_succ _)) (Nat.le_succ _)) (Nat.le_succ _)) (Nat.le_succ _)) (Nat.le_succ _)) (Nat.le_succ _)) (Nat.le_succ _)) (Nat.le_succ _)).1
 clear r0 z0 b0 hsz
 go_enter Try.func59, Try.ntmps59
 go_wp2
 try rw [hV]
 have m0 := hz.out.cell 0
 have m1 := hz.out.cell 1
 have m2 := hz.out.cell 2
 have m3 := hz.out.cell 3
 have m4 := hz.out.cell 4
 have m5 := hz.out.cell 5
 have m6 := hz.out.cell 6
 have m7 := hz.out.cell 7
 simp only [List.getElem?_cons_zero, List.getElem?_cons_succ] at m0 m1 m2 m3 m4 m5 m6 m7
 refine bodyPost_ret (v := .agg #[.int .i64 0, .int .i64 0, .int .u16 0, .int .i64 tt, .int .u16 ti, .int .i64 qv, .string qs, .int .i64 qn]) (by simp [results, Try.results59, go_sem, m0, m1, m2, m3, m4, m5, m6, m7]) rfl ?_
 exact ⟨rfl, hb.out⟩
set_option maxHeartbeats 4000000 in
theorem oth_2 (kt ki tt ti qv : Int) (qs : ByteArray) (qn : Int) (w : World) :
 Calls Try.prog 59 #[.agg #[.int .i64 2, .int .i64 kt, .int .u16 ki, .int .i64 tt, .int .u16 ti, .int .i64 qv, .string qs, .int .i64 qn]] w (OtPost (othR ⟨2, ⟨kt, ki⟩, ⟨tt, ti⟩, qv, qs, qn⟩).cells w) := by
 obtain ⟨W, hW⟩ : ∃ W, (w.alloc (.cells #[.int .i64 2, .int .i64 kt, .int .u16 ki, .int .i64 tt, .int .u16 ti, .int .i64 qv, .string qs, .int .i64 qn] 30)).alloc (.cells #[.int .i64 0, .int .i64 0, .int .u16 0, .int .i64 0, .int .u16 0, .int .i64 0, .string ⟨#[]⟩, .int .i64 0] 30) = W := ⟨_, rfl⟩
 have hbx := Lib.hid (two_rowsI (xs := [.int .i64 2, .int .i64 kt, .int .u16 ki, .int .i64 tt, .int .u16 ti, .int .i64 qv, .string qs, .int .i64 qn]) (ys := [.int .i64 0, .int .i64 0, .int .u16 0, .int .i64 0, .int .u16 0, .int .i64 0, .string ⟨#[]⟩, .int .i64 0]) hW)
 have r0 := Lib.hid hbx.out.2.1
 have z0 := Lib.hid hbx.out.2.2.1
 have b0 := Lib.hid hbx.out.1
 have hsz := Lib.hid hbx.out.1.size
 clear hbx
 have y0 : W.cell? ⟨w.heap.size, 0, none⟩ = some (.int .i64 2) := r0.out.cell 0
 have f0 := r0.out.free 0
 have x0 : W.cell? ⟨w.heap.size + 1, 0, none⟩ = some (.int .i64 0) := z0.out.cell 0
 have g0 := z0.out.free 0
 have y1 : W.cell? ⟨w.heap.size, 1, none⟩ = some (.int .i64 kt) := r0.out.cell 1
 have f1 := r0.out.free 1
 have x1 : W.cell? ⟨w.heap.size + 1, 1, none⟩ = some (.int .i64 0) := z0.out.cell 1
 have g1 := z0.out.free 1
 have y2 : W.cell? ⟨w.heap.size, 2, none⟩ = some (.int .u16 ki) := r0.out.cell 2
 have f2 := r0.out.free 2
 have x2 : W.cell? ⟨w.heap.size + 1, 2, none⟩ = some (.int .u16 0) := z0.out.cell 2
 have g2 := z0.out.free 2
 have y3 : W.cell? ⟨w.heap.size, 3, none⟩ = some (.int .i64 tt) := r0.out.cell 3
 have f3 := r0.out.free 3
 have x3 : W.cell? ⟨w.heap.size + 1, 3, none⟩ = some (.int .i64 0) := z0.out.cell 3
 have g3 := z0.out.free 3
 have y4 : W.cell? ⟨w.heap.size, 4, none⟩ = some (.int .u16 ti) := r0.out.cell 4
 have f4 := r0.out.free 4
 have x4 : W.cell? ⟨w.heap.size + 1, 4, none⟩ = some (.int .u16 0) := z0.out.cell 4
 have g4 := z0.out.free 4
 have y5 : W.cell? ⟨w.heap.size, 5, none⟩ = some (.int .i64 qv) := r0.out.cell 5
 have f5 := r0.out.free 5
 have x5 : W.cell? ⟨w.heap.size + 1, 5, none⟩ = some (.int .i64 0) := z0.out.cell 5
 have g5 := z0.out.free 5
 have y6 : W.cell? ⟨w.heap.size, 6, none⟩ = some (.string qs) := r0.out.cell 6
 have f6 := r0.out.free 6
 have x6 : W.cell? ⟨w.heap.size + 1, 6, none⟩ = some (.string ⟨#[]⟩) := z0.out.cell 6
 have g6 := z0.out.free 6
 have y7 : W.cell? ⟨w.heap.size, 7, none⟩ = some (.int .i64 qn) := r0.out.cell 7
 have f7 := r0.out.free 7
 have x7 : W.cell? ⟨w.heap.size + 1, 7, none⟩ = some (.int .i64 0) := z0.out.cell 7
 have g7 := z0.out.free 7
 obtain ⟨V, hV⟩ : ∃ V, ((((((((((W.setCell ⟨w.heap.size, 1, none⟩ (.int .i64 0)).setCell ⟨w.heap.size, 0, none⟩ (.int .i64 0)).setCell ⟨w.heap.size + 1, 0, none⟩ (.int .i64 0)).setCell ⟨w.heap.size + 1, 1, none⟩ (.int .i64 0)).setCell ⟨w.heap.size + 1, 2, none⟩ (.int .u16 ki)).setCell ⟨w.heap.size + 1, 3, none⟩ (.int .i64 tt)).setCell ⟨w.heap.size + 1, 4, none⟩ (.int .u16 ti)).setCell ⟨w.heap.size + 1, 5, none⟩ (.int .i64 qv)).setCell ⟨w.heap.size + 1, 6, none⟩ (.string qs)).setCell ⟨w.heap.size + 1, 7, none⟩ (.int .i64 qn)) = V := ⟨_, rfl⟩
 have hz : Hid (RowV 30 V (w.heap.size + 1) [.int .i64 0, .int .i64 0, .int .u16 ki, .int .i64 tt, .int .u16 ti, .int .i64 qv, .string qs, .int .i64 qn]) := by
  show RowV _ _ _ _
  rw [← hV]
  exact ((((((((((z0.out.kept (setCell_grown _ _ _ _) (by omega)).kept (setCell_grown _ _ _ _) (by omega)).set 0 (.int .i64 0)).set 1 (.int .i64 0)).set 2 (.int .u16 ki)).set 3 (.int .i64 tt)).set 4 (.int .u16 ti)).set 5 (.int .i64 qv)).set 6 (.string qs)).set 7 (.int .i64 qn))
 have hb : Hid (Below w.heap.size w V) := by
  show Below _ _ _
  rw [← hV]
  exact (bset (bset (bset (bset (bset (bset (bset (bset (bset (bset ⟨b0.out, by have := hsz.out; omega⟩ (Nat.le_refl _)) (Nat.le_refl _)) (Nat.le_succ _)) (Nat.le_succ _)) (Nat.le_succ _)) (Nat.le_succ _)) (Nat.le_succ _)) (Nat.le_succ _)) (Nat.le_succ _)) (Nat.le_succ _)).1
 clear r0 z0 b0 hsz
 go_enter Try.func59, Try.ntmps59
 go_wp2
 try rw [hV]
 have m0 := hz.out.cell 0
 have m1 := hz.out.cell 1
 have m2 := hz.out.cell 2
 have m3 := hz.out.cell 3
 have m4 := hz.out.cell 4
 have m5 := hz.out.cell 5
 have m6 := hz.out.cell 6
 have m7 := hz.out.cell 7
 simp only [List.getElem?_cons_zero, List.getElem?_cons_succ] at m0 m1 m2 m3 m4 m5 m6 m7
 refine bodyPost_ret (v := .agg #[.int .i64 0, .int .i64 0, .int .u16 ki, .int .i64 tt, .int .u16 ti, .int .i64 qv, .string qs, .int .i64 qn]) (by simp [results, Try.results59, go_sem, m0, m1, m2, m3, m4, m5, m6, m7]) rfl ?_
 exact ⟨rfl, hb.out⟩
set_option maxHeartbeats 4000000 in
theorem oth_3 (kt ki tt ti qv : Int) (qs : ByteArray) (qn : Int) (w : World) :
 Calls Try.prog 59 #[.agg #[.int .i64 3, .int .i64 kt, .int .u16 ki, .int .i64 tt, .int .u16 ti, .int .i64 qv, .string qs, .int .i64 qn]] w (OtPost (othR ⟨3, ⟨kt, ki⟩, ⟨tt, ti⟩, qv, qs, qn⟩).cells w) := by
 obtain ⟨W, hW⟩ : ∃ W, (w.alloc (.cells #[.int .i64 3, .int .i64 kt, .int .u16 ki, .int .i64 tt, .int .u16 ti, .int .i64 qv, .string qs, .int .i64 qn] 30)).alloc (.cells #[.int .i64 0, .int .i64 0, .int .u16 0, .int .i64 0, .int .u16 0, .int .i64 0, .string ⟨#[]⟩, .int .i64 0] 30) = W := ⟨_, rfl⟩
 have hbx := Lib.hid (two_rowsI (xs := [.int .i64 3, .int .i64 kt, .int .u16 ki, .int .i64 tt, .int .u16 ti, .int .i64 qv, .string qs, .int .i64 qn]) (ys := [.int .i64 0, .int .i64 0, .int .u16 0, .int .i64 0, .int .u16 0, .int .i64 0, .string ⟨#[]⟩, .int .i64 0]) hW)
 have r0 := Lib.hid hbx.out.2.1
 have z0 := Lib.hid hbx.out.2.2.1
 have b0 := Lib.hid hbx.out.1
 have hsz := Lib.hid hbx.out.1.size
 clear hbx
 have y0 : W.cell? ⟨w.heap.size, 0, none⟩ = some (.int .i64 3) := r0.out.cell 0
 have f0 := r0.out.free 0
 have x0 : W.cell? ⟨w.heap.size + 1, 0, none⟩ = some (.int .i64 0) := z0.out.cell 0
 have g0 := z0.out.free 0
 have y1 : W.cell? ⟨w.heap.size, 1, none⟩ = some (.int .i64 kt) := r0.out.cell 1
 have f1 := r0.out.free 1
 have x1 : W.cell? ⟨w.heap.size + 1, 1, none⟩ = some (.int .i64 0) := z0.out.cell 1
 have g1 := z0.out.free 1
 have y2 : W.cell? ⟨w.heap.size, 2, none⟩ = some (.int .u16 ki) := r0.out.cell 2
 have f2 := r0.out.free 2
 have x2 : W.cell? ⟨w.heap.size + 1, 2, none⟩ = some (.int .u16 0) := z0.out.cell 2
 have g2 := z0.out.free 2
 have y3 : W.cell? ⟨w.heap.size, 3, none⟩ = some (.int .i64 tt) := r0.out.cell 3
 have f3 := r0.out.free 3
 have x3 : W.cell? ⟨w.heap.size + 1, 3, none⟩ = some (.int .i64 0) := z0.out.cell 3
 have g3 := z0.out.free 3
 have y4 : W.cell? ⟨w.heap.size, 4, none⟩ = some (.int .u16 ti) := r0.out.cell 4
 have f4 := r0.out.free 4
 have x4 : W.cell? ⟨w.heap.size + 1, 4, none⟩ = some (.int .u16 0) := z0.out.cell 4
 have g4 := z0.out.free 4
 have y5 : W.cell? ⟨w.heap.size, 5, none⟩ = some (.int .i64 qv) := r0.out.cell 5
 have f5 := r0.out.free 5
 have x5 : W.cell? ⟨w.heap.size + 1, 5, none⟩ = some (.int .i64 0) := z0.out.cell 5
 have g5 := z0.out.free 5
 have y6 : W.cell? ⟨w.heap.size, 6, none⟩ = some (.string qs) := r0.out.cell 6
 have f6 := r0.out.free 6
 have x6 : W.cell? ⟨w.heap.size + 1, 6, none⟩ = some (.string ⟨#[]⟩) := z0.out.cell 6
 have g6 := z0.out.free 6
 have y7 : W.cell? ⟨w.heap.size, 7, none⟩ = some (.int .i64 qn) := r0.out.cell 7
 have f7 := r0.out.free 7
 have x7 : W.cell? ⟨w.heap.size + 1, 7, none⟩ = some (.int .i64 0) := z0.out.cell 7
 have g7 := z0.out.free 7
 obtain ⟨V, hV⟩ : ∃ V, (((((((((((((W.setCell ⟨w.heap.size, 1, none⟩ (.int .i64 0)).setCell ⟨w.heap.size, 2, none⟩ (.int .u16 0)).setCell ⟨w.heap.size, 5, none⟩ (.int .i64 0)).setCell ⟨w.heap.size, 6, none⟩ (.string ⟨#[]⟩)).setCell ⟨w.heap.size, 0, none⟩ (.int .i64 0)).setCell ⟨w.heap.size + 1, 0, none⟩ (.int .i64 0)).setCell ⟨w.heap.size + 1, 1, none⟩ (.int .i64 0)).setCell ⟨w.heap.size + 1, 2, none⟩ (.int .u16 0)).setCell ⟨w.heap.size + 1, 3, none⟩ (.int .i64 tt)).setCell ⟨w.heap.size + 1, 4, none⟩ (.int .u16 ti)).setCell ⟨w.heap.size + 1, 5, none⟩ (.int .i64 0)).setCell ⟨w.heap.size + 1, 6, none⟩ (.string ⟨#[]⟩)).setCell ⟨w.heap.size + 1, 7, none⟩ (.int .i64 qn)) = V := ⟨_, rfl⟩
 have hz : Hid (RowV 30 V (w.heap.size + 1) [.int .i64 0, .int .i64 0, .int .u16 0, .int .i64 tt, .int .u16 ti, .int .i64 0, .string ⟨#[]⟩, .int .i64 qn]) := by
  show RowV _ _ _ _
  rw [← hV]
  exact (((((((((((((z0.out.kept (setCell_grown _ _ _ _) (by omega)).kept (setCell_grown _ _ _ _) (by omega)).kept (setCell_grown _ _ _ _) (by omega)).kept (setCell_grown _ _ _ _) (by omega)).kept (setCell_grown _ _ _ _) (by omega)).set 0 (.int .i64 0)).set 1 (.int .i64 0)).set 2 (.int .u16 0)).set 3 (.int .i64 tt)).set 4 (.int .u16 ti)).set 5 (.int .i64 0)).set 6 (.string ⟨#[]⟩)).set 7 (.int .i64 qn))
 have hb : Hid (Below w.heap.size w V) := by
  show Below _ _ _
  rw [← hV]
  exact (bset (bset (bset (bset (bset (bset (bset (bset (bset (bset (bset (bset (bset ⟨b0.out, by have := hsz.out; omega⟩ (Nat.le_refl _)) (Nat.le_refl _)) (Nat.le_refl _)) (Nat.le_refl _)) (Nat.le_refl _)) (Nat.le_succ _)) (Nat.le_succ _)) (Nat.le_succ _)) (Nat.le_succ _)) (Nat.le_succ _)) (Nat.le_succ _)) (Nat.le_succ _)) (Nat.le_succ _)).1
 clear r0 z0 b0 hsz
 go_enter Try.func59, Try.ntmps59
 go_wp2
 try rw [hV]
 have m0 := hz.out.cell 0
 have m1 := hz.out.cell 1
 have m2 := hz.out.cell 2
 have m3 := hz.out.cell 3
 have m4 := hz.out.cell 4
 have m5 := hz.out.cell 5
 have m6 := hz.out.cell 6
 have m7 := hz.out.cell 7
 simp only [List.getElem?_cons_zero, List.getElem?_cons_succ] at m0 m1 m2 m3 m4 m5 m6 m7
 refine bodyPost_ret (v := .agg #[.int .i64 0, .int .i64 0, .int .u16 0, .int .i64 tt, .int .u16 ti, .int .i64 0, .string ⟨#[]⟩, .int .i64 qn]) (by simp [results, Try.results59, go_sem, m0, m1, m2, m3, m4, m5, m6, m7]) rfl ?_
 exact ⟨rfl, hb.out⟩
set_option maxHeartbeats 4000000 in
theorem oth_5 (kt ki tt ti qv : Int) (qs : ByteArray) (qn : Int) (w : World) :
 Calls Try.prog 59 #[.agg #[.int .i64 5, .int .i64 kt, .int .u16 ki, .int .i64 tt, .int .u16 ti, .int .i64 qv, .string qs, .int .i64 qn]] w (OtPost (othR ⟨5, ⟨kt, ki⟩, ⟨tt, ti⟩, qv, qs, qn⟩).cells w) := by
 obtain ⟨W, hW⟩ : ∃ W, (w.alloc (.cells #[.int .i64 5, .int .i64 kt, .int .u16 ki, .int .i64 tt, .int .u16 ti, .int .i64 qv, .string qs, .int .i64 qn] 30)).alloc (.cells #[.int .i64 0, .int .i64 0, .int .u16 0, .int .i64 0, .int .u16 0, .int .i64 0, .string ⟨#[]⟩, .int .i64 0] 30) = W := ⟨_, rfl⟩
 have hbx := Lib.hid (two_rowsI (xs := [.int .i64 5, .int .i64 kt, .int .u16 ki, .int .i64 tt, .int .u16 ti, .int .i64 qv, .string qs, .int .i64 qn]) (ys := [.int .i64 0, .int .i64 0, .int .u16 0, .int .i64 0, .int .u16 0, .int .i64 0, .string ⟨#[]⟩, .int .i64 0]) hW)
 have r0 := Lib.hid hbx.out.2.1
 have z0 := Lib.hid hbx.out.2.2.1
 have b0 := Lib.hid hbx.out.1
 have hsz := Lib.hid hbx.out.1.size
 clear hbx
 have y0 : W.cell? ⟨w.heap.size, 0, none⟩ = some (.int .i64 5) := r0.out.cell 0
 have f0 := r0.out.free 0
 have x0 : W.cell? ⟨w.heap.size + 1, 0, none⟩ = some (.int .i64 0) := z0.out.cell 0
 have g0 := z0.out.free 0
 have y1 : W.cell? ⟨w.heap.size, 1, none⟩ = some (.int .i64 kt) := r0.out.cell 1
 have f1 := r0.out.free 1
 have x1 : W.cell? ⟨w.heap.size + 1, 1, none⟩ = some (.int .i64 0) := z0.out.cell 1
 have g1 := z0.out.free 1
 have y2 : W.cell? ⟨w.heap.size, 2, none⟩ = some (.int .u16 ki) := r0.out.cell 2
 have f2 := r0.out.free 2
 have x2 : W.cell? ⟨w.heap.size + 1, 2, none⟩ = some (.int .u16 0) := z0.out.cell 2
 have g2 := z0.out.free 2
 have y3 : W.cell? ⟨w.heap.size, 3, none⟩ = some (.int .i64 tt) := r0.out.cell 3
 have f3 := r0.out.free 3
 have x3 : W.cell? ⟨w.heap.size + 1, 3, none⟩ = some (.int .i64 0) := z0.out.cell 3
 have g3 := z0.out.free 3
 have y4 : W.cell? ⟨w.heap.size, 4, none⟩ = some (.int .u16 ti) := r0.out.cell 4
 have f4 := r0.out.free 4
 have x4 : W.cell? ⟨w.heap.size + 1, 4, none⟩ = some (.int .u16 0) := z0.out.cell 4
 have g4 := z0.out.free 4
 have y5 : W.cell? ⟨w.heap.size, 5, none⟩ = some (.int .i64 qv) := r0.out.cell 5
 have f5 := r0.out.free 5
 have x5 : W.cell? ⟨w.heap.size + 1, 5, none⟩ = some (.int .i64 0) := z0.out.cell 5
 have g5 := z0.out.free 5
 have y6 : W.cell? ⟨w.heap.size, 6, none⟩ = some (.string qs) := r0.out.cell 6
 have f6 := r0.out.free 6
 have x6 : W.cell? ⟨w.heap.size + 1, 6, none⟩ = some (.string ⟨#[]⟩) := z0.out.cell 6
 have g6 := z0.out.free 6
 have y7 : W.cell? ⟨w.heap.size, 7, none⟩ = some (.int .i64 qn) := r0.out.cell 7
 have f7 := r0.out.free 7
 have x7 : W.cell? ⟨w.heap.size + 1, 7, none⟩ = some (.int .i64 0) := z0.out.cell 7
 have g7 := z0.out.free 7
 obtain ⟨V, hV⟩ : ∃ V, ((((((((((((W.setCell ⟨w.heap.size, 1, none⟩ (.int .i64 0)).setCell ⟨w.heap.size, 2, none⟩ (.int .u16 0)).setCell ⟨w.heap.size, 6, none⟩ (.string ⟨#[]⟩)).setCell ⟨w.heap.size, 0, none⟩ (.int .i64 0)).setCell ⟨w.heap.size + 1, 0, none⟩ (.int .i64 0)).setCell ⟨w.heap.size + 1, 1, none⟩ (.int .i64 0)).setCell ⟨w.heap.size + 1, 2, none⟩ (.int .u16 0)).setCell ⟨w.heap.size + 1, 3, none⟩ (.int .i64 tt)).setCell ⟨w.heap.size + 1, 4, none⟩ (.int .u16 ti)).setCell ⟨w.heap.size + 1, 5, none⟩ (.int .i64 qv)).setCell ⟨w.heap.size + 1, 6, none⟩ (.string ⟨#[]⟩)).setCell ⟨w.heap.size + 1, 7, none⟩ (.int .i64 qn)) = V := ⟨_, rfl⟩
 have hz : Hid (RowV 30 V (w.heap.size + 1) [.int .i64 0, .int .i64 0, .int .u16 0, .int .i64 tt, .int .u16 ti, .int .i64 qv, .string ⟨#[]⟩, .int .i64 qn]) := by
  show RowV _ _ _ _
  rw [← hV]
  exact ((((((((((((z0.out.kept (setCell_grown _ _ _ _) (by omega)).kept (setCell_grown _ _ _ _) (by omega)).kept (setCell_grown _ _ _ _) (by omega)).kept (setCell_grown _ _ _ _) (by omega)).set 0 (.int .i64 0)).set 1 (.int .i64 0)).set 2 (.int .u16 0)).set 3 (.int .i64 tt)).set 4 (.int .u16 ti)).set 5 (.int .i64 qv)).set 6 (.string ⟨#[]⟩)).set 7 (.int .i64 qn))
 have hb : Hid (Below w.heap.size w V) := by
  show Below _ _ _
  rw [← hV]
  exact (bset (bset (bset (bset (bset (bset (bset (bset (bset (bset (bset (bset ⟨b0.out, by have := hsz.out; omega⟩ (Nat.le_refl _)) (Nat.le_refl _)) (Nat.le_refl _)) (Nat.le_refl _)) (Nat.le_succ _)) (Nat.le_succ _)) (Nat.le_succ _)) (Nat.le_succ _)) (Nat.le_succ _)) (Nat.le_succ _)) (Nat.le_succ _)) (Nat.le_succ _)).1
 clear r0 z0 b0 hsz
 go_enter Try.func59, Try.ntmps59
 go_wp2
 try rw [hV]
 have m0 := hz.out.cell 0
 have m1 := hz.out.cell 1
 have m2 := hz.out.cell 2
 have m3 := hz.out.cell 3
 have m4 := hz.out.cell 4
 have m5 := hz.out.cell 5
 have m6 := hz.out.cell 6
 have m7 := hz.out.cell 7
 simp only [List.getElem?_cons_zero, List.getElem?_cons_succ] at m0 m1 m2 m3 m4 m5 m6 m7
 refine bodyPost_ret (v := .agg #[.int .i64 0, .int .i64 0, .int .u16 0, .int .i64 tt, .int .u16 ti, .int .i64 qv, .string ⟨#[]⟩, .int .i64 qn]) (by simp [results, Try.results59, go_sem, m0, m1, m2, m3, m4, m5, m6, m7]) rfl ?_
 exact ⟨rfl, hb.out⟩
set_option maxHeartbeats 4000000 in
theorem oth_6 (kt ki tt ti qv : Int) (qs : ByteArray) (qn : Int) (w : World) :
 Calls Try.prog 59 #[.agg #[.int .i64 6, .int .i64 kt, .int .u16 ki, .int .i64 tt, .int .u16 ti, .int .i64 qv, .string qs, .int .i64 qn]] w (OtPost (othR ⟨6, ⟨kt, ki⟩, ⟨tt, ti⟩, qv, qs, qn⟩).cells w) := by
 obtain ⟨W, hW⟩ : ∃ W, (w.alloc (.cells #[.int .i64 6, .int .i64 kt, .int .u16 ki, .int .i64 tt, .int .u16 ti, .int .i64 qv, .string qs, .int .i64 qn] 30)).alloc (.cells #[.int .i64 0, .int .i64 0, .int .u16 0, .int .i64 0, .int .u16 0, .int .i64 0, .string ⟨#[]⟩, .int .i64 0] 30) = W := ⟨_, rfl⟩
 have hbx := Lib.hid (two_rowsI (xs := [.int .i64 6, .int .i64 kt, .int .u16 ki, .int .i64 tt, .int .u16 ti, .int .i64 qv, .string qs, .int .i64 qn]) (ys := [.int .i64 0, .int .i64 0, .int .u16 0, .int .i64 0, .int .u16 0, .int .i64 0, .string ⟨#[]⟩, .int .i64 0]) hW)
 have r0 := Lib.hid hbx.out.2.1
 have z0 := Lib.hid hbx.out.2.2.1
 have b0 := Lib.hid hbx.out.1
 have hsz := Lib.hid hbx.out.1.size
 clear hbx
 have y0 : W.cell? ⟨w.heap.size, 0, none⟩ = some (.int .i64 6) := r0.out.cell 0
 have f0 := r0.out.free 0
 have x0 : W.cell? ⟨w.heap.size + 1, 0, none⟩ = some (.int .i64 0) := z0.out.cell 0
 have g0 := z0.out.free 0
 have y1 : W.cell? ⟨w.heap.size, 1, none⟩ = some (.int .i64 kt) := r0.out.cell 1
 have f1 := r0.out.free 1
 have x1 : W.cell? ⟨w.heap.size + 1, 1, none⟩ = some (.int .i64 0) := z0.out.cell 1
 have g1 := z0.out.free 1
 have y2 : W.cell? ⟨w.heap.size, 2, none⟩ = some (.int .u16 ki) := r0.out.cell 2
 have f2 := r0.out.free 2
 have x2 : W.cell? ⟨w.heap.size + 1, 2, none⟩ = some (.int .u16 0) := z0.out.cell 2
 have g2 := z0.out.free 2
 have y3 : W.cell? ⟨w.heap.size, 3, none⟩ = some (.int .i64 tt) := r0.out.cell 3
 have f3 := r0.out.free 3
 have x3 : W.cell? ⟨w.heap.size + 1, 3, none⟩ = some (.int .i64 0) := z0.out.cell 3
 have g3 := z0.out.free 3
 have y4 : W.cell? ⟨w.heap.size, 4, none⟩ = some (.int .u16 ti) := r0.out.cell 4
 have f4 := r0.out.free 4
 have x4 : W.cell? ⟨w.heap.size + 1, 4, none⟩ = some (.int .u16 0) := z0.out.cell 4
 have g4 := z0.out.free 4
 have y5 : W.cell? ⟨w.heap.size, 5, none⟩ = some (.int .i64 qv) := r0.out.cell 5
 have f5 := r0.out.free 5
 have x5 : W.cell? ⟨w.heap.size + 1, 5, none⟩ = some (.int .i64 0) := z0.out.cell 5
 have g5 := z0.out.free 5
 have y6 : W.cell? ⟨w.heap.size, 6, none⟩ = some (.string qs) := r0.out.cell 6
 have f6 := r0.out.free 6
 have x6 : W.cell? ⟨w.heap.size + 1, 6, none⟩ = some (.string ⟨#[]⟩) := z0.out.cell 6
 have g6 := z0.out.free 6
 have y7 : W.cell? ⟨w.heap.size, 7, none⟩ = some (.int .i64 qn) := r0.out.cell 7
 have f7 := r0.out.free 7
 have x7 : W.cell? ⟨w.heap.size + 1, 7, none⟩ = some (.int .i64 0) := z0.out.cell 7
 have g7 := z0.out.free 7
 obtain ⟨V, hV⟩ : ∃ V, ((((((((((((W.setCell ⟨w.heap.size, 1, none⟩ (.int .i64 0)).setCell ⟨w.heap.size, 2, none⟩ (.int .u16 0)).setCell ⟨w.heap.size, 5, none⟩ (.int .i64 0)).setCell ⟨w.heap.size, 0, none⟩ (.int .i64 0)).setCell ⟨w.heap.size + 1, 0, none⟩ (.int .i64 0)).setCell ⟨w.heap.size + 1, 1, none⟩ (.int .i64 0)).setCell ⟨w.heap.size + 1, 2, none⟩ (.int .u16 0)).setCell ⟨w.heap.size + 1, 3, none⟩ (.int .i64 tt)).setCell ⟨w.heap.size + 1, 4, none⟩ (.int .u16 ti)).setCell ⟨w.heap.size + 1, 5, none⟩ (.int .i64 0)).setCell ⟨w.heap.size + 1, 6, none⟩ (.string qs)).setCell ⟨w.heap.size + 1, 7, none⟩ (.int .i64 qn)) = V := ⟨_, rfl⟩
 have hz : Hid (RowV 30 V (w.heap.size + 1) [.int .i64 0, .int .i64 0, .int .u16 0, .int .i64 tt, .int .u16 ti, .int .i64 0, .string qs, .int .i64 qn]) := by
  show RowV _ _ _ _
  rw [← hV]
  exact ((((((((((((z0.out.kept (setCell_grown _ _ _ _) (by omega)).kept (setCell_grown _ _ _ _) (by omega)).kept (setCell_grown _ _ _ _) (by omega)).kept (setCell_grown _ _ _ _) (by omega)).set 0 (.int .i64 0)).set 1 (.int .i64 0)).set 2 (.int .u16 0)).set 3 (.int .i64 tt)).set 4 (.int .u16 ti)).set 5 (.int .i64 0)).set 6 (.string qs)).set 7 (.int .i64 qn))
 have hb : Hid (Below w.heap.size w V) := by
  show Below _ _ _
  rw [← hV]
  exact (bset (bset (bset (bset (bset (bset (bset (bset (bset (bset (bset (bset ⟨b0.out, by have := hsz.out; omega⟩ (Nat.le_refl _)) (Nat.le_refl _)) (Nat.le_refl _)) (Nat.le_refl _)) (Nat.le_succ _)) (Nat.le_succ _)) (Nat.le_succ _)) (Nat.le_succ _)) (Nat.le_succ _)) (Nat.le_succ _)) (Nat.le_succ _)) (Nat.le_succ _)).1
 clear r0 z0 b0 hsz
 go_enter Try.func59, Try.ntmps59
 go_wp2
 try rw [hV]
 have m0 := hz.out.cell 0
 have m1 := hz.out.cell 1
 have m2 := hz.out.cell 2
 have m3 := hz.out.cell 3
 have m4 := hz.out.cell 4
 have m5 := hz.out.cell 5
 have m6 := hz.out.cell 6
 have m7 := hz.out.cell 7
 simp only [List.getElem?_cons_zero, List.getElem?_cons_succ] at m0 m1 m2 m3 m4 m5 m6 m7
 refine bodyPost_ret (v := .agg #[.int .i64 0, .int .i64 0, .int .u16 0, .int .i64 tt, .int .u16 ti, .int .i64 0, .string qs, .int .i64 qn]) (by simp [results, Try.results59, go_sem, m0, m1, m2, m3, m4, m5, m6, m7]) rfl ?_
 exact ⟨rfl, hb.out⟩
set_option maxHeartbeats 4000000 in
theorem oth_7 (kt ki tt ti qv : Int) (qs : ByteArray) (qn : Int) (w : World) :
 Calls Try.prog 59 #[.agg #[.int .i64 7, .int .i64 kt, .int .u16 ki, .int .i64 tt, .int .u16 ti, .int .i64 qv, .string qs, .int .i64 qn]] w (OtPost (othR ⟨7, ⟨kt, ki⟩, ⟨tt, ti⟩, qv, qs, qn⟩).cells w) := by
 obtain ⟨W, hW⟩ : ∃ W, (w.alloc (.cells #[.int .i64 7, .int .i64 kt, .int .u16 ki, .int .i64 tt, .int .u16 ti, .int .i64 qv, .string qs, .int .i64 qn] 30)).alloc (.cells #[.int .i64 0, .int .i64 0, .int .u16 0, .int .i64 0, .int .u16 0, .int .i64 0, .string ⟨#[]⟩, .int .i64 0] 30) = W := ⟨_, rfl⟩
 have hbx := Lib.hid (two_rowsI (xs := [.int .i64 7, .int .i64 kt, .int .u16 ki, .int .i64 tt, .int .u16 ti, .int .i64 qv, .string qs, .int .i64 qn]) (ys := [.int .i64 0, .int .i64 0, .int .u16 0, .int .i64 0, .int .u16 0, .int .i64 0, .string ⟨#[]⟩, .int .i64 0]) hW)
 have r0 := Lib.hid hbx.out.2.1
 have z0 := Lib.hid hbx.out.2.2.1
 have b0 := Lib.hid hbx.out.1
 have hsz := Lib.hid hbx.out.1.size
 clear hbx
 have y0 : W.cell? ⟨w.heap.size, 0, none⟩ = some (.int .i64 7) := r0.out.cell 0
 have f0 := r0.out.free 0
 have x0 : W.cell? ⟨w.heap.size + 1, 0, none⟩ = some (.int .i64 0) := z0.out.cell 0
 have g0 := z0.out.free 0
 have y1 : W.cell? ⟨w.heap.size, 1, none⟩ = some (.int .i64 kt) := r0.out.cell 1
 have f1 := r0.out.free 1
 have x1 : W.cell? ⟨w.heap.size + 1, 1, none⟩ = some (.int .i64 0) := z0.out.cell 1
 have g1 := z0.out.free 1
 have y2 : W.cell? ⟨w.heap.size, 2, none⟩ = some (.int .u16 ki) := r0.out.cell 2
 have f2 := r0.out.free 2
 have x2 : W.cell? ⟨w.heap.size + 1, 2, none⟩ = some (.int .u16 0) := z0.out.cell 2
 have g2 := z0.out.free 2
 have y3 : W.cell? ⟨w.heap.size, 3, none⟩ = some (.int .i64 tt) := r0.out.cell 3
 have f3 := r0.out.free 3
 have x3 : W.cell? ⟨w.heap.size + 1, 3, none⟩ = some (.int .i64 0) := z0.out.cell 3
 have g3 := z0.out.free 3
 have y4 : W.cell? ⟨w.heap.size, 4, none⟩ = some (.int .u16 ti) := r0.out.cell 4
 have f4 := r0.out.free 4
 have x4 : W.cell? ⟨w.heap.size + 1, 4, none⟩ = some (.int .u16 0) := z0.out.cell 4
 have g4 := z0.out.free 4
 have y5 : W.cell? ⟨w.heap.size, 5, none⟩ = some (.int .i64 qv) := r0.out.cell 5
 have f5 := r0.out.free 5
 have x5 : W.cell? ⟨w.heap.size + 1, 5, none⟩ = some (.int .i64 0) := z0.out.cell 5
 have g5 := z0.out.free 5
 have y6 : W.cell? ⟨w.heap.size, 6, none⟩ = some (.string qs) := r0.out.cell 6
 have f6 := r0.out.free 6
 have x6 : W.cell? ⟨w.heap.size + 1, 6, none⟩ = some (.string ⟨#[]⟩) := z0.out.cell 6
 have g6 := z0.out.free 6
 have y7 : W.cell? ⟨w.heap.size, 7, none⟩ = some (.int .i64 qn) := r0.out.cell 7
 have f7 := r0.out.free 7
 have x7 : W.cell? ⟨w.heap.size + 1, 7, none⟩ = some (.int .i64 0) := z0.out.cell 7
 have g7 := z0.out.free 7
 obtain ⟨V, hV⟩ : ∃ V, ((((((((((((W.setCell ⟨w.heap.size, 1, none⟩ (.int .i64 0)).setCell ⟨w.heap.size, 2, none⟩ (.int .u16 0)).setCell ⟨w.heap.size, 5, none⟩ (.int .i64 0)).setCell ⟨w.heap.size, 0, none⟩ (.int .i64 0)).setCell ⟨w.heap.size + 1, 0, none⟩ (.int .i64 0)).setCell ⟨w.heap.size + 1, 1, none⟩ (.int .i64 0)).setCell ⟨w.heap.size + 1, 2, none⟩ (.int .u16 0)).setCell ⟨w.heap.size + 1, 3, none⟩ (.int .i64 tt)).setCell ⟨w.heap.size + 1, 4, none⟩ (.int .u16 ti)).setCell ⟨w.heap.size + 1, 5, none⟩ (.int .i64 0)).setCell ⟨w.heap.size + 1, 6, none⟩ (.string qs)).setCell ⟨w.heap.size + 1, 7, none⟩ (.int .i64 qn)) = V := ⟨_, rfl⟩
 have hz : Hid (RowV 30 V (w.heap.size + 1) [.int .i64 0, .int .i64 0, .int .u16 0, .int .i64 tt, .int .u16 ti, .int .i64 0, .string qs, .int .i64 qn]) := by
  show RowV _ _ _ _
  rw [← hV]
  exact ((((((((((((z0.out.kept (setCell_grown _ _ _ _) (by omega)).kept (setCell_grown _ _ _ _) (by omega)).kept (setCell_grown _ _ _ _) (by omega)).kept (setCell_grown _ _ _ _) (by omega)).set 0 (.int .i64 0)).set 1 (.int .i64 0)).set 2 (.int .u16 0)).set 3 (.int .i64 tt)).set 4 (.int .u16 ti)).set 5 (.int .i64 0)).set 6 (.string qs)).set 7 (.int .i64 qn))
 have hb : Hid (Below w.heap.size w V) := by
  show Below _ _ _
  rw [← hV]
  exact (bset (bset (bset (bset (bset (bset (bset (bset (bset (bset (bset (bset ⟨b0.out, by have := hsz.out; omega⟩ (Nat.le_refl _)) (Nat.le_refl _)) (Nat.le_refl _)) (Nat.le_refl _)) (Nat.le_succ _)) (Nat.le_succ _)) (Nat.le_succ _)) (Nat.le_succ _)) (Nat.le_succ _)) (Nat.le_succ _)) (Nat.le_succ _)) (Nat.le_succ _)).1
 clear r0 z0 b0 hsz
 go_enter Try.func59, Try.ntmps59
 go_wp2
 try rw [hV]
 have m0 := hz.out.cell 0
 have m1 := hz.out.cell 1
 have m2 := hz.out.cell 2
 have m3 := hz.out.cell 3
 have m4 := hz.out.cell 4
 have m5 := hz.out.cell 5
 have m6 := hz.out.cell 6
 have m7 := hz.out.cell 7
 simp only [List.getElem?_cons_zero, List.getElem?_cons_succ] at m0 m1 m2 m3 m4 m5 m6 m7
 refine bodyPost_ret (v := .agg #[.int .i64 0, .int .i64 0, .int .u16 0, .int .i64 tt, .int .u16 ti, .int .i64 0, .string qs, .int .i64 qn]) (by simp [results, Try.results59, go_sem, m0, m1, m2, m3, m4, m5, m6, m7]) rfl ?_
 exact ⟨rfl, hb.out⟩
set_option maxHeartbeats 4000000 in
theorem oth_8 (kt ki tt ti qv : Int) (qs : ByteArray) (qn : Int) (w : World) :
 Calls Try.prog 59 #[.agg #[.int .i64 8, .int .i64 kt, .int .u16 ki, .int .i64 tt, .int .u16 ti, .int .i64 qv, .string qs, .int .i64 qn]] w (OtPost (othR ⟨8, ⟨kt, ki⟩, ⟨tt, ti⟩, qv, qs, qn⟩).cells w) := by
 obtain ⟨W, hW⟩ : ∃ W, (w.alloc (.cells #[.int .i64 8, .int .i64 kt, .int .u16 ki, .int .i64 tt, .int .u16 ti, .int .i64 qv, .string qs, .int .i64 qn] 30)).alloc (.cells #[.int .i64 0, .int .i64 0, .int .u16 0, .int .i64 0, .int .u16 0, .int .i64 0, .string ⟨#[]⟩, .int .i64 0] 30) = W := ⟨_, rfl⟩
 have hbx := Lib.hid (two_rowsI (xs := [.int .i64 8, .int .i64 kt, .int .u16 ki, .int .i64 tt, .int .u16 ti, .int .i64 qv, .string qs, .int .i64 qn]) (ys := [.int .i64 0, .int .i64 0, .int .u16 0, .int .i64 0, .int .u16 0, .int .i64 0, .string ⟨#[]⟩, .int .i64 0]) hW)
 have r0 := Lib.hid hbx.out.2.1
 have z0 := Lib.hid hbx.out.2.2.1
 have b0 := Lib.hid hbx.out.1
 have hsz := Lib.hid hbx.out.1.size
 clear hbx
 have y0 : W.cell? ⟨w.heap.size, 0, none⟩ = some (.int .i64 8) := r0.out.cell 0
 have f0 := r0.out.free 0
 have x0 : W.cell? ⟨w.heap.size + 1, 0, none⟩ = some (.int .i64 0) := z0.out.cell 0
 have g0 := z0.out.free 0
 have y1 : W.cell? ⟨w.heap.size, 1, none⟩ = some (.int .i64 kt) := r0.out.cell 1
 have f1 := r0.out.free 1
 have x1 : W.cell? ⟨w.heap.size + 1, 1, none⟩ = some (.int .i64 0) := z0.out.cell 1
 have g1 := z0.out.free 1
 have y2 : W.cell? ⟨w.heap.size, 2, none⟩ = some (.int .u16 ki) := r0.out.cell 2
 have f2 := r0.out.free 2
 have x2 : W.cell? ⟨w.heap.size + 1, 2, none⟩ = some (.int .u16 0) := z0.out.cell 2
 have g2 := z0.out.free 2
 have y3 : W.cell? ⟨w.heap.size, 3, none⟩ = some (.int .i64 tt) := r0.out.cell 3
 have f3 := r0.out.free 3
 have x3 : W.cell? ⟨w.heap.size + 1, 3, none⟩ = some (.int .i64 0) := z0.out.cell 3
 have g3 := z0.out.free 3
 have y4 : W.cell? ⟨w.heap.size, 4, none⟩ = some (.int .u16 ti) := r0.out.cell 4
 have f4 := r0.out.free 4
 have x4 : W.cell? ⟨w.heap.size + 1, 4, none⟩ = some (.int .u16 0) := z0.out.cell 4
 have g4 := z0.out.free 4
 have y5 : W.cell? ⟨w.heap.size, 5, none⟩ = some (.int .i64 qv) := r0.out.cell 5
 have f5 := r0.out.free 5
 have x5 : W.cell? ⟨w.heap.size + 1, 5, none⟩ = some (.int .i64 0) := z0.out.cell 5
 have g5 := z0.out.free 5
 have y6 : W.cell? ⟨w.heap.size, 6, none⟩ = some (.string qs) := r0.out.cell 6
 have f6 := r0.out.free 6
 have x6 : W.cell? ⟨w.heap.size + 1, 6, none⟩ = some (.string ⟨#[]⟩) := z0.out.cell 6
 have g6 := z0.out.free 6
 have y7 : W.cell? ⟨w.heap.size, 7, none⟩ = some (.int .i64 qn) := r0.out.cell 7
 have f7 := r0.out.free 7
 have x7 : W.cell? ⟨w.heap.size + 1, 7, none⟩ = some (.int .i64 0) := z0.out.cell 7
 have g7 := z0.out.free 7
 obtain ⟨V, hV⟩ : ∃ V, ((((((((((((((W.setCell ⟨w.heap.size, 1, none⟩ (.int .i64 0)).setCell ⟨w.heap.size, 2, none⟩ (.int .u16 0)).setCell ⟨w.heap.size, 3, none⟩ (.int .i64 0)).setCell ⟨w.heap.size, 4, none⟩ (.int .u16 0)).setCell ⟨w.heap.size, 5, none⟩ (.int .i64 0)).setCell ⟨w.heap.size, 0, none⟩ (.int .i64 0)).setCell ⟨w.heap.size + 1, 0, none⟩ (.int .i64 0)).setCell ⟨w.heap.size + 1, 1, none⟩ (.int .i64 0)).setCell ⟨w.heap.size + 1, 2, none⟩ (.int .u16 0)).setCell ⟨w.heap.size + 1, 3, none⟩ (.int .i64 0)).setCell ⟨w.heap.size + 1, 4, none⟩ (.int .u16 0)).setCell ⟨w.heap.size + 1, 5, none⟩ (.int .i64 0)).setCell ⟨w.heap.size + 1, 6, none⟩ (.string qs)).setCell ⟨w.heap.size + 1, 7, none⟩ (.int .i64 qn)) = V := ⟨_, rfl⟩
 have hz : Hid (RowV 30 V (w.heap.size + 1) [.int .i64 0, .int .i64 0, .int .u16 0, .int .i64 0, .int .u16 0, .int .i64 0, .string qs, .int .i64 qn]) := by
  show RowV _ _ _ _
  rw [← hV]
  exact ((((((((((((((z0.out.kept (setCell_grown _ _ _ _) (by omega)).kept (setCell_grown _ _ _ _) (by omega)).kept (setCell_grown _ _ _ _) (by omega)).kept (setCell_grown _ _ _ _) (by omega)).kept (setCell_grown _ _ _ _) (by omega)).kept (setCell_grown _ _ _ _) (by omega)).set 0 (.int .i64 0)).set 1 (.int .i64 0)).set 2 (.int .u16 0)).set 3 (.int .i64 0)).set 4 (.int .u16 0)).set 5 (.int .i64 0)).set 6 (.string qs)).set 7 (.int .i64 qn))
 have hb : Hid (Below w.heap.size w V) := by
  show Below _ _ _
  rw [← hV]
  exact (bset (bset (bset (bset (bset (bset (bset (bset (bset (bset (bset (bset (bset (bset ⟨b0.out, by have := hsz.out; omega⟩ (Nat.le_refl _)) (Nat.le_refl _)) (Nat.le_refl _)) (Nat.le_refl _)) (Nat.le_refl _)) (Nat.le_refl _)) (Nat.le_succ _)) (Nat.le_succ _)) (Nat.le_succ _)) (Nat.le_succ _)) (Nat.le_succ _)) (Nat.le_succ _)) (Nat.le_succ _)) (Nat.le_succ _)).1
 clear r0 z0 b0 hsz
 go_enter Try.func59, Try.ntmps59
 go_wp2
 try rw [hV]
 have m0 := hz.out.cell 0
 have m1 := hz.out.cell 1
 have m2 := hz.out.cell 2
 have m3 := hz.out.cell 3
 have m4 := hz.out.cell 4
 have m5 := hz.out.cell 5
 have m6 := hz.out.cell 6
 have m7 := hz.out.cell 7
 simp only [List.getElem?_cons_zero, List.getElem?_cons_succ] at m0 m1 m2 m3 m4 m5 m6 m7
 refine bodyPost_ret (v := .agg #[.int .i64 0, .int .i64 0, .int .u16 0, .int .i64 0, .int .u16 0, .int .i64 0, .string qs, .int .i64 qn]) (by simp [results, Try.results59, go_sem, m0, m1, m2, m3, m4, m5, m6, m7]) rfl ?_
 exact ⟨rfl, hb.out⟩
set_option maxHeartbeats 4000000 in
theorem oth_10 (kt ki tt ti qv : Int) (qs : ByteArray) (qn : Int) (w : World) :
 Calls Try.prog 59 #[.agg #[.int .i64 10, .int .i64 kt, .int .u16 ki, .int .i64 tt, .int .u16 ti, .int .i64 qv, .string qs, .int .i64 qn]] w (OtPost (othR ⟨10, ⟨kt, ki⟩, ⟨tt, ti⟩, qv, qs, qn⟩).cells w) := by
 obtain ⟨W, hW⟩ : ∃ W, (w.alloc (.cells #[.int .i64 10, .int .i64 kt, .int .u16 ki, .int .i64 tt, .int .u16 ti, .int .i64 qv, .string qs, .int .i64 qn] 30)).alloc (.cells #[.int .i64 0, .int .i64 0, .int .u16 0, .int .i64 0, .int .u16 0, .int .i64 0, .string ⟨#[]⟩, .int .i64 0] 30) = W := ⟨_, rfl⟩
 have hbx := Lib.hid (two_rowsI (xs := [.int .i64 10, .int .i64 kt, .int .u16 ki, .int .i64 tt, .int .u16 ti, .int .i64 qv, .string qs, .int .i64 qn]) (ys := [.int .i64 0, .int .i64 0, .int .u16 0, .int .i64 0, .int .u16 0, .int .i64 0, .string ⟨#[]⟩, .int .i64 0]) hW)
 have r0 := Lib.hid hbx.out.2.1
 have z0 := Lib.hid hbx.out.2.2.1
 have b0 := Lib.hid hbx.out.1
 have hsz := Lib.hid hbx.out.1.size
 clear hbx
 have y0 : W.cell? ⟨w.heap.size, 0, none⟩ = some (.int .i64 10) := r0.out.cell 0
 have f0 := r0.out.free 0
 have x0 : W.cell? ⟨w.heap.size + 1, 0, none⟩ = some (.int .i64 0) := z0.out.cell 0
 have g0 := z0.out.free 0
 have y1 : W.cell? ⟨w.heap.size, 1, none⟩ = some (.int .i64 kt) := r0.out.cell 1
 have f1 := r0.out.free 1
 have x1 : W.cell? ⟨w.heap.size + 1, 1, none⟩ = some (.int .i64 0) := z0.out.cell 1
 have g1 := z0.out.free 1
 have y2 : W.cell? ⟨w.heap.size, 2, none⟩ = some (.int .u16 ki) := r0.out.cell 2
 have f2 := r0.out.free 2
 have x2 : W.cell? ⟨w.heap.size + 1, 2, none⟩ = some (.int .u16 0) := z0.out.cell 2
 have g2 := z0.out.free 2
 have y3 : W.cell? ⟨w.heap.size, 3, none⟩ = some (.int .i64 tt) := r0.out.cell 3
 have f3 := r0.out.free 3
 have x3 : W.cell? ⟨w.heap.size + 1, 3, none⟩ = some (.int .i64 0) := z0.out.cell 3
 have g3 := z0.out.free 3
 have y4 : W.cell? ⟨w.heap.size, 4, none⟩ = some (.int .u16 ti) := r0.out.cell 4
 have f4 := r0.out.free 4
 have x4 : W.cell? ⟨w.heap.size + 1, 4, none⟩ = some (.int .u16 0) := z0.out.cell 4
 have g4 := z0.out.free 4
 have y5 : W.cell? ⟨w.heap.size, 5, none⟩ = some (.int .i64 qv) := r0.out.cell 5
 have f5 := r0.out.free 5
 have x5 : W.cell? ⟨w.heap.size + 1, 5, none⟩ = some (.int .i64 0) := z0.out.cell 5
 have g5 := z0.out.free 5
 have y6 : W.cell? ⟨w.heap.size, 6, none⟩ = some (.string qs) := r0.out.cell 6
 have f6 := r0.out.free 6
 have x6 : W.cell? ⟨w.heap.size + 1, 6, none⟩ = some (.string ⟨#[]⟩) := z0.out.cell 6
 have g6 := z0.out.free 6
 have y7 : W.cell? ⟨w.heap.size, 7, none⟩ = some (.int .i64 qn) := r0.out.cell 7
 have f7 := r0.out.free 7
 have x7 : W.cell? ⟨w.heap.size + 1, 7, none⟩ = some (.int .i64 0) := z0.out.cell 7
 have g7 := z0.out.free 7
 obtain ⟨V, hV⟩ : ∃ V, ((((((((((W.setCell ⟨w.heap.size, 7, none⟩ (.int .i64 0)).setCell ⟨w.heap.size, 0, none⟩ (.int .i64 0)).setCell ⟨w.heap.size + 1, 0, none⟩ (.int .i64 0)).setCell ⟨w.heap.size + 1, 1, none⟩ (.int .i64 kt)).setCell ⟨w.heap.size + 1, 2, none⟩ (.int .u16 ki)).setCell ⟨w.heap.size + 1, 3, none⟩ (.int .i64 tt)).setCell ⟨w.heap.size + 1, 4, none⟩ (.int .u16 ti)).setCell ⟨w.heap.size + 1, 5, none⟩ (.int .i64 qv)).setCell ⟨w.heap.size + 1, 6, none⟩ (.string qs)).setCell ⟨w.heap.size + 1, 7, none⟩ (.int .i64 0)) = V := ⟨_, rfl⟩
 have hz : Hid (RowV 30 V (w.heap.size + 1) [.int .i64 0, .int .i64 kt, .int .u16 ki, .int .i64 tt, .int .u16 ti, .int .i64 qv, .string qs, .int .i64 0]) := by
  show RowV _ _ _ _
  rw [← hV]
  exact ((((((((((z0.out.kept (setCell_grown _ _ _ _) (by omega)).kept (setCell_grown _ _ _ _) (by omega)).set 0 (.int .i64 0)).set 1 (.int .i64 kt)).set 2 (.int .u16 ki)).set 3 (.int .i64 tt)).set 4 (.int .u16 ti)).set 5 (.int .i64 qv)).set 6 (.string qs)).set 7 (.int .i64 0))
 have hb : Hid (Below w.heap.size w V) := by
  show Below _ _ _
  rw [← hV]
  exact (bset (bset (bset (bset (bset (bset (bset (bset (bset (bset ⟨b0.out, by have := hsz.out; omega⟩ (Nat.le_refl _)) (Nat.le_refl _)) (Nat.le_succ _)) (Nat.le_succ _)) (Nat.le_succ _)) (Nat.le_succ _)) (Nat.le_succ _)) (Nat.le_succ _)) (Nat.le_succ _)) (Nat.le_succ _)).1
 clear r0 z0 b0 hsz
 go_enter Try.func59, Try.ntmps59
 go_wp2
 try rw [hV]
 have m0 := hz.out.cell 0
 have m1 := hz.out.cell 1
 have m2 := hz.out.cell 2
 have m3 := hz.out.cell 3
 have m4 := hz.out.cell 4
 have m5 := hz.out.cell 5
 have m6 := hz.out.cell 6
 have m7 := hz.out.cell 7
 simp only [List.getElem?_cons_zero, List.getElem?_cons_succ] at m0 m1 m2 m3 m4 m5 m6 m7
 refine bodyPost_ret (v := .agg #[.int .i64 0, .int .i64 kt, .int .u16 ki, .int .i64 tt, .int .u16 ti, .int .i64 qv, .string qs, .int .i64 0]) (by simp [results, Try.results59, go_sem, m0, m1, m2, m3, m4, m5, m6, m7]) rfl ?_
 exact ⟨rfl, hb.out⟩
set_option maxHeartbeats 4000000 in
theorem oth_no (qk : Int) (kt ki tt ti qv : Int) (qs : ByteArray) (qn : Int) (w : World) (hk : qk ≠ 1 ∧ qk ≠ 2 ∧ qk ≠ 3 ∧ qk ≠ 4 ∧ qk ≠ 5 ∧ qk ≠ 6 ∧ qk ≠ 7 ∧ qk ≠ 8 ∧ qk ≠ 10) :
 Calls Try.prog 59 #[.agg #[.int .i64 qk, .int .i64 kt, .int .u16 ki, .int .i64 tt, .int .u16 ti, .int .i64 qv, .string qs, .int .i64 qn]] w (OtPost (othR ⟨qk, ⟨kt, ki⟩, ⟨tt, ti⟩, qv, qs, qn⟩).cells w) := by
 obtain ⟨W, hW⟩ : ∃ W, (w.alloc (.cells #[.int .i64 qk, .int .i64 kt, .int .u16 ki, .int .i64 tt, .int .u16 ti, .int .i64 qv, .string qs, .int .i64 qn] 30)).alloc (.cells #[.int .i64 0, .int .i64 0, .int .u16 0, .int .i64 0, .int .u16 0, .int .i64 0, .string ⟨#[]⟩, .int .i64 0] 30) = W := ⟨_, rfl⟩
 have hbx := Lib.hid (two_rowsI (xs := [.int .i64 qk, .int .i64 kt, .int .u16 ki, .int .i64 tt, .int .u16 ti, .int .i64 qv, .string qs, .int .i64 qn]) (ys := [.int .i64 0, .int .i64 0, .int .u16 0, .int .i64 0, .int .u16 0, .int .i64 0, .string ⟨#[]⟩, .int .i64 0]) hW)
 have r0 := Lib.hid hbx.out.2.1
 have z0 := Lib.hid hbx.out.2.2.1
 have b0 := Lib.hid hbx.out.1
 have hsz := Lib.hid hbx.out.1.size
 clear hbx
 have y0 : W.cell? ⟨w.heap.size, 0, none⟩ = some (.int .i64 qk) := r0.out.cell 0
 have f0 := r0.out.free 0
 have x0 : W.cell? ⟨w.heap.size + 1, 0, none⟩ = some (.int .i64 0) := z0.out.cell 0
 have g0 := z0.out.free 0
 have y1 : W.cell? ⟨w.heap.size, 1, none⟩ = some (.int .i64 kt) := r0.out.cell 1
 have f1 := r0.out.free 1
 have x1 : W.cell? ⟨w.heap.size + 1, 1, none⟩ = some (.int .i64 0) := z0.out.cell 1
 have g1 := z0.out.free 1
 have y2 : W.cell? ⟨w.heap.size, 2, none⟩ = some (.int .u16 ki) := r0.out.cell 2
 have f2 := r0.out.free 2
 have x2 : W.cell? ⟨w.heap.size + 1, 2, none⟩ = some (.int .u16 0) := z0.out.cell 2
 have g2 := z0.out.free 2
 have y3 : W.cell? ⟨w.heap.size, 3, none⟩ = some (.int .i64 tt) := r0.out.cell 3
 have f3 := r0.out.free 3
 have x3 : W.cell? ⟨w.heap.size + 1, 3, none⟩ = some (.int .i64 0) := z0.out.cell 3
 have g3 := z0.out.free 3
 have y4 : W.cell? ⟨w.heap.size, 4, none⟩ = some (.int .u16 ti) := r0.out.cell 4
 have f4 := r0.out.free 4
 have x4 : W.cell? ⟨w.heap.size + 1, 4, none⟩ = some (.int .u16 0) := z0.out.cell 4
 have g4 := z0.out.free 4
 have y5 : W.cell? ⟨w.heap.size, 5, none⟩ = some (.int .i64 qv) := r0.out.cell 5
 have f5 := r0.out.free 5
 have x5 : W.cell? ⟨w.heap.size + 1, 5, none⟩ = some (.int .i64 0) := z0.out.cell 5
 have g5 := z0.out.free 5
 have y6 : W.cell? ⟨w.heap.size, 6, none⟩ = some (.string qs) := r0.out.cell 6
 have f6 := r0.out.free 6
 have x6 : W.cell? ⟨w.heap.size + 1, 6, none⟩ = some (.string ⟨#[]⟩) := z0.out.cell 6
 have g6 := z0.out.free 6
 have y7 : W.cell? ⟨w.heap.size, 7, none⟩ = some (.int .i64 qn) := r0.out.cell 7
 have f7 := r0.out.free 7
 have x7 : W.cell? ⟨w.heap.size + 1, 7, none⟩ = some (.int .i64 0) := z0.out.cell 7
 have g7 := z0.out.free 7
 have n1 : (qk == 1) = false := by simp; omega
 have n2 : (qk == 2) = false := by simp; omega
 have n3 : (qk == 3) = false := by simp; omega
 have n4 : (qk == 4) = false := by simp; omega
 have n5 : (qk == 5) = false := by simp; omega
 have n6 : (qk == 6) = false := by simp; omega
 have n7 : (qk == 7) = false := by simp; omega
 have n8 : (qk == 8) = false := by simp; omega
 have n10 : (qk == 10) = false := by simp; omega
 have hr : othR ⟨qk, ⟨kt, ki⟩, ⟨tt, ti⟩, qv, qs, qn⟩ = ⟨0, ⟨kt, ki⟩, ⟨tt, ti⟩, qv, qs, qn⟩ := by
  unfold othR
  simp only
  rw [if_neg (by omega), if_neg (by omega), if_neg (by omega), if_neg (by omega), if_neg (by omega), if_neg (by omega), if_neg (by omega)]
 rw [hr]
 clear hk hr
 obtain ⟨V, hV⟩ : ∃ V, (((((((((W.setCell ⟨w.heap.size, 0, none⟩ (.int .i64 0)).setCell ⟨w.heap.size + 1, 0, none⟩ (.int .i64 0)).setCell ⟨w.heap.size + 1, 1, none⟩ (.int .i64 kt)).setCell ⟨w.heap.size + 1, 2, none⟩ (.int .u16 ki)).setCell ⟨w.heap.size + 1, 3, none⟩ (.int .i64 tt)).setCell ⟨w.heap.size + 1, 4, none⟩ (.int .u16 ti)).setCell ⟨w.heap.size + 1, 5, none⟩ (.int .i64 qv)).setCell ⟨w.heap.size + 1, 6, none⟩ (.string qs)).setCell ⟨w.heap.size + 1, 7, none⟩ (.int .i64 qn)) = V := ⟨_, rfl⟩
 have hz : Hid (RowV 30 V (w.heap.size + 1) [.int .i64 0, .int .i64 kt, .int .u16 ki, .int .i64 tt, .int .u16 ti, .int .i64 qv, .string qs, .int .i64 qn]) := by
  show RowV _ _ _ _
  rw [← hV]
  exact (((((((((z0.out.kept (setCell_grown _ _ _ _) (by omega)).set 0 (.int .i64 0)).set 1 (.int .i64 kt)).set 2 (.int .u16 ki)).set 3 (.int .i64 tt)).set 4 (.int .u16 ti)).set 5 (.int .i64 qv)).set 6 (.string qs)).set 7 (.int .i64 qn))
 have hb : Hid (Below w.heap.size w V) := by
  show Below _ _ _
  rw [← hV]
  exact (bset (bset (bset (bset (bset (bset (bset (bset (bset ⟨b0.out, by have := hsz.out; omega⟩ (Nat.le_refl _)) (Nat.le_succ _)) (Nat.le_succ _)) (Nat.le_succ _)) (Nat.le_succ _)) (Nat.le_succ _)) (Nat.le_succ _)) (Nat.le_succ _)) (Nat.le_succ _)).1
 clear r0 z0 b0 hsz
 go_enter Try.func59, Try.ntmps59
 go_wp2
 try rw [hV]
 have m0 := hz.out.cell 0
 have m1 := hz.out.cell 1
 have m2 := hz.out.cell 2
 have m3 := hz.out.cell 3
 have m4 := hz.out.cell 4
 have m5 := hz.out.cell 5
 have m6 := hz.out.cell 6
 have m7 := hz.out.cell 7
 simp only [List.getElem?_cons_zero, List.getElem?_cons_succ] at m0 m1 m2 m3 m4 m5 m6 m7
 refine bodyPost_ret (v := .agg #[.int .i64 0, .int .i64 kt, .int .u16 ki, .int .i64 tt, .int .u16 ti, .int .i64 qv, .string qs, .int .i64 qn]) (by simp [results, Try.results59, go_sem, m0, m1, m2, m3, m4, m5, m6, m7]) rfl ?_
 exact ⟨rfl, hb.out⟩
theorem others_any (qk kt ki tt ti qv : Int) (qs : ByteArray) (qn : Int) (w : World) :
 Calls Try.prog 59 #[.agg #[.int .i64 qk, .int .i64 kt, .int .u16 ki, .int .i64 tt, .int .u16 ti, .int .i64 qv, .string qs, .int .i64 qn]] w (OtPost (othR ⟨qk, ⟨kt, ki⟩, ⟨tt, ti⟩, qv, qs, qn⟩).cells w) := by
 by_cases h : qk = 1 ∨ qk = 2 ∨ qk = 3 ∨ qk = 4 ∨ qk = 5 ∨ qk = 6 ∨ qk = 7 ∨ qk = 8 ∨ qk = 10
 · rcases h with rfl | rfl | rfl | rfl | rfl | rfl | rfl | rfl | rfl
   · exact oth_1 kt ki tt ti qv qs qn w
   · exact oth_2 kt ki tt ti qv qs qn w
   · exact oth_3 kt ki tt ti qv qs qn w
   · exact oth_4 kt ki tt ti qv qs qn w
   · exact oth_5 kt ki tt ti qv qs qn w
   · exact oth_6 kt ki tt ti qv qs qn w
   · exact oth_7 kt ki tt ti qv qs qn w
   · exact oth_8 kt ki tt ti qv qs qn w
   · exact oth_10 kt ki tt ti qv qs qn w
 · exact oth_no qk kt ki tt ti qv qs qn w (by omega)
end Go.Proofs.Ytkdkncbccofpdaa
