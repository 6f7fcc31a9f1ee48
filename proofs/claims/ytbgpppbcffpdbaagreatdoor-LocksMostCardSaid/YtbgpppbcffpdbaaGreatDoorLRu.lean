/- (Op).run of the laws on locks. -/
import Derived.Test.YtbgpppbcffpdbaaGreatDoorLAs
import Derived.Test.YtbgpppbcffpdbaaGreatDoorLLe
namespace Go.Proofs.YtbgpppbcffpdbaaGreatDoor
open Go.RowKit

theorem sizeOp (a b c d e f : Value) : (Tryz.prog.info? 32).map (·.size) = some [a, b, c, d, e, f].length := by kernel_rfl
theorem sizeTold (a b c d : Value) : (Tryz.prog.info? 36).map (·.size) = some [a, b, c, d].length := by kernel_rfl
/-- which kind it is -/
def kindR (k : Int) : Int := (IntKind.u64.wrap k).tmod 7
def RunPost (L : List QueD) (wh : Int) (g : List Int) (er : Int) (w : World) (e : Ending) (w' : World) : Prop := ∃ q' n' c' V' gq gn gc, e = .returned (.agg #[.slice q' n' c', .int .i64 wh, .slice gq gn gc, .int .i64 er]) ∧ LkP w' w.heap.size q' n' c' V' L ∧ OwnS 3 w' w.heap.size (.slice gq gn gc) g ∧ Below w.heap.size w w'

set_option maxRecDepth 100000 in
set_option maxHeartbeats 4000000 in
theorem run_ask (q : Option Addr) (n c : Nat) (V : List QV) (L : List QueD) (kd x m t : Int) (k : Bool) (id : Int) (L' : List QueD) (wh er : Int) (hkd : kindR kd ≠ 5) (hkd6 : kindR kd ≠ 6) (he : AskR L x ⟨t, k, id⟩ m L' wh er) (w : World) (hL : Lay w) (h : LkOn w q n c V L) (hsm : Sm L) (hn : n ≤ 900000) (g0 : 0 ≤ id) (g1 : id < 65536) :
    Calls Tryz.prog 12 #[.agg #[.int .i64 kd, .int .i64 x, .int .i64 m, .int .i64 t, .bool k, .int .u16 id], .agg #[.slice q n c]] w (RunPost L' wh [] er w) := by
  obtain ⟨W0, hW0⟩ : ∃ W, w.alloc (.cells #[.int .i64 kd, .int .i64 x, .int .i64 m, .int .i64 t, .bool k, .int .u16 id] 32) = W := ⟨_, rfl⟩
  have hb0 := Lib.hid (one_box (xs := [.int .i64 kd, .int .i64 x, .int .i64 m, .int .i64 t, .bool k, .int .u16 id]) hW0)
  obtain ⟨W1, hW1⟩ : ∃ W, W0.alloc (.cells #[.slice q n c] 24) = W := ⟨_, rfl⟩
  have hb1 := Lib.hid (one_box (xs := [.slice q n c]) hW1)
  obtain ⟨W, hW⟩ : ∃ W, W1.alloc (.cells #[.slice none 0 0, .int .i64 0, .slice none 0 0, .int .i64 0] 36) = W := ⟨_, rfl⟩
  have hb2 := Lib.hid (one_box (xs := [.slice none 0 0, .int .i64 0, .slice none 0 0, .int .i64 0]) hW)
  have hr2 : Hid (RowV 36 W W1.heap.size [.slice none 0 0, .int .i64 0, .slice none 0 0, .int .i64 0]) := RowV.made' (cs := [.slice none 0 0, .int .i64 0, .slice none 0 0, .int .i64 0]) hW
  have hs0 : Hid (W0.heap.size = w.heap.size + 1) := hb0.out.2.2
  have hs1 : Hid (W1.heap.size = w.heap.size + 2) := by show _ = _; have h1 := hb1.out.2.2; have h2 := hs0.out; omega
  have hs2 : Hid (W.heap.size = w.heap.size + 3) := by show _ = _; have h1 := hb2.out.2.2; have h2 := hs1.out; omega
  have hb12 := Lib.hid (below_step hb2.out.1 hb1.out.1)
  have hbW := Lib.hid (below_step hb12.out hb0.out.1)
  have x0 := Lib.hid (hb0.out.2.1.below hb12.out (Nat.le_refl _))
  have x1 := Lib.hid (hb1.out.2.1.below hb2.out.1 (Nat.le_refl _))
  have hh := Lib.hid (h.below hbW.out (Nat.le_refl _))
  have s1 := sizeLks (.slice q n c)
  have s3 := sizeRes (.int .i64 t) (.bool k) (.int .u16 id)
  have hcl := Lib.hid (ask_any q n c V L x t k id m L' wh er he W ⟨hL.goes hbW.out, hL.cov hbW.out⟩ hh.out hsm hn g0 g1)
  have c0 := x0.out.cell 0 rfl
  have c1 := x0.out.cell 1 rfl
  have c2 := x0.out.cell 2 rfl
  have hres : Hid (∀ j v, ([.int .i64 t, .bool k, .int .u16 id] : List Value)[j]? = some v → W.cell? ((⟨w.heap.size, 3, none⟩ : Addr).add j) = some v) := fun j v hj => x0.out.part (o := 3) (ys := [.int .i64 t, .bool k, .int .u16 id]) (fun j v hj => by match j, hj with | 0, h => exact h | 1, h => exact h | 2, h => exact h | j + 3, h => simp at h) j v hj
  obtain ⟨kr, hkr⟩ : ∃ kr, (IntKind.u64.wrap kd).tmod 7 = kr := ⟨_, rfl⟩
  have kr5 : (kr == 5) = false := by have : kr ≠ 5 := by rw [← hkr]; exact hkd
                                     simpa using this
  have kr6 : (kr == 6) = false := by have : kr ≠ 6 := by rw [← hkr]; exact hkd6
                                     simpa using this
  clear h hsm hL hn
  go_enter Tryz.func12, Tryz.ntmps12
  go_wp2_with (first
    | (with_reducible refine wpList_load_at rfl 24 (.tmp 3) rfl Tryz.underlying24 rfl s1 rfl x1.out.all ?_)
    | (with_reducible refine wpList_load_at rfl 30 (.tmp 13) rfl Tryz.underlying30 rfl s3 rfl hres.out ?_))
  refine hcl.out.mono ?_
  rintro e5 w5 ⟨q', n', c', V', rfl, k1, k3⟩
  have hk1 := Lib.hid k1
  have hk3 := Lib.hid k3
  have r5 := Lib.hid (hr2.out.below k3)
  have t6 := sizeLks (.slice q' n' c')
  have hone6 : ∀ y ∈ ([.slice q' n' c'] : List Value), y.oneCell' = true := fun y hy => by obtain rfl := List.mem_singleton.1 hy; rfl
  have hfit : 0 + [Value.slice q' n' c'].length ≤ [Value.slice none 0 0, Value.int .i64 0, Value.slice none 0 0, Value.int .i64 0].length := by show 1 ≤ 4; omega
  have t4 := sizeTold (.slice q' n' c') (.int .i64 wh) (.slice none 0 0) (.int .i64 er)
  have hone4 : ∀ y ∈ ([.slice q' n' c', (.int .i64 wh), (.slice none 0 0), .int .i64 er] : List Value), y.oneCell' = true := fun y hy => by simp only [List.mem_cons, List.not_mem_nil, or_false] at hy; rcases hy with rfl | rfl | rfl | rfl <;> rfl
  clear k1 k3 hcl hW hW0 hW1 c0 c1 c2
  go_wp2_with (first
    | ((with_reducible refine wpList_store_at rfl 24 (.tmp 21) (.tmp 18) rfl (o := 0) (vs := [.slice q' n' c']) rfl rfl r5.out t6 hfit hone6 ?_)
       intro w8 h8 hg8
       have q8 : Hid (RowV 36 w8 W1.heap.size [.slice q' n' c', .int .i64 0, .slice none 0 0, .int .i64 0]) := h8
       have hg8' := Lib.hid hg8
       have d1 := q8.out.cell 1
       have d3 := q8.out.cell 3
       have f1 := q8.out.free 1
       have f3 := q8.out.free 3
       simp only [List.getElem?_cons_zero, List.getElem?_cons_succ] at d1 d3
       obtain ⟨w10, hw10⟩ : ∃ w10, (w8.setCell ⟨W1.heap.size, 1, none⟩ (.int .i64 wh)).setCell ⟨W1.heap.size, 3, none⟩ (.int .i64 er) = w10 := ⟨_, rfl⟩
       have q10 : Hid (RowV 36 w10 W1.heap.size [.slice q' n' c', (.int .i64 wh), (.slice none 0 0), .int .i64 er]) := by rw [← hw10]; exact (q8.out.set 1 _).set 3 _
       have hg10 : Hid (w8.grownBy w10 (some W1.heap.size)) := by rw [← hw10]; exact grown_trans (setCell_grown w8 W1.heap.size _ _) (setCell_grown _ W1.heap.size _ _)
       clear h8 hg8)
    | (with_reducible refine wpList_load_at rfl 36 (.tmp 4) rfl Tryz.underlying36 rfl t4 rfl q10.out.boxed.all ?_)
    | ((with_reducible refine wpList_store_at rfl 36 (.tmp 4) (.tmp 50) rfl (o := 0) (vs := [.slice q' n' c', (.int .i64 wh), (.slice none 0 0), .int .i64 er]) rfl rfl q10.out t4 (Nat.le_refl _) hone4 ?_)
       intro w9 h9 hg9
       have q9 : Hid (RowV 36 w9 W1.heap.size [.slice q' n' c', (.int .i64 wh), (.slice none 0 0), .int .i64 er]) := h9
       have hg9' := Lib.hid hg9
       clear h9 hg9 d1 d3 f1 f3 hw10))
  have m0 := q9.out.cell 0
  have m1 := q9.out.cell 1
  have m2 := q9.out.cell 2
  have m3 := q9.out.cell 3
  simp only [List.getElem?_cons_zero, List.getElem?_cons_succ] at m0 m1 m2 m3
  have hlt : W1.heap.size < W.heap.size := by have := hs1.out; have := hs2.out; omega
  have hgg := grown_trans (grown_trans hg8'.out hg10.out) hg9'.out
  have hfin : Below w.heap.size w w9 := low_step (below_step hk3.out hbW.out) hgg (by have := hs1.out; omega)
  have hle : w.heap.size ≤ W.heap.size := hbW.out.size
  exact bodyPost_ret (v := .agg #[.slice q' n' c', (.int .i64 wh), (.slice none 0 0), .int .i64 er]) (by simp [results, Tryz.results12, go_sem, m0, m1, m2, m3]) rfl ⟨q', n', c', V', none, 0, 0, rfl, (hk1.out.gr hgg hlt).mono hle, OwnS.nil _ _ _, hfin⟩
end Go.Proofs.YtbgpppbcffpdbaaGreatDoor
