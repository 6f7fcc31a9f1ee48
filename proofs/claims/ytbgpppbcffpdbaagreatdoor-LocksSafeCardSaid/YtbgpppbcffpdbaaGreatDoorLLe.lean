/- Leave of locks. -/
import Derived.Test.YtbgpppbcffpdbaaGreatDoorLRe
namespace Go.Proofs.YtbgpppbcffpdbaaGreatDoor
open Go.RowKit

set_option maxRecDepth 100000 in
set_option maxHeartbeats 2000000 in
theorem leave_any (q : Option Addr) (n c : Nat) (V : List QV) (L : List QueD) (x : Int) (L' : List QueD) (g : List Int) (er : Int) (he : LeaR L x L' g er) (w : World) (hL : Lay w) (h : LkOn w q n c V L) (hsm : Sm L) (hn : n ≤ 900000) :
    Calls Tryz.prog 32 #[.agg #[.slice q n c], .int .i64 x] w (RePost L' g er w) := by
  obtain ⟨W0, hW0⟩ : ∃ W, w.alloc (.cells #[.slice q n c] 24) = W := ⟨_, rfl⟩
  have hb0 := Lib.hid (one_box (xs := [.slice q n c]) hW0)
  obtain ⟨W1, hW1⟩ : ∃ W, W0.alloc (.cells #[.int .i64 x] 3) = W := ⟨_, rfl⟩
  have hb1 := Lib.hid (one_box (xs := [.int .i64 x]) hW1)
  obtain ⟨W, hW⟩ : ∃ W, W1.alloc (.cells #[.slice none 0 0] 24) = W := ⟨_, rfl⟩
  have hb2 := Lib.hid (one_box (xs := [.slice none 0 0]) hW)
  have hr2 : Hid (RowV 24 W W1.heap.size [.slice none 0 0]) := RowV.made' (cs := [.slice none 0 0]) hW
  have hs0 : Hid (W0.heap.size = w.heap.size + 1) := hb0.out.2.2
  have hs1 : Hid (W1.heap.size = w.heap.size + 2) := by show _ = _; have h1 := hb1.out.2.2; have h2 := hs0.out; omega
  have hs2 : Hid (W.heap.size = w.heap.size + 3) := by show _ = _; have h1 := hb2.out.2.2; have h2 := hs1.out; omega
  have hb12 := Lib.hid (below_step hb2.out.1 hb1.out.1)
  have hbW := Lib.hid (below_step hb12.out hb0.out.1)
  have x0 := Lib.hid (hb0.out.2.1.below hb12.out (Nat.le_refl _))
  have x1 := Lib.hid (hb1.out.2.1.below hb2.out.1 (Nat.le_refl _))
  have hon := Lib.hid h
  have hh := Lib.hid (h.below hbW.out (Nat.le_refl _))
  have s1 := sizeLks (.slice q n c)
  have sz := sizeLks (.slice none 0 0)
  have honez : ∀ y ∈ ([.slice none 0 0] : List Value), y.oneCell' = true := fun y hy => by obtain rfl := List.mem_singleton.1 hy; rfl
  have hLW : Hid (Lay W) := ⟨hL.goes hbW.out, hL.cov hbW.out⟩
  have hsm' := Lib.hid hsm
  have hn' := Lib.hid hn
  have c1 := x1.out.cell 0 rfl
  clear h hsm hL hn
  rcases he with ⟨h1, h2, rfl, rfl⟩ | ⟨h1, hw0, rfl, rfl, rfl⟩ | ⟨h1, ⟨d0, hw0⟩, rfl, rfl, rfl⟩
  · have hc := Lib.hid (mayCall_any q n c V L x er h1 W hLW.out hh.out hsm'.out)
    have h2' : (er == 0) = false := by simpa using h2
    clear h1
    go_enter Tryz.func32, Tryz.ntmps32
    go_wp2_with (first
      | (with_reducible refine wpList_load_at rfl 24 (.tmp 2) rfl Tryz.underlying24 rfl s1 rfl x0.out.all ?_)
      | (go_at_call 58; refine hc.out.mono ?_; rintro e5 w2 ⟨rfl, hb2⟩; have hb3 := Lib.hid (below_step hb2 hbW.out); have r2 := Lib.hid (hr2.out.below hb2); clear hb2 hW hW0 hW1)
      | ((with_reducible refine wpList_store_at rfl 24 (.tmp 4) (.tmp 18) rfl (o := 0) (vs := [.slice none 0 0]) rfl rfl r2.out sz (Nat.le_refl _) honez ?_)
         intro w9 h9 hg9
         have q9 : Hid (RowV 24 w9 W1.heap.size [.slice none 0 0]) := h9
         have hg9' := Lib.hid hg9
         clear h9 hg9))
    have m0 := q9.out.cell 0
    simp only [List.getElem?_cons_zero] at m0
    have hfin : Below w.heap.size w w9 := low_step hb3.out hg9'.out (by have := hs1.out; omega)
    exact bodyPost_ret (v := .tuple #[.agg #[.slice none 0 0], .slice none 0 0, .int .i64 er]) (by simp [results, Tryz.results32, go_sem, m0]) rfl ⟨none, 0, 0, [], none, 0, 0, rfl, lkp_nil _ _, OwnS.nil _ _ _, hfin⟩
  · have hc := Lib.hid (mayCall_any q n c V L x 0 h1 W hLW.out hh.out hsm'.out)
    have hck := Lib.hid h1.chk.1
    have hwt := Lib.hid (fun u (hu : Below W.heap.size W u) => waiting_any q n c V L x u (hh.out.below hu (Nat.le_refl _)) hsm'.out (by have := hn'.out; omega) hck.out.sorts)
    clear h1
    go_enter Tryz.func32, Tryz.ntmps32
    go_wp2_with (first
      | (with_reducible refine wpList_load_at rfl 24 (.tmp 2) rfl Tryz.underlying24 rfl s1 rfl x0'.out.all ?_)
      | (with_reducible refine wpList_load_at rfl 24 (.tmp 2) rfl Tryz.underlying24 rfl s1 rfl x0.out.all ?_)
      | (go_at_call 58; refine hc.out.mono ?_; rintro e5 w2 ⟨rfl, hb2⟩; have hb3 := Lib.hid hb2; have r2 := Lib.hid (hr2.out.below hb2); have x0' := Lib.hid (x0.out.below hb2 (Nat.le_refl _)); have c1' := (x1.out.below hb2 (Nat.le_refl _)).cell 0 rfl; clear hb2 hW hW0 hW1 c1)
      | (go_at_call 45
         refine (hwt.out _ hb3.out).mono ?_
         rintro e7 w3 ⟨hb8, ⟨⟨va, vb, vc⟩, vq, vn, vm, uq, un, um⟩, p, b, rfl, hcase⟩
         obtain rfl : b = false := by
           rcases hcase with ⟨h1, _, hno⟩ | ⟨h1, i, d, hd, _, hp, h0, hno⟩
           · exact h1
           · rw [hp] at h0; rw [wtOf_some hd h0 hno] at hw0; cases hw0
         have hb9 := Lib.hid (below_step hb8 hb3.out)
         obtain ⟨w4, hw4⟩ : ∃ w4, w3.alloc (.cells #[.int .i64 va, .bool vb, .int .u16 vc, .slice vq vn vm, .slice uq un um] 43) = w4 := ⟨_, rfl⟩
         have hb7 := Lib.hid (one_box (xs := [.int .i64 va, .bool vb, .int .u16 vc, .slice vq vn vm, .slice uq un um]) hw4)
         have hb10 := Lib.hid (below_step hb7.out.1 hb9.out)
         have r4 := Lib.hid ((r2.out.below hb8).below hb7.out.1)
         have x4 := Lib.hid (x0.out.below hb10.out (Nat.le_refl _))
         have c4 := (x1.out.below hb10.out (Nat.le_refl _)).cell 0 rfl
         clear hb8 hcase c1'
         simp only [QV.val_eq])
      | ((with_reducible refine wpList_store_at rfl 24 (.tmp 4) (.tmp 29) rfl (o := 0) (vs := [.slice none 0 0]) rfl rfl r4.out sz (Nat.le_refl _) honez ?_)
         intro w9 h9 hg9
         have q9 : Hid (RowV 24 w9 W1.heap.size [.slice none 0 0]) := h9
         have hg9' := Lib.hid hg9
         clear h9 hg9))
    have m0 := q9.out.cell 0
    simp only [List.getElem?_cons_zero] at m0
    have hfin : Below w.heap.size w w9 := low_step (below_step hb10.out hbW.out) hg9'.out (by have := hs1.out; omega)
    exact bodyPost_ret (v := .tuple #[.agg #[.slice none 0 0], .slice none 0 0, .int .i64 4]) (by simp [results, Tryz.results32, go_sem, m0]) rfl ⟨none, 0, 0, [], none, 0, 0, rfl, lkp_nil _ _, OwnS.nil _ _ _, hfin⟩
  · have hc := Lib.hid (mayCall_any q n c V L x 0 h1 W hLW.out hh.out hsm'.out)
    have hck := Lib.hid h1.chk.1
    have hwo := Lib.hid (fun u (hu : Below W.heap.size W u) => withoutL_any W0.heap.size q n c V L x (leaD x) u (hLW.out.goes hu) (hh.out.below hu (Nat.le_refl _)) hsm'.out hn'.out hck.out.sorts (do_leave _ L _ x u ((x1.out.below hu (Nat.le_refl _)).cell 0 rfl) hsm'.out) (fok_lea hck.out hsm'.out x))
    have hwt := Lib.hid (fun u (hu : Below W.heap.size W u) => waiting_any q n c V L x u (hh.out.below hu (Nat.le_refl _)) hsm'.out (by have := hn'.out; omega) hck.out.sorts)
    clear h1
    go_enter Tryz.func32, Tryz.ntmps32
    go_wp2_with (first
      | (with_reducible refine wpList_load_at rfl 24 (.tmp 2) rfl Tryz.underlying24 rfl s1 rfl x4.out.all ?_)
      | (with_reducible refine wpList_load_at rfl 24 (.tmp 2) rfl Tryz.underlying24 rfl s1 rfl x0'.out.all ?_)
      | (with_reducible refine wpList_load_at rfl 24 (.tmp 2) rfl Tryz.underlying24 rfl s1 rfl x0.out.all ?_)
      | (go_at_call 58; refine hc.out.mono ?_; rintro e5 w2 ⟨rfl, hb2⟩; have hb3 := Lib.hid hb2; have r2 := Lib.hid (hr2.out.below hb2); have x0' := Lib.hid (x0.out.below hb2 (Nat.le_refl _)); have c1' := (x1.out.below hb2 (Nat.le_refl _)).cell 0 rfl; clear hb2 hW hW0 hW1 c1)
      | (go_at_call 45
         refine (hwt.out _ hb3.out).mono ?_
         rintro e7 w3 ⟨hb8, ⟨⟨va, vb, vc⟩, vq, vn, vm, uq, un, um⟩, p, b, rfl, hcase⟩
         obtain rfl : b = true := by
           rcases hcase with ⟨h1, _, hno⟩ | ⟨h1, i, d, hd, _, hp, h0, hno⟩
           · rw [wtOf_none hno] at hw0; cases hw0
           · exact h1
         have hb9 := Lib.hid (below_step hb8 hb3.out)
         obtain ⟨w4, hw4⟩ : ∃ w4, w3.alloc (.cells #[.int .i64 va, .bool vb, .int .u16 vc, .slice vq vn vm, .slice uq un um] 43) = w4 := ⟨_, rfl⟩
         have hb7 := Lib.hid (one_box (xs := [.int .i64 va, .bool vb, .int .u16 vc, .slice vq vn vm, .slice uq un um]) hw4)
         have hb10 := Lib.hid (below_step hb7.out.1 hb9.out)
         have r4 := Lib.hid ((r2.out.below hb8).below hb7.out.1)
         have x4 := Lib.hid (x0.out.below hb10.out (Nat.le_refl _))
         have c4 := (x1.out.below hb10.out (Nat.le_refl _)).cell 0 rfl
         clear hb8 hcase c1'
         simp only [QV.val_eq])
      | (go_at_call 59
         refine (hwo.out _ hb10.out).mono ?_
         rintro e6 w5 ⟨q', n', c', V', gq, gn, gc, rfl, k1, k2, k3⟩
         have hk1 := Lib.hid k1
         have hk2 := Lib.hid k2
         have hk3 := Lib.hid k3
         have r5 := Lib.hid (r4.out.below k3)
         obtain ⟨w6, hw6⟩ : ∃ w6, w5.alloc (.cells #[.slice q' n' c'] 24) = w6 := ⟨_, rfl⟩
         have hb6 := Lib.hid (one_box (xs := [.slice q' n' c']) hw6)
         have r6 := Lib.hid (r5.out.below hb6.out.1)
         have t6 := sizeLks (.slice q' n' c')
         have hone6 : ∀ y ∈ ([.slice q' n' c'] : List Value), y.oneCell' = true := fun y hy => by obtain rfl := List.mem_singleton.1 hy; rfl
         clear k1 k2 k3 c4)
      | (with_reducible refine wpList_load_at rfl 24 (.tmp 11) rfl Tryz.underlying24 rfl t6 rfl hb6.out.2.1.all ?_)
      | ((with_reducible refine wpList_store_at rfl 24 (.tmp 4) (.tmp 37) rfl (o := 0) (vs := [.slice q' n' c']) rfl rfl r6.out t6 (Nat.le_refl _) hone6 ?_)
         intro w9 h9 hg9
         have q9 : Hid (RowV 24 w9 W1.heap.size [.slice q' n' c']) := h9
         have hg9' := Lib.hid hg9
         clear h9 hg9))
    have m0 := q9.out.cell 0
    simp only [List.getElem?_cons_zero] at m0
    have hbl : Below w.heap.size w w6 := below_step hb6.out.1 (below_step hk3.out (below_step hb10.out hbW.out))
    have hfin : Below w.heap.size w w9 := low_step hbl hg9'.out (by have := hs1.out; omega)
    have hz := hb10.out.size
    refine bodyPost_ret (v := .tuple #[.agg #[.slice q' n' c'], .slice gq gn gc, .int .i64 0]) (by simp [results, Tryz.results32, go_sem, m0]) rfl ⟨q', n', c', V', gq, gn, gc, rfl, ?_, ?_, hfin⟩
    · exact ((hk1.out.below hb6.out.1).gr hg9'.out (by have := hs1.out; have := hs2.out; omega)).mono (by have := hs2.out; omega)
    · exact ((hk2.out.below hb6.out.1).gr hg9'.out (by have := hs1.out; have := hs2.out; omega)).mono (by have := hs2.out; omega)
end Go.Proofs.YtbgpppbcffpdbaaGreatDoor
