/- Release and Leave of locks. -/
import Derived.Test.YtbgpppbcffpdbaaGreatDoorLDo
import Derived.Test.YtbgpppbcffpdbaaGreatDoorLWs
namespace Go.Proofs.YtbgpppbcffpdbaaGreatDoor
open Go.RowKit

theorem fok_rel {L : List QueD} (h : ChkOk L) (hsm : Sm L) (x : Int) : FOk (relD x) L := fun d hd =>
  ⟨(h.sorts d hd).filter _, Nat.le_trans (List.length_filter_le _ _) (hsm d hd).1, Nat.le_trans (List.length_filter_le _ _) (hsm d hd).2, rfl⟩
/-- what Release and Leave answer -/
def RePost (L : List QueD) (g : List Int) (er : Int) (w : World) (e : Ending) (w' : World) : Prop := ∃ q' n' c' V' gq gn gc, e = .returned (.tuple #[.agg #[.slice q' n' c'], .slice gq gn gc, .int .i64 er]) ∧ LkP w' w.heap.size q' n' c' V' L ∧ OwnS 3 w' w.heap.size (.slice gq gn gc) g ∧ Below w.heap.size w w'
def RelR (L : List QueD) (x : Int) (L' : List QueD) (g : List Int) (e : Int) : Prop := (CallE L x e ∧ e ≠ 0 ∧ L' = [] ∧ g = []) ∨ (CallE L x 0 ∧ e = 0 ∧ L' = woL (relD x) x L ∧ g = woG (relD x) x L)
theorem CallE.chk {L : List QueD} {x : Int} (h : CallE L x 0) : ChkOk L ∧ txnB x = true := by
  rcases h with ⟨_, h⟩ | ⟨_, _, h⟩ | ⟨h1, h2, _⟩
  · cases h
  · cases h
  · exact ⟨h1, h2⟩
theorem LkP.gr {w w' : World} {lo g n c : Nat} {q : Option Addr} {V : List QV} {L : List QueD} (h : LkP w lo q n c V L) (hg : w.grownBy w' (some g)) (hlo : g < lo) : LkP w' lo q n c V L := by
  have hf : Fr (fun k => k = g) w w' := Fr.of_grown hg (fun k e => by cases e; rfl)
  exact ⟨h.row.fr hf (fun a ha e => by have := (h.row.far a ha).1; omega), h.len, fun i v d h1 h2 => (h.on i v d h1 h2).fr hf (fun b hb e => by have := ((h.on i v d h1 h2).lt b hb).1; omega), h.nd, h.ne⟩
theorem OwnS.gr {α : Type} [Cel α] {T : TypeId} {w w' : World} {lo g n c : Nat} {q : Option Addr} {l : List α} (h : OwnS T w lo (.slice q n c) l) (hg : w.grownBy w' (some g)) (hlo : g < lo) : OwnS T w' lo (.slice q n c) l :=
  h.kept (fun a ha => hg.block _ (h.far a ha).2 (fun e => by
    have h1 := (h.far a ha).1
    have e2 : a.block = g := by simpa using e
    omega))
theorem lkp_nil (w : World) (lo : Nat) : LkP w lo none 0 0 [] [] := ⟨OwnS.nil _ _ _, rfl, fun i v d h => by simp at h, by simp [bl], fun a h => by cases h⟩

set_option maxRecDepth 100000 in
set_option maxHeartbeats 2000000 in
theorem release_any (q : Option Addr) (n c : Nat) (V : List QV) (L : List QueD) (x : Int) (L' : List QueD) (g : List Int) (er : Int) (he : RelR L x L' g er) (w : World) (hL : Lay w) (h : LkOn w q n c V L) (hsm : Sm L) (hn : n ≤ 900000) :
    Calls Tryz.prog 29 #[.agg #[.slice q n c], .int .i64 x] w (RePost L' g er w) := by
  obtain ⟨W0, hW0⟩ : ∃ W, w.alloc (.cells #[.slice q n c] 24) = W := ⟨_, rfl⟩
  have hb0 := Lib.hid (one_box (xs := [.slice q n c]) hW0)
  obtain ⟨W1, hW1⟩ : ∃ W, W0.alloc (.cells #[.int .i64 x] 3) = W := ⟨_, rfl⟩
  have hb1 := Lib.hid (one_box (xs := [.int .i64 x]) hW1)
  obtain ⟨W, hW⟩ : ∃ W, W1.alloc (.cells #[.slice none 0 0] 24) = W := ⟨_, rfl⟩
  have hb2 := Lib.hid (one_box (xs := [.slice none 0 0]) hW)
  have hr2 : Hid (RowV 24 W W1.heap.size [.slice none 0 0]) := RowV.made' (cs := [.slice none 0 0]) hW
  have hs0 : Hid (W0.heap.size = w.heap.size + 1) := hb0.out.2.2
  have hs1 : Hid (W1.heap.size = w.heap.size + 2) := by show _ = _; have h1 := hb1.out.2.2; have h2 := hs0.out; omega
  have hs2 : Hid (W.heap.size = w.heap.size + 3) := by show _ = _; have h1 := hb2.out.2.2; have h2 := hs1.out; omega
  have hb12 := Lib.hid (below_step hb2.out.1 hb1.out.1)
  have hbW := Lib.hid (below_step hb12.out hb0.out.1)
  have x0 := Lib.hid (hb0.out.2.1.below hb12.out (Nat.le_refl _))
  have x1 := Lib.hid (hb1.out.2.1.below hb2.out.1 (Nat.le_refl _))
  have hon := Lib.hid h
  have hh := Lib.hid (h.below hbW.out (Nat.le_refl _))
  have s1 := sizeLks (.slice q n c)
  have sz := sizeLks (.slice none 0 0)
  have honez : ∀ y ∈ ([.slice none 0 0] : List Value), y.oneCell' = true := fun y hy => by obtain rfl := List.mem_singleton.1 hy; rfl
  have hLW : Hid (Lay W) := ⟨hL.goes hbW.out, hL.cov hbW.out⟩
  have hsm' := Lib.hid hsm
  have hn' := Lib.hid hn
  have c1 := x1.out.cell 0 rfl
  clear h hsm hL hn
  rcases he with ⟨h1, h2, rfl, rfl⟩ | ⟨h1, rfl, rfl, rfl⟩
  · have hc := Lib.hid (mayCall_any q n c V L x er h1 W hLW.out hh.out hsm'.out)
    have h2' : (er == 0) = false := by simpa using h2
    clear h1
    go_enter Tryz.func29, Tryz.ntmps29
    go_wp2_with (first
      | (with_reducible refine wpList_load_at rfl 24 (.tmp 2) rfl Tryz.underlying24 rfl s1 rfl x0.out.all ?_)
      | (go_at_call 58; refine hc.out.mono ?_; rintro e5 w2 ⟨rfl, hb2⟩; have hb3 := Lib.hid (below_step hb2 hbW.out); have r2 := Lib.hid (hr2.out.below hb2); clear hb2 hW hW0 hW1)
      | ((with_reducible refine wpList_store_at rfl 24 (.tmp 4) (.tmp 15) rfl (o := 0) (vs := [.slice none 0 0]) rfl rfl r2.out sz (Nat.le_refl _) honez ?_)
         intro w9 h9 hg9
         have q9 : Hid (RowV 24 w9 W1.heap.size [.slice none 0 0]) := h9
         have hg9' := Lib.hid hg9
         clear h9 hg9))
    have m0 := q9.out.cell 0
    simp only [List.getElem?_cons_zero] at m0
    have hfin : Below w.heap.size w w9 := low_step hb3.out hg9'.out (by have := hs1.out; omega)
    exact bodyPost_ret (v := .tuple #[.agg #[.slice none 0 0], .slice none 0 0, .int .i64 er]) (by simp [results, Tryz.results29, go_sem, m0]) rfl ⟨none, 0, 0, [], none, 0, 0, rfl, lkp_nil _ _, OwnS.nil _ _ _, hfin⟩
  · have hc := Lib.hid (mayCall_any q n c V L x 0 h1 W hLW.out hh.out hsm'.out)
    have hck := Lib.hid h1.chk.1
    have hwo := Lib.hid (fun u (hu : Below W.heap.size W u) => withoutR_any W0.heap.size q n c V L x (relD x) u (hLW.out.goes hu) (hh.out.below hu (Nat.le_refl _)) hsm'.out hn'.out hck.out.sorts (do_release _ L _ x u ((x1.out.below hu (Nat.le_refl _)).cell 0 rfl) hsm'.out) (fok_rel hck.out hsm'.out x))
    clear h1
    go_enter Tryz.func29, Tryz.ntmps29
    go_wp2_with (first
      | (with_reducible refine wpList_load_at rfl 24 (.tmp 2) rfl Tryz.underlying24 rfl s1 rfl x0'.out.all ?_)
      | (with_reducible refine wpList_load_at rfl 24 (.tmp 2) rfl Tryz.underlying24 rfl s1 rfl x0.out.all ?_)
      | (go_at_call 58; refine hc.out.mono ?_; rintro e5 w2 ⟨rfl, hb2⟩; have hb3 := Lib.hid hb2; have r2 := Lib.hid (hr2.out.below hb2); have x0' := Lib.hid (x0.out.below hb2 (Nat.le_refl _)); have c1' := (x1.out.below hb2 (Nat.le_refl _)).cell 0 rfl; clear hb2 hW hW0 hW1 c1)
      | (go_at_call 59
         refine (hwo.out _ hb3.out).mono ?_
         rintro e6 w5 ⟨q', n', c', V', gq, gn, gc, rfl, k1, k2, k3⟩
         have hk1 := Lib.hid k1
         have hk2 := Lib.hid k2
         have hk3 := Lib.hid k3
         have r5 := Lib.hid (r2.out.below k3)
         obtain ⟨w6, hw6⟩ : ∃ w6, w5.alloc (.cells #[.slice q' n' c'] 24) = w6 := ⟨_, rfl⟩
         have hb6 := Lib.hid (one_box (xs := [.slice q' n' c']) hw6)
         have r6 := Lib.hid (r5.out.below hb6.out.1)
         have t6 := sizeLks (.slice q' n' c')
         have hone6 : ∀ y ∈ ([.slice q' n' c'] : List Value), y.oneCell' = true := fun y hy => by obtain rfl := List.mem_singleton.1 hy; rfl
         clear k1 k2 k3 c1')
      | (with_reducible refine wpList_load_at rfl 24 (.tmp 8) rfl Tryz.underlying24 rfl t6 rfl hb6.out.2.1.all ?_)
      | ((with_reducible refine wpList_store_at rfl 24 (.tmp 4) (.tmp 24) rfl (o := 0) (vs := [.slice q' n' c']) rfl rfl r6.out t6 (Nat.le_refl _) hone6 ?_)
         intro w9 h9 hg9
         have q9 : Hid (RowV 24 w9 W1.heap.size [.slice q' n' c']) := h9
         have hg9' := Lib.hid hg9
         clear h9 hg9))
    have m0 := q9.out.cell 0
    simp only [List.getElem?_cons_zero] at m0
    have hbl : Below w.heap.size w w6 := below_step hb6.out.1 (below_step hk3.out (below_step hb3.out hbW.out))
    have hfin : Below w.heap.size w w9 := low_step hbl hg9'.out (by have := hs1.out; omega)
    have hz := hb3.out.size
    refine bodyPost_ret (v := .tuple #[.agg #[.slice q' n' c'], .slice gq gn gc, .int .i64 0]) (by simp [results, Tryz.results29, go_sem, m0]) rfl ⟨q', n', c', V', gq, gn, gc, rfl, ?_, ?_, hfin⟩
    · exact ((hk1.out.below hb6.out.1).gr hg9'.out (by have := hs1.out; have := hs2.out; omega)).mono (by have := hs2.out; omega)
    · exact ((hk2.out.below hb6.out.1).gr hg9'.out (by have := hs1.out; have := hs2.out; omega)).mono (by have := hs2.out; omega)
end Go.Proofs.YtbgpppbcffpdbaaGreatDoor
