/- Mode of locks. -/
import Derived.Test.YtbgpppbcffpdbaaGreatDoorLMc
namespace Go.Proofs.YtbgpppbcffpdbaaGreatDoor
open Go.RowKit

/-- which mode a transaction holds of something -/
def ModeE (L : List QueD) (x : Int) (r : ResD) (e : Int) : Prop := (¬ ChkOk L ∧ e = 0) ∨ (ChkOk L ∧ e = heldH (qOf L r).hs x)

theorem qOf_small {L : List QueD} (h : Sm L) (r : ResD) : (qOf L r).hs.length ≤ 100000 ∧ (qOf L r).ws.length ≤ 100000 := by
  unfold qOf
  cases hx : L[posQ L r]? with
  | none => exact ⟨by simp [zeroQ], by simp [zeroQ]⟩
  | some d =>
    by_cases hr : d.res = r
    · simp only [hr, if_true]; exact h.at hx
    · simp only [hr, if_false]; exact ⟨by simp [zeroQ], by simp [zeroQ]⟩
theorem qOf_sort {L : List QueD} (h : ∀ d ∈ L, SortH d.hs) (r : ResD) : SortH (qOf L r).hs := by
  unfold qOf
  cases hx : L[posQ L r]? with
  | none => exact List.Pairwise.nil
  | some d =>
    by_cases hr : d.res = r
    · simp only [hr, if_true]; exact h d (List.mem_of_getElem? hx)
    · simp only [hr, if_false]; exact List.Pairwise.nil

set_option maxRecDepth 100000 in
set_option maxHeartbeats 2000000 in
theorem mode_any (q : Option Addr) (n c : Nat) (V : List QV) (L : List QueD) (x t : Int) (k : Bool) (id e : Int) (he : ModeE L x ⟨t, k, id⟩ e) (w : World) (hL : Lay w) (h : LkOn w q n c V L) (hsm : Sm L) (hn : n ≤ 1000000) (hsH : ChkOk L → SortQ L ∧ ∀ d ∈ L, SortH d.hs) (g0 : 0 ≤ id) (g1 : id < 65536) :
    Calls Tryz.prog 26 #[.agg #[.slice q n c], .int .i64 x, .agg #[.int .i64 t, .bool k, .int .u16 id]] w (fun e' w' => e' = .returned (.int .i64 e) ∧ Below w.heap.size w w') := by
  obtain ⟨W, hW⟩ : ∃ W, (w.alloc (.cells #[.slice q n c] 24)).alloc (.cells #[.int .i64 t, .bool k, .int .u16 id] 30) = W := ⟨_, rfl⟩
  have hbx := Lib.hid (two_boxes (xs := [.slice q n c]) (ys := [.int .i64 t, .bool k, .int .u16 id]) hW)
  have hon := Lib.hid h
  have hh := Lib.hid (h.below hbx.out.1 (Nat.le_refl _))
  have s1 := sizeLks (.slice q n c)
  have s3 := sizeRes (.int .i64 t) (.bool k) (.int .u16 id)
  have hLW : Hid (Lay W) := ⟨hL.goes hbx.out.1, hL.cov hbx.out.1⟩
  have hsm' := Lib.hid hsm
  clear h hsm hL
  rcases he with ⟨h1, rfl⟩ | ⟨h1, he⟩
  · have hc := Lib.hid (check_any q n c V L 180 (.inr ⟨rfl, h1⟩) W hLW.out hh.out hsm'.out)
    clear h1 hsH g0 g1 hn
    go_enter Tryz.func26, Tryz.ntmps26
    go_wp2_with (first
      | (with_reducible refine wpList_load_at rfl 24 (.tmp 3) rfl Tryz.underlying24 rfl s1 rfl hbx.out.2.1.all ?_)
      | (go_at_call 17; refine hc.out.mono ?_; rintro e w2 ⟨rfl, hb2⟩; have hb3 := Lib.hid (below_step hb2 hbx.out.1); clear hb2 hW))
    go_ret
    exact ⟨rfl, hb3.out⟩
  · have hc := Lib.hid (check_any q n c V L 0 (.inl ⟨rfl, h1⟩) W hLW.out hh.out hsm'.out)
    obtain ⟨hsQ, hsH⟩ := hsH h1
    have hq := Lib.hid (fun u (hu : Below w.heap.size w u) => queueOf_any q n c V L t k id u (hon.out.below hu (Nat.le_refl _)) hsQ hn g0 g1)
    have hqs := Lib.hid (qOf_small hsm'.out ⟨t, k, id⟩)
    have hqr := Lib.hid (qOf_sort hsH ⟨t, k, id⟩)
    have he' := Lib.hid he
    clear h1 hsH hsQ g0 g1 hn he
    go_enter Tryz.func26, Tryz.ntmps26
    go_wp2_with (first
      | (with_reducible refine wpList_load_at rfl 24 (.tmp 3) rfl Tryz.underlying24 rfl s1 rfl hb4.out.all ?_)
      | (with_reducible refine wpList_load_at rfl 24 (.tmp 3) rfl Tryz.underlying24 rfl s1 rfl hbx.out.2.1.all ?_)
      | (with_reducible refine wpList_load_at rfl 30 (.tmp 5) rfl Tryz.underlying30 rfl s3 rfl hb5.out.all ?_)
      | (go_at_call 17; refine hc.out.mono ?_; rintro e9 w2 ⟨rfl, hb2⟩; have hb4 := Lib.hid (hbx.out.2.1.below hb2 (Nat.le_refl _)); have hb5 := Lib.hid (hbx.out.2.2.1.below hb2 (Nat.le_refl _)); have hb3 := Lib.hid (below_step hb2 hbx.out.1); clear hb2 hW)
      | (go_at_call 53
         refine (hq.out _ hb3.out).mono ?_
         rintro e7 w5 ⟨⟨⟨va, vb, vc⟩, vq, vn, vm, uq, un, um⟩, rfl, hv, hb6⟩
         have hb7 := Lib.hid (below_step hb6 hb3.out)
         obtain ⟨w6, hw6⟩ : ∃ w6, w5.alloc (.cells #[.int .i64 va, .bool vb, .int .u16 vc, .slice vq vn vm, .slice uq un um] 43) = w6 := ⟨_, rfl⟩
         have hb8 := Lib.hid (one_box (xs := [.int .i64 va, .bool vb, .int .u16 vc, .slice vq vn vm, .slice uq un um]) hw6)
         have hv6 := Lib.hid (hv.below hb8.out.1 (Nat.le_refl _))
         have s5 := sizeQue (.int .i64 va) (.bool vb) (.int .u16 vc) (.slice vq vn vm) (.slice uq un um)
         have hhd := Lib.hid (held_any va vb vc vq vn vm uq un um _ x w6 hv6.out.hs hqr.out (by have h1 := hv6.out.hs.len; have h2 := hqs.out.1; have h3 : (qOf L ⟨t, k, id⟩).hs.length = vn := h1; omega))
         clear hb6 hv
         simp only [QV.val_eq])
      | (with_reducible refine wpList_load_at rfl 43 (.tmp 7) rfl Tryz.underlying43 rfl s5 rfl hb8.out.2.1.all ?_)
      | (go_at_call 47; refine hhd.out.mono ?_; rintro e8 w7 ⟨rfl, hb9⟩; have hb10 := Lib.hid (below_step hb9 (below_step hb8.out.1 hb7.out)); clear hb9 hw6))
    go_ret
    exact ⟨ret_i he'.out.symm, hb10.out⟩
end Go.Proofs.YtbgpppbcffpdbaaGreatDoor
