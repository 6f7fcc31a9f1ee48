/- mayCall of locks. -/
import Derived.Test.YtbgpppbcffpdbaaGreatDoorLWt
import Derived.Test.YtbgpppbcffpdbaaGreatDoorLGc
namespace Go.Proofs.YtbgpppbcffpdbaaGreatDoor
open Go.RowKit

/-- how a call of a transaction is refused -/
def CallE (L : List QueD) (x e : Int) : Prop := (¬ ChkOk L ∧ e = 180) ∨ (ChkOk L ∧ txnB x = false ∧ e = 2) ∨ (ChkOk L ∧ txnB x = true ∧ e = 0)

set_option maxRecDepth 100000 in
set_option maxHeartbeats 2000000 in
theorem mayCall_any (q : Option Addr) (n c : Nat) (V : List QV) (L : List QueD) (x e : Int) (he : CallE L x e) (w : World) (hL : Lay w) (h : LkOn w q n c V L) (hsm : Sm L) :
    Calls Tryz.prog 58 #[.agg #[.slice q n c], .int .i64 x] w (fun e' w' => e' = .returned (.int .i64 e) ∧ Below w.heap.size w w') := by
  obtain ⟨W, hW⟩ : ∃ W, w.alloc (.cells #[.slice q n c] 24) = W := ⟨_, rfl⟩
  have hbx := Lib.hid (one_box (xs := [.slice q n c]) hW)
  have hh := Lib.hid (h.below hbx.out.1 (Nat.le_refl _))
  have s1 := sizeLks (.slice q n c)
  have hLW : Hid (Lay W) := ⟨hL.goes hbx.out.1, hL.cov hbx.out.1⟩
  have hsm' := Lib.hid hsm
  clear h hsm hL
  rcases he with ⟨h1, rfl⟩ | ⟨h1, h2, rfl⟩ | ⟨h1, h2, rfl⟩
  · have hc := Lib.hid (check_any q n c V L 180 (.inr ⟨rfl, h1⟩) W hLW.out hh.out hsm'.out)
    clear h1
    go_enter Tryz.func58, Tryz.ntmps58
    go_wp2_with (first
      | (with_reducible refine wpList_load_at rfl 24 (.tmp 2) rfl Tryz.underlying24 rfl s1 rfl hbx.out.2.1.all ?_)
      | (go_at_call 17; refine hc.out.mono ?_; rintro e w2 ⟨rfl, hb2⟩; have hb3 := Lib.hid (below_step hb2 hbx.out.1); clear hb2 hW))
    go_ret
    exact ⟨rfl, hb3.out⟩
  all_goals
    have hc := Lib.hid (check_any q n c V L 0 (.inl ⟨rfl, h1⟩) W hLW.out hh.out hsm'.out)
    have ht := Lib.hid (fun u => isTxn_any x u _ h2)
    clear h1 h2
    go_enter Tryz.func58, Tryz.ntmps58
    go_wp2_with (first
      | (with_reducible refine wpList_load_at rfl 24 (.tmp 2) rfl Tryz.underlying24 rfl s1 rfl hbx.out.2.1.all ?_)
      | (go_at_call 17; refine hc.out.mono ?_; rintro e w2 ⟨rfl, hb2⟩; have hb3 := Lib.hid (below_step hb2 hbx.out.1); clear hb2 hW)
      | (go_at_call 98; refine (ht.out _).mono ?_; rintro e w3 ⟨rfl, hw⟩; obtain rfl := hw.symm))
    go_ret
    exact ⟨rfl, hb3.out⟩
end Go.Proofs.YtbgpppbcffpdbaaGreatDoor
