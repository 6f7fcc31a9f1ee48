/- wanting of locks. -/
import Derived.Test.YtbgpppbcffpdbaaGreatDoorLMc
namespace Go.Proofs.YtbgpppbcffpdbaaGreatDoor
open Go.RowKit

/-- the waiter that a transaction would be, and whether it has the mode already -/
def wantE (hs : List HoldD) (x m : Int) : WaitD × Bool := if covB (heldH hs x) m = true then (⟨0, 0, 0⟩, true) else (⟨x, supM (heldH hs x) m, heldH hs x⟩, false)

set_option maxRecDepth 100000 in
set_option maxHeartbeats 2000000 in
theorem wanting_any (t : Int) (k : Bool) (id : Int) (hq : Option Addr) (hn hc : Nat) (wq : Option Addr) (wn wc : Nat) (hs : List HoldD) (x m : Int) (z : WaitD) (b : Bool) (hz : wantE hs x m = (z, b)) (w : World) (hL : Lay w) (h : SlOn w hq hn hc hs) (hso : SortH hs) (hsm : hn ≤ 1000000) :
    Calls Tryz.prog 64 #[.agg #[.int .i64 t, .bool k, .int .u16 id, .slice hq hn hc, .slice wq wn wc], .int .i64 x, .int .i64 m] w (fun e w' => e = .returned (.tuple #[.agg #[.int .i64 z.x, .int .i64 z.m, .int .i64 z.h], .bool b]) ∧ Below w.heap.size w w') := by
  obtain ⟨W0, hW0⟩ : ∃ W, w.alloc (.cells #[.int .i64 t, .bool k, .int .u16 id, .slice hq hn hc, .slice wq wn wc] 43) = W := ⟨_, rfl⟩
  have hb0 := Lib.hid (one_box (xs := [.int .i64 t, .bool k, .int .u16 id, .slice hq hn hc, .slice wq wn wc]) hW0)
  obtain ⟨W, hW⟩ : ∃ W, W0.alloc (.cells #[.int .i64 0, .int .i64 0, .int .i64 0] 47) = W := ⟨_, rfl⟩
  have hb1 := Lib.hid (one_box (xs := [.int .i64 0, .int .i64 0, .int .i64 0]) hW)
  have hr1 : Hid (RowV 47 W W0.heap.size [.int .i64 0, .int .i64 0, .int .i64 0]) := RowV.made' (cs := [.int .i64 0, .int .i64 0, .int .i64 0]) hW
  have hs0 : Hid (W0.heap.size = w.heap.size + 1) := hb0.out.2.2
  have hbW := Lib.hid (below_step hb1.out.1 hb0.out.1)
  have hq1 := Lib.hid (hb0.out.2.1.below hb1.out.1 (Nat.le_refl _))
  have s5 := sizeQue (.int .i64 t) (.bool k) (.int .u16 id) (.slice hq hn hc) (.slice wq wn wc)
  have hhd := Lib.hid (held_any t k id hq hn hc wq wn wc hs x W (h.below hbW.out (Nat.le_refl _)) hso hsm)
  have hL' := Lib.hid hL
  obtain ⟨own, hown⟩ : ∃ own, heldH hs x = own := ⟨_, rfl⟩
  unfold wantE at hz
  rw [hown] at hz hhd
  clear h hso hsm hL hown
  have hcv := Lib.hid (fun u (hu : Below w.heap.size w u) => cov_any own m u (hL'.out.cov hu))
  have hsp := Lib.hid (fun u (hu : Below w.heap.size w u) => sup_any own m u (hL'.out.cov hu))
  obtain ⟨cb, hcb⟩ : ∃ cb, covB own m = cb := ⟨_, rfl⟩
  rw [hcb] at hz hcv
  clear hcb
  cases cb with
  | true =>
    rw [if_pos rfl] at hz
    cases hz
    have s3 := sizeWait (.int .i64 0) (.int .i64 0) (.int .i64 0)
    have hone := Cel.one (⟨0, 0, 0⟩ : WaitD)
    have hone' : ∀ y ∈ ([.int .i64 0, .int .i64 0, .int .i64 0] : List Value), y.oneCell' = true := hone
    clear hone
    go_enter Tryz.func64, Tryz.ntmps64
    go_wp2_with (first
      | (with_reducible refine wpList_load_at rfl 43 (.tmp 3) rfl Tryz.underlying43 rfl s5 rfl hq1.out.all ?_)
      | (go_at_call 47; refine hhd.out.mono ?_; rintro e2 w2 ⟨rfl, hb2⟩; have hb3 := Lib.hid (below_step hb2 hbW.out); have hr2 := Lib.hid (hr1.out.below hb2); clear hb2 hW hW0)
      | (go_at_call 28; refine (hcv.out _ hb3.out).mono ?_; rintro e4 w4 ⟨rfl, hb4⟩; have hb5 := Lib.hid (below_step hb4 hb3.out); have hr4 := Lib.hid (hr2.out.below hb4); clear hb4)
      | ((with_reducible refine wpList_store_at rfl 47 (.tmp 6) (.tmp 17) rfl (o := 0) (vs := [.int .i64 0, .int .i64 0, .int .i64 0]) rfl rfl hr4.out s3 (Nat.le_refl _) hone' ?_)
         intro w9 h9 hg9
         have q9 : Hid (RowV 47 w9 W0.heap.size [.int .i64 0, .int .i64 0, .int .i64 0]) := h9
         have hg9' := Lib.hid hg9
         clear h9 hg9))
    have m0 := q9.out.cell 0
    have m1 := q9.out.cell 1
    have m2 := q9.out.cell 2
    simp only [List.getElem?_cons_zero, List.getElem?_cons_succ] at m0 m1 m2
    have hfin := low_step hb5.out hg9'.out (by have := hs0.out; omega)
    exact bodyPost_ret (v := .tuple #[.agg #[.int .i64 0, .int .i64 0, .int .i64 0], .bool true]) (by simp [results, Tryz.results64, go_sem, m0, m1, m2]) rfl ⟨rfl, hfin⟩
  | false =>
    rw [if_neg (by decide)] at hz
    cases hz
    obtain ⟨sm, hsm⟩ : ∃ sm, supM own m = sm := ⟨_, rfl⟩
    rw [hsm] at hsp
    simp only [hsm]
    clear hsm
    have s3 := sizeWait (.int .i64 x) (.int .i64 sm) (.int .i64 own)
    have hone' : ∀ y ∈ ([.int .i64 x, .int .i64 sm, .int .i64 own] : List Value), y.oneCell' = true := Cel.one (⟨x, sm, own⟩ : WaitD)
    go_enter Tryz.func64, Tryz.ntmps64
    go_wp2_with (first
      | (with_reducible refine wpList_load_at rfl 43 (.tmp 3) rfl Tryz.underlying43 rfl s5 rfl hq1.out.all ?_)
      | (go_at_call 47; refine hhd.out.mono ?_; rintro e2 w2 ⟨rfl, hb2⟩; have hb3 := Lib.hid (below_step hb2 hbW.out); have hr2 := Lib.hid (hr1.out.below hb2); clear hb2 hW hW0)
      | (go_at_call 28; refine (hcv.out _ hb3.out).mono ?_; rintro e4 w4 ⟨rfl, hb4⟩; have hb5 := Lib.hid (below_step hb4 hb3.out); have hr4 := Lib.hid (hr2.out.below hb4); clear hb4)
      | (go_at_call 107; refine (hsp.out _ hb5.out).mono ?_; rintro e6 w6 ⟨rfl, hb6⟩; have hb7 := Lib.hid (below_step hb6 hb5.out); have hr6 := Lib.hid (hr4.out.below hb6); clear hb6)
      | ((with_reducible refine wpList_store_at rfl 47 (.tmp 6) (.tmp 27) rfl (o := 0) (vs := [.int .i64 x, .int .i64 sm, .int .i64 own]) rfl rfl hr6.out s3 (Nat.le_refl _) hone' ?_)
         intro w9 h9 hg9
         have q9 : Hid (RowV 47 w9 W0.heap.size [.int .i64 x, .int .i64 sm, .int .i64 own]) := h9
         have hg9' := Lib.hid hg9
         clear h9 hg9))
    have m0 := q9.out.cell 0
    have m1 := q9.out.cell 1
    have m2 := q9.out.cell 2
    simp only [List.getElem?_cons_zero, List.getElem?_cons_succ] at m0 m1 m2
    have hfin := low_step hb7.out hg9'.out (by have := hs0.out; omega)
    exact bodyPost_ret (v := .tuple #[.agg #[.int .i64 x, .int .i64 sm, .int .i64 own], .bool false]) (by simp [results, Tryz.results64, go_sem, m0, m1, m2]) rfl ⟨rfl, hfin⟩
end Go.Proofs.YtbgpppbcffpdbaaGreatDoor
