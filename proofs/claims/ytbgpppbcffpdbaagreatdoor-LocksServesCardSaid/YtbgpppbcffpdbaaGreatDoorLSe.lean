/- LocksServes: for every locks and every number the law returns true, and its arguments read as they did, where the tables of modes are laid as the program's text lays them. No other condition. -/
import Derived.Test.YtbgpppbcffpdbaaGreatDoorLMx
import Derived.Test.YtbgpppbcffpdbaaGreatDoorLWk
import Derived.Test.YtbgpppbcffpdbaaGreatDoorLAr
import Derived.Test.YtbgpppbcffpdbaaGreatDoorTie
import Derived.Test.YtbgpppbcffpdbaaGreatDoorCards
import Derived.Deep.DeepCutAuto
namespace Go.Proofs.YtbgpppbcffpdbaaGreatDoor
open Go.ChangeShapes Go.WideShapes Go.ChangeAt Go.RowKit

def ChkE (L : List QueD) (e : Int) : Prop := (e = 0 ∧ ChkOk L) ∨ (e = 180 ∧ ¬ ChkOk L)

set_option maxRecDepth 100000 in
set_option maxHeartbeats 4000000 in
theorem serves_bad (q : Option Addr) (n c : Nat) (V : List QV) (L : List QueD) (y : Int) (w : World) (hL : Lay w) (h : LkOn w q n c V L) (hno : ¬ ChkOk (fewL L)) :
    Calls Tryz.prog 7 #[.agg #[.slice q n c], .int .i64 y] w (fun e w' => e = .returned (.bool true) ∧ Below w.heap.size w w') := by
  obtain ⟨W, hW⟩ : ∃ W, w.alloc (.cells #[.slice q n c] 24) = W := ⟨_, rfl⟩
  have hb0 := Lib.hid (one_box (xs := [.slice q n c]) hW)
  have hs0 : Hid (W.heap.size = w.heap.size + 1) := hb0.out.2.2
  have hh := Lib.hid (h.below hb0.out.1 (Nat.le_refl _))
  have hLa := Lib.hid hL
  have hS : Hid (∀ u, Below w.heap.size w u → Lay u) := fun u hu => ⟨hLa.out.goes hu, hLa.out.cov hu⟩
  have s1 := sizeLks (.slice q n c)
  clear h hL
  have hwk := Lib.hid (wakes_any W (hS.out _ hb0.out.1))
  have hce : Hid (ChkE (fewL L) 180) := .inr ⟨rfl, hno⟩
  clear hno
  go_enter Tryz.func7, Tryz.ntmps7
  go_wp2_with (first
    | (go_at_call 9
       refine hwk.out.mono ?_
       rintro e w1 ⟨rfl, hb⟩
       have hb2 := Lib.hid (below_step hb hb0.out.1)
       have x0' := Lib.hid (hb0.out.2.1.below hb (Nat.le_refl _))
       have hh1 := Lib.hid (hh.out.below hb (Nat.le_refl _))
       have hfew := Lib.hid (few_any q n c V L w1 hh1.out)
       clear hb hW)
    | (with_reducible refine wpList_load_at rfl 24 (.tmp 2) rfl Tryz.underlying24 rfl s1 rfl x0'.out.all ?_)
    | (go_at_call 10
       refine hfew.out.mono ?_
       rintro e w2 ⟨q1, n1, c1, V1, rfl, hk, hb⟩
       have hb3 := Lib.hid (below_step hb hb2.out)
       obtain ⟨w3, hw3⟩ : ∃ u, w2.alloc (.cells #[.slice q1 n1 c1] 24) = u := ⟨_, rfl⟩
       have hb4 := Lib.hid (one_box (xs := [.slice q1 n1 c1]) hw3)
       have r3 : Hid (RowV 24 w3 w2.heap.size [.slice q1 n1 c1]) := RowV.made' (cs := [.slice q1 n1 c1]) hw3
       have hk3 := Lib.hid (hk.below hb4.out.1 (Nat.le_refl _))
       have hbw3 := Lib.hid (below_step hb4.out.1 hb3.out)
       have s2 := sizeLks (.slice q1 n1 c1)
       have hn1 : Hid (n1 ≤ 501) := few_n hk
       have hrok := Lib.hid (lk_ok hk)
       have hchk := Lib.hid (check_any q1 n1 c1 V1 (fewL L) 180 hce.out w3 (hS.out _ hbw3.out) hk3.out ((few_len L).sm (by decide)))
       clear hk hb hwk hfew)
    | (with_reducible refine wpList_load_at rfl 24 (.tmp 5) rfl Tryz.underlying24 rfl s2 rfl hb4.out.2.1.all ?_)
    | (go_at_call 17
       refine hchk.out.mono ?_
       rintro e w4 ⟨rfl, hb⟩
       have hbw4 := Lib.hid (below_step hb hbw3.out)
       have hb34 := Lib.hid hb
       have y4 := Lib.hid (hb4.out.2.1.below hb (Nat.le_refl _))
       have hk4 := Lib.hid (hk3.out.below hb (Nat.le_refl _))
       clear hb hchk hw3))
  go_ret
  exact ⟨rfl, hbw4.out⟩

set_option maxRecDepth 100000 in
set_option maxHeartbeats 4000000 in
theorem serves_idle (q : Option Addr) (n c : Nat) (V : List QV) (L : List QueD) (y : Int) (w : World) (hL : Lay w) (h : LkOn w q n c V L) (hck : ChkOk (fewL L)) (hno : wtOf (fewL L) y = none) :
    Calls Tryz.prog 7 #[.agg #[.slice q n c], .int .i64 y] w (fun e w' => e = .returned (.bool true) ∧ Below w.heap.size w w') := by
  obtain ⟨W, hW⟩ : ∃ W, w.alloc (.cells #[.slice q n c] 24) = W := ⟨_, rfl⟩
  have hb0 := Lib.hid (one_box (xs := [.slice q n c]) hW)
  have hs0 : Hid (W.heap.size = w.heap.size + 1) := hb0.out.2.2
  have hh := Lib.hid (h.below hb0.out.1 (Nat.le_refl _))
  have hLa := Lib.hid hL
  have hS : Hid (∀ u, Below w.heap.size w u → Lay u) := fun u hu => ⟨hLa.out.goes hu, hLa.out.cov hu⟩
  have s1 := sizeLks (.slice q n c)
  clear h hL
  have hwk := Lib.hid (wakes_any W (hS.out _ hb0.out.1))
  have hce : Hid (ChkE (fewL L) 0) := .inl ⟨rfl, hck⟩
  have hwt : Hid (WaitsR (fewL L) y ⟨0, false, 0⟩ 0 false) := .inr (.inl ⟨hck, hno, rfl, rfl, rfl⟩)
  have hbk : Hid (BlockR (fewL L) y []) := .inr (.inl ⟨hck, hno, rfl⟩)
  clear hck hno
  go_enter Tryz.func7, Tryz.ntmps7
  go_wp2_with (first
    | (go_at_call 9
       refine hwk.out.mono ?_
       rintro e w1 ⟨rfl, hb⟩
       have hb2 := Lib.hid (below_step hb hb0.out.1)
       have x0' := Lib.hid (hb0.out.2.1.below hb (Nat.le_refl _))
       have hh1 := Lib.hid (hh.out.below hb (Nat.le_refl _))
       have hfew := Lib.hid (few_any q n c V L w1 hh1.out)
       clear hb hW)
    | (with_reducible refine wpList_load_at rfl 24 (.tmp 2) rfl Tryz.underlying24 rfl s1 rfl x0'.out.all ?_)
    | (go_at_call 10
       refine hfew.out.mono ?_
       rintro e w2 ⟨q1, n1, c1, V1, rfl, hk, hb⟩
       have hb3 := Lib.hid (below_step hb hb2.out)
       obtain ⟨w3, hw3⟩ : ∃ u, w2.alloc (.cells #[.slice q1 n1 c1] 24) = u := ⟨_, rfl⟩
       have hb4 := Lib.hid (one_box (xs := [.slice q1 n1 c1]) hw3)
       have r3 : Hid (RowV 24 w3 w2.heap.size [.slice q1 n1 c1]) := RowV.made' (cs := [.slice q1 n1 c1]) hw3
       have hk3 := Lib.hid (hk.below hb4.out.1 (Nat.le_refl _))
       have hbw3 := Lib.hid (below_step hb4.out.1 hb3.out)
       have s2 := sizeLks (.slice q1 n1 c1)
       have hn1 : Hid (n1 ≤ 501) := few_n hk
       have hrok := Lib.hid (lk_ok hk)
       have hchk := Lib.hid (check_any q1 n1 c1 V1 (fewL L) 0 hce.out w3 (hS.out _ hbw3.out) hk3.out ((few_len L).sm (by decide)))
       clear hk hb hwk hfew)
    | (with_reducible refine wpList_load_at rfl 24 (.tmp 5) rfl Tryz.underlying24 rfl s2 rfl hb4.out.2.1.all ?_)
    | (go_at_call 17
       refine hchk.out.mono ?_
       rintro e w4 ⟨rfl, hb⟩
       have hbw4 := Lib.hid (below_step hb hbw3.out)
       have hb34 := Lib.hid hb
       have y4 := Lib.hid (hb4.out.2.1.below hb (Nat.le_refl _))
       have hk4 := Lib.hid (hk3.out.below hb (Nat.le_refl _))
       clear hb hchk hw3)
    | (with_reducible refine wpList_load_at rfl 24 (.tmp 5) rfl Tryz.underlying24 rfl s2 rfl y4.out.all ?_)
    | (go_at_call 19
       refine (waits_any q1 n1 c1 V1 (fewL L) y 0 false 0 0 false hwt.out w4 (hS.out _ hbw4.out) hk4.out ((few_len L).sm (by decide)) (by have := hn1.out; omega)).mono ?_
       rintro e w5 ⟨rfl, hb⟩
       obtain ⟨u3, hu3'⟩ : ∃ u, w5.alloc (.cells #[.int .i64 0, .bool false, .int .u16 0] 30) = u := ⟨_, rfl⟩
       have hbz := Lib.hid (one_box (xs := [.int .i64 0, .bool false, .int .u16 0]) hu3')
       have rz : Hid (RowV 30 u3 w5.heap.size [.int .i64 0, .bool false, .int .u16 0]) := RowV.made' (cs := [.int .i64 0, .bool false, .int .u16 0]) hu3'
       have hb45 := Lib.hid hb
       have hu3 := Lib.hid (below_step hbz.out.1 (below_step hb (Below.refl w4.heap.size w4)))
       have sv : (Tryz.prog.info? 30).map (·.size) = some ([.int .i64 0, .bool false, .int .u16 0] : List Value).length := sizeRes _ _ _
       have hone : ∀ y ∈ ([.int .i64 0, .bool false, .int .u16 0] : List Value), y.oneCell' = true := fun y hy => by simp only [List.mem_cons, List.not_mem_nil, or_false] at hy; rcases hy with rfl | rfl | rfl <;> rfl
       clear hb)
    | ((with_reducible refine wpList_store_at rfl 30 (.tmp 6) (.tmp 29) rfl (o := 0) (vs := [.int .i64 0, .bool false, .int .u16 0]) rfl rfl rz.out sv (Nat.le_refl _) hone ?_)
       intro u9 h9 hg9
       have r9 : Hid (RowV 30 u9 w5.heap.size [.int .i64 0, .bool false, .int .u16 0]) := h9
       have hu9 : Hid (Below w4.heap.size w4 u9) := low_step hu3.out hg9 hb45.out.size
       have hbw9 := Lib.hid (below_step hu9.out hbw4.out)
       have y9 := Lib.hid (y4.out.below hu9.out (Nat.le_refl _))
       have hk9 := Lib.hid (hk4.out.below hu9.out (Nat.le_refl _))
       clear h9 hg9 hone hu3')
    | (with_reducible refine wpList_load_at rfl 24 (.tmp 5) rfl Tryz.underlying24 rfl s2 rfl y9.out.all ?_)
    | (go_at_call 21
       refine (blockers_any q1 n1 c1 V1 (fewL L) y [] hbk.out u9 (hS.out _ hbw9.out) hk9.out ((few_len L).sm (by decide)) (by have := hn1.out; omega)).mono ?_
       rintro e w10 ⟨bq, bn, bc, rfl, ho, hb⟩
       have hown := Lib.hid ho
       have hb910 := Lib.hid hb
       have hbw10 := Lib.hid (below_step hb hbw9.out)
       obtain rfl : bn = 0 := ho.len
       clear ho hb))
  go_ret
  exact ⟨rfl, hbw10.out⟩

set_option maxRecDepth 100000 in
set_option maxHeartbeats 4000000 in
theorem serves_busy (q : Option Addr) (n c : Nat) (V : List QV) (L : List QueD) (y : Int) (w : World) (hL : Lay w) (h : LkOn w q n c V L) (hck : ChkOk (fewL L)) (d : QueD) (hwd : wtOf (fewL L) y = some d) :
    Calls Tryz.prog 7 #[.agg #[.slice q n c], .int .i64 y] w (fun e w' => e = .returned (.bool true) ∧ Below w.heap.size w w') := by
  obtain ⟨W, hW⟩ : ∃ W, w.alloc (.cells #[.slice q n c] 24) = W := ⟨_, rfl⟩
  have hb0 := Lib.hid (one_box (xs := [.slice q n c]) hW)
  have hs0 : Hid (W.heap.size = w.heap.size + 1) := hb0.out.2.2
  have hh := Lib.hid (h.below hb0.out.1 (Nat.le_refl _))
  have hLa := Lib.hid hL
  have hS : Hid (∀ u, Below w.heap.size w u → Lay u) := fun u hu => ⟨hLa.out.goes hu, hLa.out.cov hu⟩
  have s1 := sizeLks (.slice q n c)
  clear h hL
  have hwk := Lib.hid (wakes_any W (hS.out _ hb0.out.1))
  obtain ⟨⟨t, k, id⟩, dh, dw⟩ := d
  have hdm := (wtOf_mem hwd).1
  obtain ⟨m, hm⟩ : ∃ m, (wtrOf ⟨⟨t, k, id⟩, dh, dw⟩ y).m = m := ⟨_, rfl⟩
  obtain ⟨bl, hbl⟩ : ∃ bl, blkOf ⟨⟨t, k, id⟩, dh, dw⟩ y = bl := ⟨_, rfl⟩
  have hce : Hid (ChkE (fewL L) 0) := .inl ⟨rfl, hck⟩
  have hwt : Hid (WaitsR (fewL L) y ⟨t, k, id⟩ m true) := .inr (.inr ⟨hck, _, hwd, rfl, hm.symm, rfl⟩)
  have hbk : Hid (BlockR (fewL L) y bl) := .inr (.inr ⟨hck, _, hwd, hbl.symm⟩)
  have hbne : Hid (bl ≠ []) := by
    obtain ⟨b, hb⟩ := (pre_ok hck hwd).1
    exact List.ne_nil_of_mem (by rw [← hbl]; exact mem_blk.2 hb)
  have hbok : Hid (∀ b ∈ bl, b ≠ y ∧ txnB b = true) := fun b hb => (pre_ok hck hwd).2 b (mem_blk.1 (by rw [hbl]; exact hb))
  have hsv : Hid (Sv (fewL L) y ⟨t, k, id⟩ m (bl.drop 0)) := .inl ⟨_, hwd, rfl, hm, fun b hb => by rw [List.drop_zero, ← hbl]; exact mem_blk.2 hb⟩
  have hck' := Lib.hid hck
  have hdm' := Lib.hid hdm
  clear hck hwd hdm hm hbl
  go_enter Tryz.func7, Tryz.ntmps7
  go_wp2_with (first
    | (go_at_call 9
       refine hwk.out.mono ?_
       rintro e w1 ⟨rfl, hb⟩
       have hb2 := Lib.hid (below_step hb hb0.out.1)
       have x0' := Lib.hid (hb0.out.2.1.below hb (Nat.le_refl _))
       have hh1 := Lib.hid (hh.out.below hb (Nat.le_refl _))
       have hfew := Lib.hid (few_any q n c V L w1 hh1.out)
       clear hb hW)
    | (with_reducible refine wpList_load_at rfl 24 (.tmp 2) rfl Tryz.underlying24 rfl s1 rfl x0'.out.all ?_)
    | (go_at_call 10
       refine hfew.out.mono ?_
       rintro e w2 ⟨q1, n1, c1, V1, rfl, hk, hb⟩
       have hb3 := Lib.hid (below_step hb hb2.out)
       obtain ⟨w3, hw3⟩ : ∃ u, w2.alloc (.cells #[.slice q1 n1 c1] 24) = u := ⟨_, rfl⟩
       have hb4 := Lib.hid (one_box (xs := [.slice q1 n1 c1]) hw3)
       have r3 : Hid (RowV 24 w3 w2.heap.size [.slice q1 n1 c1]) := RowV.made' (cs := [.slice q1 n1 c1]) hw3
       have hk3 := Lib.hid (hk.below hb4.out.1 (Nat.le_refl _))
       have hbw3 := Lib.hid (below_step hb4.out.1 hb3.out)
       have s2 := sizeLks (.slice q1 n1 c1)
       have hn1 : Hid (n1 ≤ 501) := few_n hk
       have hrok := Lib.hid (lk_ok hk)
       have hchk := Lib.hid (check_any q1 n1 c1 V1 (fewL L) 0 hce.out w3 (hS.out _ hbw3.out) hk3.out ((few_len L).sm (by decide)))
       clear hk hb hwk hfew)
    | (with_reducible refine wpList_load_at rfl 24 (.tmp 5) rfl Tryz.underlying24 rfl s2 rfl hb4.out.2.1.all ?_)
    | (go_at_call 17
       refine hchk.out.mono ?_
       rintro e w4 ⟨rfl, hb⟩
       have hbw4 := Lib.hid (below_step hb hbw3.out)
       have hb34 := Lib.hid hb
       have y4 := Lib.hid (hb4.out.2.1.below hb (Nat.le_refl _))
       have hk4 := Lib.hid (hk3.out.below hb (Nat.le_refl _))
       clear hb hchk hw3)
    | (with_reducible refine wpList_load_at rfl 24 (.tmp 5) rfl Tryz.underlying24 rfl s2 rfl y4.out.all ?_)
    | (go_at_call 19
       refine (waits_any q1 n1 c1 V1 (fewL L) y t k id m true hwt.out w4 (hS.out _ hbw4.out) hk4.out ((few_len L).sm (by decide)) (by have := hn1.out; omega)).mono ?_
       rintro e w5 ⟨rfl, hb⟩
       obtain ⟨u3, hu3'⟩ : ∃ u, w5.alloc (.cells #[.int .i64 0, .bool false, .int .u16 0] 30) = u := ⟨_, rfl⟩
       have hbz := Lib.hid (one_box (xs := [.int .i64 0, .bool false, .int .u16 0]) hu3')
       have rz : Hid (RowV 30 u3 w5.heap.size [.int .i64 0, .bool false, .int .u16 0]) := RowV.made' (cs := [.int .i64 0, .bool false, .int .u16 0]) hu3'
       have hb45 := Lib.hid hb
       have hu3 := Lib.hid (below_step hbz.out.1 (below_step hb (Below.refl w4.heap.size w4)))
       have sv : (Tryz.prog.info? 30).map (·.size) = some ([.int .i64 t, .bool k, .int .u16 id] : List Value).length := sizeRes _ _ _
       have hone : ∀ y ∈ ([.int .i64 t, .bool k, .int .u16 id] : List Value), y.oneCell' = true := fun y hy => by simp only [List.mem_cons, List.not_mem_nil, or_false] at hy; rcases hy with rfl | rfl | rfl <;> rfl
       clear hb)
    | ((with_reducible refine wpList_store_at rfl 30 (.tmp 6) (.tmp 29) rfl (o := 0) (vs := [.int .i64 t, .bool k, .int .u16 id]) rfl rfl rz.out sv (Nat.le_refl _) hone ?_)
       intro u9 h9 hg9
       have r9 : Hid (RowV 30 u9 w5.heap.size [.int .i64 t, .bool k, .int .u16 id]) := h9
       have hu9 : Hid (Below w4.heap.size w4 u9) := low_step hu3.out hg9 hb45.out.size
       have hbw9 := Lib.hid (below_step hu9.out hbw4.out)
       have y9 := Lib.hid (y4.out.below hu9.out (Nat.le_refl _))
       have hk9 := Lib.hid (hk4.out.below hu9.out (Nat.le_refl _))
       clear h9 hg9 hone hu3')
    | (with_reducible refine wpList_load_at rfl 24 (.tmp 5) rfl Tryz.underlying24 rfl s2 rfl y9.out.all ?_)
    | (go_at_call 21
       refine (blockers_any q1 n1 c1 V1 (fewL L) y bl hbk.out u9 (hS.out _ hbw9.out) hk9.out ((few_len L).sm (by decide)) (by have := hn1.out; omega)).mono ?_
       rintro e w10 ⟨bq, bn, bc, rfl, ho, hb⟩
       have hown := Lib.hid ho
       have hb910 := Lib.hid hb
       have hbw10 := Lib.hid (below_step hb hbw9.out)
       have hbnl := Lib.hid ho.len
       clear ho hb))
  have hidk : Hid (0 ≤ id ∧ id < 65536) := hrok.out _ hdm'.out
  have hgt : Hid (0 < bn) := by show 0 < _; have h1 := hbnl.out; have h2 := List.length_pos_iff.2 hbne.out; omega
  have hG : Hid (w2.heap.size < w3.heap.size) := by show _ < _; have := hb4.out.2.2; omega
  have hz : Hid (w3.heap.size ≤ w4.heap.size ∧ w4.heap.size ≤ u9.heap.size ∧ u9.heap.size ≤ w10.heap.size ∧ w4.heap.size ≤ w5.heap.size) := ⟨hb34.out.size, hu9.out.size, hb910.out.size, hb45.out.size⟩
  have hnb : Hid (bn ≤ 9223372036854775807) := by show _ ≤ _; have h1 := hown.out.reads.le; have h2 := hown.out.reads.cap; unfold maxLen at h2; omega
  have hnb' := hnb.out
  have hb3x : Hid (Below w3.heap.size w3 w10) := below_step hb910.out (below_step hu9.out hb34.out)
  have hstart : Hid (SvR w10 w2.heap.size bl y m ⟨t, k, id⟩ q1 n1 c1 V1 (fewL L) 0 w10) := ⟨hck'.out, few_tot L, hk9.out.below hb910.out (Nat.le_refl _), r3.out.below hb3x.out, Fr.refl _ _, hsv.out⟩
  go_loopw [44] (fun v44 wr => ∃ (j : Nat) (q' : Option Addr) (n' c' : Nat) (V' : List QV) (Lj : List QueD), j ≤ bn ∧ v44 = .int .i64 j ∧ Hid (SvR w10 w2.heap.size bl y m ⟨t, k, id⟩ q' n' c' V' Lj j wr)) (fun v44 _ => bn - (intOf v44).toNat)
  case atStart => exact ⟨0, q1, n1, c1, V1, fewL L, Nat.zero_le _, rfl, hstart⟩
  case round =>
    obtain ⟨j, q', n', c', V', Lj, hj, rfl, hr⟩ := hrel
    obtain ⟨wo, rfl⟩ : ∃ u, u = wr := ⟨_, rfl⟩
    have hbwo : Hid (Below w.heap.size w wo) := hbw10.out.trans (hr.out.fr.below hbw10.out.size (fun j e => by subst e; exact hb3.out.size))
    have so2 := sizeLks (.slice q' n' c')
    have hn' : Hid (n' ≤ 500) := by show _ ≤ _; have h1 := hr.out.lk.len; have h2 := hr.out.chk.len; omega
    have hwf : Hid (Fr (fun k => k = w2.heap.size) w10 wo) := hr.out.fr
    have hown' : Hid (OwnS 3 wo u9.heap.size (.slice bq bn bc) bl) := hown.out.fr hr.out.fr (fun a ha e => by have h1 := (hown.out.far a ha).1; have h2 := hz.out; have h3 := hG.out; omega)
    by_cases hlt : j < bn
    · cases bq with
      | none => exact absurd hown'.out.nil_cap.1 (by omega)
      | some A0 =>
      obtain ⟨g, cur, rfl, _⟩ := hown'.out.opened
      obtain ⟨A, nb, hqA, hnbj, hcA⟩ := hown'.out.reads.at hlt
      cases hqA
      have cnb : wo.cell? ⟨g, j, none⟩ = some (.int .i64 nb) := by
        have h1 := hcA 0 _ rfl
        rw [show j * Cel.sz Int = j from Nat.mul_one j] at h1
        rcases Nat.eq_zero_or_pos j with h0 | h0
        · subst h0; simpa [Addr.add] using h1
        · simpa [Addr.add, Nat.ne_of_gt h0] using h1
      have hmem : nb ∈ bl := List.mem_of_getElem? hnbj
      have hdrop : Hid (bl.drop j = nb :: bl.drop (j + 1)) := by
        obtain ⟨h1, h2⟩ := List.getElem?_eq_some_iff.1 hnbj
        show _ = _
        rw [List.drop_eq_getElem_cons h1, h2]
      have hbo := Lib.hid (hbok.out nb hmem)
      have hny : (nb == y) = false := by simpa using hbo.out.1
      have i0 : (0 : Int) ≤ j := by omega
      have i1 : (j : Int) < bn := by omega
      have hrel := Lib.hid (release_any q' n' c' V' Lj nb (woL (relD nb) nb Lj) (woG (relD nb) nb Lj) 0 (.inr ⟨.inr (.inr ⟨hr.out.chk, hbo.out.2, rfl⟩), rfl, rfl, rfl⟩) wo (hS.out _ hbwo.out) hr.out.lk (hr.out.tot.sm (by decide)) (by have := hn'.out; omega))
      clear hcA hnbj hmem
      go_wp2_with (first
        | (with_reducible refine wpList_load_at rfl 24 (.tmp 5) rfl Tryz.underlying24 rfl so2 rfl hr.out.box.boxed.all ?_)
        | (go_at_call 29
           refine hrel.out.mono ?_
           rintro e v1 ⟨q5, n5, c5, V5, gq, gn, gc, rfl, k1, k2, k3⟩
           obtain ⟨v2, hv2⟩ : ∃ u, v1.alloc (.cells #[.slice q5 n5 c5] 24) = u := ⟨_, rfl⟩
           have hbv := Lib.hid (one_box (xs := [.slice q5 n5 c5]) hv2)
           have hbv2 : Hid (Below wo.heap.size wo v2) := below_step hbv.out.1 k3
           have hk2 := Lib.hid (k1.below hbv.out.1)
           have bx2 := Lib.hid (hr.out.box.below hbv2.out)
           have s5 := sizeLks (.slice q5 n5 c5)
           have hone5 : ∀ y ∈ ([.slice q5 n5 c5] : List Value), y.oneCell' = true := fun y hy => by obtain rfl := List.mem_singleton.1 hy; rfl
           clear k1 k2 k3 hrel)
        | (with_reducible refine wpList_load_at rfl 24 (.tmp 12) rfl Tryz.underlying24 rfl s5 rfl hbv.out.2.1.all ?_)
        | ((with_reducible refine wpList_store_at rfl 24 (.tmp 5) (.tmp 62) rfl (o := 0) (vs := [.slice q5 n5 c5]) rfl rfl bx2.out s5 (Nat.le_refl _) hone5 ?_)
           intro v9 h9 hg9
           have q9 : Hid (RowV 24 v9 w2.heap.size [.slice q5 n5 c5]) := h9
           have hg9' := Lib.hid hg9
           clear h9 hg9 hone5 hv2))
      go_roundw
      case rel =>
        have hGo : w2.heap.size < wo.heap.size := by have h1 := hG.out; have h2 := hz.out; have h3 := hwf.out.size; omega
        refine ⟨j + 1, q5, n5, c5, V5, woL (relD nb) nb Lj, by omega, by go_num, wo_chk hr.out.chk (ffit_rel hr.out.chk nb) nb, wo_tot hr.out.tot nb, (hk2.out.gr hg9'.out hGo).lk, q9.out, ?_, ?_⟩
        · exact (hwf.out.trans (Fr.of_below hbv2.out)).trans (Fr.of_grown hg9'.out (fun k e => by cases e; rfl))
        · have h1 := hr.out.sv
          rw [hdrop.out] at h1
          exact h1.step hr.out.chk (fun e => hbo.out.1 e.symm)
      case measure => simp [intOf]; omega
    · obtain rfl : bn = j := by omega
      have hsv9 := hr.out.sv
      rw [List.drop_of_length_le (by have := hbnl.out; omega)] at hsv9
      obtain ⟨hnx, hhe⟩ := hsv9.done hr.out.chk
      have hwt2 : Hid (WaitsR Lj y ⟨0, false, 0⟩ 0 false) := .inr (.inl ⟨hr.out.chk, wtOf_none (nowait_iff.2 hnx), rfl, rfl, rfl⟩)
      have hmd : Hid (ModeE Lj y ⟨t, k, id⟩ m) := .inr ⟨hr.out.chk, hhe.symm⟩
      have hidok : Hid (0 ≤ id ∧ id < 65536) := hidk.out
      have rr9 : Hid (RowV 30 wo w5.heap.size [.int .i64 t, .bool k, .int .u16 id]) := (r9.out.below hb910.out).block (hwf.out.block _ (by have := (r9.out.below hb910.out).lt; exact this) (fun e => by have h1 := hz.out; have h2 := hG.out; have h3 : w5.heap.size = w2.heap.size := e; omega))
      have q0 : (bn : Int) > 0 := by have := hgt.out; omega
      clear hsv9 hnx hhe
      go_wp2_with (first
        | (with_reducible refine wpList_load_at rfl 24 (.tmp 5) rfl Tryz.underlying24 rfl so2 rfl hr.out.box.boxed.all ?_)
        | (go_at_call 19
           refine (waits_any q' n' c' V' Lj y 0 false 0 0 false hwt2.out wo (hS.out _ hbwo.out) hr.out.lk (hr.out.tot.sm (by decide)) (by have := hn'.out; omega)).mono ?_
           rintro e v1 ⟨rfl, hb⟩
           obtain ⟨v3, hv3'⟩ : ∃ u, v1.alloc (.cells #[.int .i64 0, .bool false, .int .u16 0] 30) = u := ⟨_, rfl⟩
           have hbz2 := Lib.hid (one_box (xs := [.int .i64 0, .bool false, .int .u16 0]) hv3')
           have rz2 : Hid (RowV 30 v3 v1.heap.size [.int .i64 0, .bool false, .int .u16 0]) := RowV.made' (cs := [.int .i64 0, .bool false, .int .u16 0]) hv3'
           have hbo1 := Lib.hid hb
           have hv3 := Lib.hid (below_step hbz2.out.1 hb)
           have sv2 := sizeRes (.int .i64 0) (.bool false) (.int .u16 0)
           have hone2 : ∀ y ∈ ([.int .i64 0, .bool false, .int .u16 0] : List Value), y.oneCell' = true := fun y hy => by simp only [List.mem_cons, List.not_mem_nil, or_false] at hy; rcases hy with rfl | rfl | rfl <;> rfl
           clear hb)
        | ((with_reducible refine wpList_store_at rfl 30 (.tmp 15) (.tmp 68) rfl (o := 0) (vs := [.int .i64 0, .bool false, .int .u16 0]) rfl rfl rz2.out sv2 (Nat.le_refl _) hone2 ?_)
           intro v9 h9 hg9
           have hv9 : Hid (Below wo.heap.size wo v9) := low_step hv3.out hg9 hbo1.out.size
           have hbv9 := Lib.hid (below_step hv9.out hbwo.out)
           have hbx9 := hr.out.box.below hv9.out
           have z0 : v9.cell? ⟨w2.heap.size, 0, none⟩ = some (.slice q' n' c') := hbx9.cell 0
           have hrr := rr9.out.below hv9.out
           have z1 : v9.cell? ⟨w5.heap.size, 0, none⟩ = some (.int .i64 t) := hrr.cell 0
           have z2 : v9.cell? ⟨w5.heap.size, 1, none⟩ = some (.bool k) := hrr.cell 1
           have z3 : v9.cell? ⟨w5.heap.size, 2, none⟩ = some (.int .u16 id) := hrr.cell 2
           have hmode := Lib.hid (mode_any q' n' c' V' Lj y t k id m hmd.out v9 (hS.out _ hbv9.out) (hr.out.lk.below hv9.out (Nat.le_refl _)) (hr.out.tot.sm (by decide)) (by have := hn'.out; omega) (fun h => ⟨h.sort, h.sorts⟩) hidok.out.1 hidok.out.2)
           clear h9 hg9 hone2 hv3' hbx9 hrr)
        | (go_at_call 26
           refine hmode.out.mono ?_
           rintro e v10 ⟨rfl, hb⟩
           have hfin := Lib.hid (below_step hb hbv9.out)
           clear hb))
      go_ret
      exact ⟨rfl, hfin.out⟩

theorem serves_any (q : Option Addr) (n c : Nat) (V : List QV) (L : List QueD) (y : Int) (w : World) (hL : Lay w) (h : LkOn w q n c V L) :
    Calls Tryz.prog 7 #[.agg #[.slice q n c], .int .i64 y] w (fun e w' => e = .returned (.bool true) ∧ Below w.heap.size w w') := by
  by_cases hck : ChkOk (fewL L)
  · cases hw : wtOf (fewL L) y with
    | none => exact serves_idle q n c V L y w hL h hck hw
    | some d => exact serves_busy q n c V L y w hL h hck d hw
  · exact serves_bad q n c V L y w hL h hck

set_option maxRecDepth 1000000 in
theorem serves_lifted (os : Os) (started : os.Started) (H : Type) (enc : TypeId × Value → H) :
    ReturnsInHanded {} Tryz.checked os 7 .any (fun w args => (Rows.locksServesSpec.pre enc Tryz.prog Tryz.f7 [] false w args ∧ laidMetH Tryz.prog [("bursary/mode.goes", Rows.laid_bursary_mode_goes), ("bursary/mode.covers", Rows.laid_bursary_mode_covers)] w) ∧ sizedMet enc Tryz.prog Tryz.f7 (OpenSpec.ofChange Rows.locksServesSpec) false w args)
      (Rows.locksServesSpec.post enc Tryz.prog Tryz.f7 false true false false) := by
  refine returnsInHanded_of_change_and (C := Tryz.checked) (X := fun w _ => laidMetH Tryz.prog [("bursary/mode.goes", Rows.laid_bursary_mode_goes), ("bursary/mode.covers", Rows.laid_bursary_mode_covers)] w) (fun _ _ _ hh h => h.of_heap hh) own started (by kernel_rfl) Tryz.func7
    (ChangeSpec.witness_shaped (enc := enc) (C := Tryz.checked) (os := os) (X := fun w _ => laidMetH Tryz.prog [("bursary/mode.goes", Rows.laid_bursary_mode_goes), ("bursary/mode.covers", Rows.laid_bursary_mode_covers)] w) false (World.doorLaid Tryz.prog 400 os) #[.agg #[.slice none 0 0], .int .i64 0] 8 rfl (World.shaped_of_RefB (by kernel_rfl) (by kernel_rfl)) (by kernel_rfl) (by kernel_rfl) (by kernel_rfl) (door_met os _)) ?_
  intro W base args ds gs before hval0 hW _ _ hL _
  have hval : ∀ (j : Nat) t v, Tryz.f7.params[j]? = some t → args[j]? = some v → Value.okWide Tryz.prog W .any base t v := hval0
  have hW' := hW
  obtain ⟨p, q, hA0, hV, rfl, _, _⟩ := hW
  have hA : DataW.TrodAll enc Tryz.prog W 0 (fun _ => true) true Tryz.f7.params.toList args.toList ds p := hA0
  rw [Tryz.params7] at hA hval
  obtain ⟨v0, v1, d0, d1, q0, q1, rfl, rfl, rfl, h0, h1⟩ := trodAll_two hA
  obtain ⟨rfl, rfl⟩ := trodVars_none hV
  have hT := of_laid hL
  obtain ⟨aq, an, ac, aV, aL, rfl, hl0⟩ := open_lks (hval 0 24 v0 rfl rfl) h0
  obtain ⟨k1, rfl⟩ := okWide_int Tryz.underlying3 (hval 1 3 v1 rfl rfl)
  refine (serves_any aq an ac aV aL k1 W hT hl0).mono fun e W' ⟨he, hb⟩ => ?_
  subst he
  exact ⟨_, rfl, law_post laidOut (of_decide_eq_true (by kernel_rfl)) rfl (by kernel_rfl) Tryz.underlying4 hW' ⟨rfl, rfl, rfl⟩ hb⟩

set_option maxRecDepth 1000000 in
theorem serves_said : Rows.LocksServesSaid :=
  OpenClaim.holds_of_wide 7 Tryz.f7 rfl rfl rfl rfl rfl rfl rfl ⟨rfl, rfl, rfl, rfl, rfl⟩ rfl rfl rfl rfl rfl (by kernel_rfl) Tryz.func7 (by kernel_rfl)
    (of_decide_eq_true (by kernel_rfl)) (by unfold Func.isWrapper; first | (rw [if_pos (by decide +kernel)]; kernel_rfl) | (rw [if_neg (by decide +kernel)]; exact ⟨rfl, rfl⟩))
    (fun os started H enc _ => serves_lifted os started H enc)

set_option maxRecDepth 1000000 in
theorem serves_holds : Rows.LocksServesCardSaid :=
  Claim7.holds_tied_plain_at .later [] [.wider, .wider] true Rows.locksServesCard.stood.harness false
    serves_said (fun _ h => by cases h) (by kernel_rfl) (fun _ h => by cases h) locksServes_row_tie rfl ⟨rfl, rfl⟩ (by kernel_rfl) rfl
    (fun f fn hf hfn => by
      obtain rfl : f = 7 := Option.some.inj ((show Tryz.prog.funcNamed "bursary/bursarylaw08.LocksServes" = some 7 by kernel_rfl).symm.trans hf) |>.symm
      obtain rfl : fn = Tryz.f7 := (Option.some.inj (Tryz.func7.symm.trans hfn)).symm
      exact ⟨by kernel_rfl, fun j t ht => by
        rw [Tryz.params7] at ht
        have hm : t ∈ [24, 3] := by simpa using Array.mem_of_getElem? ht
        have hall : ([24, 3].all fun u => !Tryz.prog.wantsStandIn u) = true := by kernel_rfl
        exact (show Tryz.prog.wantsStandIn t = false by simpa using List.all_eq_true.1 hall t hm)⟩)
    (by kernel_rfl)

end Go.Proofs.YtbgpppbcffpdbaaGreatDoor
