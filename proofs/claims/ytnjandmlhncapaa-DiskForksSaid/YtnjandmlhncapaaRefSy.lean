/- Sync (bursaryref02), by its contract. -/
import Derived.Test.YtnjandmlhncapaaRefSe
namespace Go.Proofs.Ytnjandmlhncapaa
open Go.RowKit

/-- the call's own two variables: the disk, and what it returns -/
structure YRel (w wr : World) (D R : List Value) : Prop where
  below : Below w.heap.size w wr
  d : RowV 31 wr w.heap.size D
  r : RowV 31 wr (w.heap.size + 1) R
theorem YRel.start (w : World) (D R : List Value) : YRel w ((w.alloc (.cells D.toArray 31)).alloc (.cells R.toArray 31)) D R := ⟨(st_start w D R).1, (st_start w D R).2.1, (st_start w D R).2.2⟩
theorem YRel.putD {w wr w' : World} {D R D' : List Value} (h : YRel w wr D R) (hr : RowV 31 w' w.heap.size D') (hg : wr.grownBy w' (some w.heap.size)) : YRel w w' D' R :=
  ⟨h.below.grown hg h.below.size (fun k e => by cases e; omega), hr, h.r.kept hg (by omega)⟩
theorem YRel.putR {w wr w' : World} {D R R' : List Value} (h : YRel w wr D R) (hr : RowV 31 w' (w.heap.size + 1) R') (hg : wr.grownBy w' (some (w.heap.size + 1))) : YRel w w' D R' :=
  ⟨h.below.grown hg h.below.size (fun k e => by cases e; omega), h.d.kept hg (by omega), hr⟩
theorem YRel.stay {w wr w' : World} {D R : List Value} (h : YRel w wr D R) (hg : Below wr.heap.size wr w') : YRel w w' D R :=
  ⟨h.below.trans (hg.mono h.below.size), h.d.below hg, h.r.below hg⟩

set_option maxRecDepth 100000 in
set_option maxHeartbeats 1000000 in
theorem rsync_dead (q : Option Addr) (n c : Nat) (ops armed failing : Int) (w : World) :
    Calls Try.prog 36 #[.agg #[.slice q n c, .int .i64 ops, .int .i64 armed, .int .i64 failing, .bool true]] w (fun e w' => e = .returned (.tuple #[.agg #[.slice q n c, .int .i64 ops, .int .i64 armed, .int .i64 failing, .bool true], .int .i64 9]) ∧ Below w.heap.size w w') := by
  have t0 := Lib.hid (YRel.start w (dL q n c ops armed failing true) (dL none 0 0 0 0 0 false))
  have c4 : ((w.alloc (.cells (dL q n c ops armed failing true).toArray 31)).alloc (.cells (dL none 0 0 0 0 0 false).toArray 31)).cell? ⟨w.heap.size, 4, none⟩ = some (.bool true) := t0.out.d.cell 4
  go_enter Try.func36, Try.ntmps36
  go_wp2_with (first
    | (with_reducible refine wpList_load_at rfl 31 (.tmp 1) rfl Try.underlying31 rfl (vs := dL q n c ops armed failing true) (size31b _ _ _ _ _) rfl (t0.out.d.part (o := 0) (pre := []) (rest := []) (part31 _) rfl) ?_)
    | ((with_reducible refine wpList_store_at rfl 31 (.tmp 2) (.tmp 7) rfl (o := 0) rfl rfl t0.out.r (size31b _ _ _ _ _) (fit31 _ _ _ _ _ _ _ _ _ _) (one31 q n c ops armed failing true) ?_)
       intro w5 h5 hg5
       rw [d5_splice] at h5
       have t5 := Lib.hid (t0.out.putR h5 hg5)
       clear h5 hg5)
    | (refine bodyPost_ret (results_disk_tmp (r := 2) (u := 3) Try.results36 _ _ (w.heap.size + 1) _ _ _ _ _ rfl t5.out.r _ rfl) rfl ⟨rfl, ?_⟩))
  exact t5.out.below

set_option maxRecDepth 100000 in
set_option maxHeartbeats 1000000 in
theorem rsync_stop (q : Option Addr) (n c : Nat) (ops armed failing ar fl er : Int) (dd : Bool) (w : World) (hb : Begins q n c ops armed failing false ar fl dd er) (her : er ≠ 0) :
    Calls Try.prog 36 #[.agg #[.slice q n c, .int .i64 ops, .int .i64 armed, .int .i64 failing, .bool false]] w (fun e w' => e = .returned (.tuple #[.agg #[.slice q n c, .int .i64 (ops + 1), .int .i64 ar, .int .i64 fl, .bool dd], .int .i64 er]) ∧ Below w.heap.size w w') := by
  have t0 := Lib.hid (YRel.start w (dL q n c ops armed failing false) (dL none 0 0 0 0 0 false))
  have c4 : ((w.alloc (.cells (dL q n c ops armed failing false).toArray 31)).alloc (.cells (dL none 0 0 0 0 0 false).toArray 31)).cell? ⟨w.heap.size, 4, none⟩ = some (.bool false) := t0.out.d.cell 4
  have hbg' := Lib.hid hb
  have hne : (er != 0) = true := by simpa using her
  clear hb her
  go_enter Try.func36, Try.ntmps36
  go_wp2_with (first
    | (go_at_call 59; refine (hbg'.out _).mono ?_; rintro e w4 ⟨rfl, hb4⟩
       have t4 := Lib.hid (t0.out.stay hb4)
       clear hb4)
    | (with_reducible refine wpList_load_at rfl 31 (.tmp 1) rfl Try.underlying31 rfl (vs := dL q n c (ops + 1) ar fl dd) (size31b _ _ _ _ _) rfl (t4'.out.d.part (o := 0) (pre := []) (rest := []) (part31 _) rfl) ?_)
    | (with_reducible refine wpList_load_at rfl 31 (.tmp 1) rfl Try.underlying31 rfl (vs := dL q n c ops armed failing false) (size31b _ _ _ _ _) rfl (t0.out.d.part (o := 0) (pre := []) (rest := []) (part31 _) rfl) ?_)
    | ((with_reducible refine wpList_store_at rfl 31 (.tmp 1) (.tmp 11) rfl (o := 0) rfl rfl t4.out.d (size31b _ _ _ _ _) (fit31 _ _ _ _ _ _ _ _ _ _) (one31 q n c (ops + 1) ar fl dd) ?_)
       intro w4' h4 hg4
       rw [d5_splice] at h4
       have t4' := Lib.hid (t4.out.putD h4 hg4)
       clear h4 hg4)
    | ((with_reducible refine wpList_store_at rfl 31 (.tmp 2) (.tmp 15) rfl (o := 0) rfl rfl t4'.out.r (size31b _ _ _ _ _) (fit31 _ _ _ _ _ _ _ _ _ _) (one31 q n c (ops + 1) ar fl dd) ?_)
       intro w5 h5 hg5
       rw [d5_splice] at h5
       have t5 := Lib.hid (t4'.out.putR h5 hg5)
       clear h5 hg5)
    | (refine bodyPost_ret (results_disk_tmp (r := 2) (u := 3) Try.results36 _ _ (w.heap.size + 1) _ _ _ _ _ rfl t5.out.r _ rfl) rfl ⟨rfl, ?_⟩))
  exact t5.out.below

theorem keep_none (w : World) : KeepW w (.slice none ([] : List Bool).length 0) [] := ⟨none, 0, rfl, Nat.zero_le _, fun _ => rfl, fun a ha => by cases ha⟩

set_option maxRecDepth 100000 in
set_option maxHeartbeats 1000000 in
theorem rsync_ok (q : Option Addr) (c : Nat) (ops armed failing ar fl : Int) (dd : Bool) (S : List Sc) (w : World) (hv : HoldsE w (.slice q S.length c) (S.map Sc.cells)) (hS : ∀ s ∈ S, s.Ok) (hn : S.length ≤ 4096) (hb : Begins q S.length c ops armed failing false ar fl dd 0) :
    Calls Try.prog 36 #[.agg #[.slice q S.length c, .int .i64 ops, .int .i64 armed, .int .i64 failing, .bool false]] w (WrPost w S.length ((stl (kept true []) 0 S).map Sc.cells) (ops + 1) ar fl dd 0) := by
  have hst : ∀ u : World, Below w.heap.size w u → Calls Try.prog 44 #[.agg #[.slice q S.length c, .int .i64 (ops + 1), .int .i64 ar, .int .i64 fl, .bool dd], .bool true, .slice none 0 0] u (StPost u S.length (stl (kept true []) 0 S) (ops + 1) ar fl dd) := fun u hu =>
    settled_any q c (ops + 1) ar fl dd true none 0 [] S u (holdsE_below hv hu (Nat.le_refl _)) hS hn (keep_none u)
  obtain ⟨n, hnS⟩ : ∃ n, S.length = n := ⟨_, rfl⟩
  rw [hnS] at hst hb ⊢
  have hst' := Lib.hid hst
  have hbg' := Lib.hid hb
  have t0 := Lib.hid (YRel.start w (dL q n c ops armed failing false) (dL none 0 0 0 0 0 false))
  have c4 : ((w.alloc (.cells (dL q n c ops armed failing false).toArray 31)).alloc (.cells (dL none 0 0 0 0 0 false).toArray 31)).cell? ⟨w.heap.size, 4, none⟩ = some (.bool false) := t0.out.d.cell 4
  clear hb hst hv hS hn hnS
  go_enter Try.func36, Try.ntmps36
  go_wp2_with (first
    | (go_at_call 59; refine (hbg'.out _).mono ?_; rintro e w4 ⟨rfl, hb4⟩
       have t4 := Lib.hid (t0.out.stay hb4)
       clear hb4)
    | (go_at_call 44; refine (hst'.out _ t4'.out.below).mono ?_; rintro e w6 ⟨q6, c6, rfl, ho6, hb6⟩
       have t6 := Lib.hid (t4'.out.stay hb6)
       have o6 := Lib.hid ho6
       clear hb6 ho6)
    | (with_reducible refine wpList_load_at rfl 31 (.tmp 1) rfl Try.underlying31 rfl (vs := dL q n c (ops + 1) ar fl dd) (size31b _ _ _ _ _) rfl (t4'.out.d.part (o := 0) (pre := []) (rest := []) (part31 _) rfl) ?_)
    | (with_reducible refine wpList_load_at rfl 31 (.tmp 1) rfl Try.underlying31 rfl (vs := dL q n c ops armed failing false) (size31b _ _ _ _ _) rfl (t0.out.d.part (o := 0) (pre := []) (rest := []) (part31 _) rfl) ?_)
    | ((with_reducible refine wpList_store_at rfl 31 (.tmp 1) (.tmp 11) rfl (o := 0) rfl rfl t4.out.d (size31b _ _ _ _ _) (fit31 _ _ _ _ _ _ _ _ _ _) (one31 q n c (ops + 1) ar fl dd) ?_)
       intro w4' h4 hg4
       rw [d5_splice] at h4
       have t4' := Lib.hid (t4.out.putD h4 hg4)
       clear h4 hg4)
    | ((with_reducible refine wpList_store_at rfl 31 (.tmp 2) (.tmp 18) rfl (o := 0) rfl rfl t6.out.r (size31b _ _ _ _ _) (fit31 _ _ _ _ _ _ _ _ _ _) (one31 q6 n c6 (ops + 1) ar fl dd) ?_)
       intro w7 h7 hg7
       rw [d5_splice] at h7)
    | (refine bodyPost_ret (results_disk_tmp (r := 2) (u := 3) Try.results36 _ _ (w.heap.size + 1) _ _ _ _ _ rfl h7 _ rfl) rfl ?_))
  have hl := t4'.out.r.lt
  exact ⟨q6, c6, rfl, (o6.out.kept fun a ha => hg7.block _ (o6.out.holds.2.2 a ha).2 (fun e => by
    have := Option.some.inj e
    have := (o6.out.holds.2.2 a ha).1
    omega)).lower (by omega), (t6.out.putR h7 hg7).below⟩

end Go.Proofs.Ytnjandmlhncapaa
