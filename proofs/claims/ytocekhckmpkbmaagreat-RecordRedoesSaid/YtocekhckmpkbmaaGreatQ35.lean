/- The document's record: which transactions of a checkpoint may be. -/
import Derived.Test.YtocekhckmpkbmaaGreatQ33
import Derived.Deep.QuietTactic
import Derived.BigQuiet
namespace Go.Proofs.YtocekhckmpkbmaaGreat
open Go.RowKit
set_option maxRecDepth 100000 in
set_option maxHeartbeats 16000000 in
theorem txns_doc (q : Option Addr) (n c : Nat) (L : List TxnD) (lsn nt : Int) (w : World) (h : SlOn w q n c L) :
 Calls Tryz.prog 33 #[.slice q n c, .int .u64 lsn, .int .i64 nt] w (fun e w' => e = .returned (.bool (decide (L.length ≤ 8) && txF lsn nt 0 L)) ∧ Below w.heap.size w w') := by
 have hh := Lib.hid h
 have hLl : Hid (L.length = n) := h.len
 have hmax : n ≤ maxLen := Nat.le_trans h.le h.cap
 unfold maxLen at hmax
 clear h
 obtain ⟨R, hR⟩ : ∃ R, (decide (L.length ≤ 8) && txF lsn nt 0 L) = R := ⟨_, rfl⟩
 rw [hR]
 replace hR := Lib.hid hR
 go_enter Tryz.func33, Tryz.ntmps33
 go_wp2
 go_loopw [11] (fun v wr => ∃ j : Nat, j ≤ n ∧ v = .int .i64 j ∧ Hid (Below w.heap.size w wr) ∧ Hid (∃ a : Int, 0 ≤ a ∧ (j = 0 → a = 0) ∧ (∀ m d, j = m + 1 → L[m]? = some d → a = d.txn) ∧ txF lsn nt 0 L = txF lsn nt a (L.drop j))) (fun v _ => n - (RowKit.intOf v).toNat)
 case atStart => exact ⟨0, Nat.zero_le _, rfl, (show Below _ _ _ from Below.refl _ _), (show ∃ a : Int, _ from ⟨0, by omega, fun _ => rfl, fun m d h => by omega, rfl⟩)⟩
 case round =>
  obtain ⟨j, hj, rfl, hd, hri⟩ := hrel
  by_cases hlt : j < n
  · obtain ⟨A, ⟨tx, fi, la, un, sta⟩, hqA, hx, hcA⟩ := (hh.out.below hd.out (Nat.le_refl _)).at (show j < n from hlt)
    have hcA : Hid (∀ j' x, ([.int .i64 tx, .int .u64 fi, .int .u64 la, .int .u64 un, .int .i64 sta] : List Value)[j']? = some x → wr.cell? ((A.add (j * 5)).add j') = some x) := hcA
    have hs : (Tryz.prog.info? 82).map (·.size) = some ([.int .i64 tx, .int .u64 fi, .int .u64 la, .int .u64 un, .int .i64 sta] : List Value).length := sizeTxn ⟨tx, fi, la, un, sta⟩
    have i0 : (0 : Int) ≤ j := by omega
    have i1 : (j : Int) < n := by omega
    obtain ⟨we, hwe⟩ : ∃ x, wr.alloc (.cells #[.int .i64 tx, .int .u64 fi, .int .u64 la, .int .u64 un, .int .i64 sta] 82) = x := ⟨_, rfl⟩
    have hbk := Lib.hid (one_box (xs := [.int .i64 tx, .int .u64 fi, .int .u64 la, .int .u64 un, .int .i64 sta]) hwe)
    have hde := Lib.hid (below_step hbk.out.1 hd.out)
    obtain ⟨a, ha1, ha2, ha3, har⟩ := hri.out
    rw [txF_at hx] at har
    replace har := Lib.hid har
    replace hx := Lib.hid hx
    have hbad : Hid (txBad lsn nt a ⟨tx, fi, la, un, sta⟩ → R = false) := fun h => by rw [← hR.out, har.out, if_pos h, Bool.and_false]
    have d0 : we.cell? ⟨wr.heap.size, 0, none⟩ = some (.int .i64 tx) := hbk.out.2.1.cell 0 rfl
    have d1 : we.cell? ⟨wr.heap.size, 1, none⟩ = some (.int .u64 fi) := hbk.out.2.1.cell 1 rfl
    have d2 : we.cell? ⟨wr.heap.size, 2, none⟩ = some (.int .u64 la) := hbk.out.2.1.cell 2 rfl
    have d3 : we.cell? ⟨wr.heap.size, 3, none⟩ = some (.int .u64 un) := hbk.out.2.1.cell 3 rfl
    have d4 : we.cell? ⟨wr.heap.size, 4, none⟩ = some (.int .i64 sta) := hbk.out.2.1.cell 4 rfl
    cases j with
    | zero =>
      subst hqA
      have iz : decide ((0 : Int) < ((0 : Nat) : Int)) = false := rfl
      by_cases n1 : tx < 1
      · have e1 : decide (tx < 1) = true := decide_eq_true n1
        have hno : Hid (R = false) := hbad.out (by unfold txBad; dsimp only; omega)
        clear n1
        go_wp2_with (first
         | (with_reducible refine wpList_load_at rfl 82 (.tmp 14) rfl Tryz.underlying82 rfl hs rfl hcA.out ?_))
        try rw [hwe]
        go_quiet (fail)
        go_wp2
        go_ret
        exact ⟨by rw [hno.out]; rfl, below_step (below_drewN _ _) hde.out⟩
      have e1 : decide (tx < 1) = false := decide_eq_false n1
      by_cases n2 : nt ≤ tx
      · have e2 : decide (nt ≤ tx) = true := decide_eq_true n2
        have hno : Hid (R = false) := hbad.out (by unfold txBad; dsimp only; omega)
        clear n1 n2
        go_wp2_with (first
         | (with_reducible refine wpList_load_at rfl 82 (.tmp 14) rfl Tryz.underlying82 rfl hs rfl hcA.out ?_))
        try rw [hwe]
        go_quiet (fail)
        go_wp2
        go_ret
        exact ⟨by rw [hno.out]; rfl, below_step (below_drewN _ _) hde.out⟩
      have e2 : decide (nt ≤ tx) = false := decide_eq_false n2
      by_cases n3 : fi < 1
      · have e3 : decide (fi < 1) = true := decide_eq_true n3
        have hno : Hid (R = false) := hbad.out (by unfold txBad; dsimp only; omega)
        clear n1 n2 n3
        go_wp2_with (first
         | (with_reducible refine wpList_load_at rfl 82 (.tmp 14) rfl Tryz.underlying82 rfl hs rfl hcA.out ?_))
        try rw [hwe]
        go_quiet (fail)
        go_wp2
        go_ret
        exact ⟨by rw [hno.out]; rfl, below_step (below_drewN _ _) hde.out⟩
      have e3 : decide (fi < 1) = false := decide_eq_false n3
      by_cases n4 : la < fi
      · have e4 : decide (la < fi) = true := decide_eq_true n4
        have hno : Hid (R = false) := hbad.out (by unfold txBad; dsimp only; omega)
        clear n1 n2 n3 n4
        go_wp2_with (first
         | (with_reducible refine wpList_load_at rfl 82 (.tmp 14) rfl Tryz.underlying82 rfl hs rfl hcA.out ?_))
        try rw [hwe]
        go_quiet (fail)
        go_wp2
        go_ret
        exact ⟨by rw [hno.out]; rfl, below_step (below_drewN _ _) hde.out⟩
      have e4 : decide (la < fi) = false := decide_eq_false n4
      by_cases n5 : lsn ≤ la
      · have e5 : decide (lsn ≤ la) = true := decide_eq_true n5
        have hno : Hid (R = false) := hbad.out (by unfold txBad; dsimp only; omega)
        clear n1 n2 n3 n4 n5
        go_wp2_with (first
         | (with_reducible refine wpList_load_at rfl 82 (.tmp 14) rfl Tryz.underlying82 rfl hs rfl hcA.out ?_))
        try rw [hwe]
        go_quiet (fail)
        go_wp2
        go_ret
        exact ⟨by rw [hno.out]; rfl, below_step (below_drewN _ _) hde.out⟩
      have e5 : decide (lsn ≤ la) = false := decide_eq_false n5
      by_cases n6 : la < un
      · have e6 : decide (la < un) = true := decide_eq_true n6
        have hno : Hid (R = false) := hbad.out (by unfold txBad; dsimp only; omega)
        clear n1 n2 n3 n4 n5 n6
        go_wp2_with (first
         | (with_reducible refine wpList_load_at rfl 82 (.tmp 14) rfl Tryz.underlying82 rfl hs rfl hcA.out ?_))
        try rw [hwe]
        go_quiet (fail)
        go_wp2
        go_ret
        exact ⟨by rw [hno.out]; rfl, below_step (below_drewN _ _) hde.out⟩
      have e6 : decide (la < un) = false := decide_eq_false n6
      by_cases n7 : sta < 1
      · have e7 : decide (sta < 1) = true := decide_eq_true n7
        have hno : Hid (R = false) := hbad.out (by unfold txBad; dsimp only; omega)
        clear n1 n2 n3 n4 n5 n6 n7
        go_wp2_with (first
         | (with_reducible refine wpList_load_at rfl 82 (.tmp 14) rfl Tryz.underlying82 rfl hs rfl hcA.out ?_))
        try rw [hwe]
        go_quiet (fail)
        go_wp2
        go_ret
        exact ⟨by rw [hno.out]; rfl, below_step (below_drewN _ _) hde.out⟩
      have e7 : decide (sta < 1) = false := decide_eq_false n7
      by_cases n8 : 3 < sta
      · have e8 : decide (3 < sta) = true := decide_eq_true n8
        have hno : Hid (R = false) := hbad.out (by unfold txBad; dsimp only; omega)
        clear n1 n2 n3 n4 n5 n6 n7 n8
        go_wp2_with (first
         | (with_reducible refine wpList_load_at rfl 82 (.tmp 14) rfl Tryz.underlying82 rfl hs rfl hcA.out ?_))
        try rw [hwe]
        go_quiet (fail)
        go_wp2
        go_ret
        exact ⟨by rw [hno.out]; rfl, below_step (below_drewN _ _) hde.out⟩
      have e8 : decide (3 < sta) = false := decide_eq_false n8
      have hr2 : Hid (∃ a : Int, 0 ≤ a ∧ (0 + 1 = 0 → a = 0) ∧ (∀ m2 d, 0 + 1 = m2 + 1 → L[m2]? = some d → a = d.txn) ∧ txF lsn nt 0 L = txF lsn nt a (L.drop (0 + 1))) := ⟨tx, by omega, fun h => by omega, fun m2 d' h1 h2 => (by have hm : m2 = 0 := (by omega); subst hm; rw [hx.out] at h2; cases h2; rfl), by rw [har.out, if_neg (by unfold txBad; dsimp only; have h0 := ha2 rfl; omega)]⟩
      clear n1 n2 n3 n4 n5 n6 n7 n8
      go_wp2_with (first
       | (with_reducible refine wpList_load_at rfl 82 (.tmp 14) rfl Tryz.underlying82 rfl hs rfl hcA.out ?_))
      try rw [hwe]
      go_quiet (fail)
      clear hwe
      go_wp2
      go_roundw
      case rel => exact ⟨0 + 1, by omega, by go_num, below_step (below_drewN _ _) hde.out, hr2⟩
      case measure => simp [RowKit.intOf]; omega
    | succ m =>
      obtain ⟨A', ⟨tx', fi', la', un', sta'⟩, hqA', hx', hc'⟩ := (hh.out.below hde.out (Nat.le_refl _)).at (show m < n by omega)
      subst hqA
      cases hqA'
      have hpc : we.cell? (A.add (m * 5)) = some (.int .i64 a) := by
       have h1 : we.cell? ((A.add (m * 5)).add 0) = some (.int .i64 tx') := hc' 0 _ rfl
       have h2 : tx' = a := (ha3 m _ rfl hx').symm
       rw [← h2]
       rwa [show ((A.add (m * 5)).add 0) = A.add (m * 5) from by simp [add_zero]] at h1
      clear hx' hc'
      have w0 : IntKind.i64.wrap (((m + 1 : Nat) : Int) - 1) = m := by rw [show ((m + 1 : Nat) : Int) - 1 = m by omega]; exact IntWalk.i64_in (m : Int) (by omega)
      have w0' : IntKind.i64.wrap ((m : Int) + 1 - 1) = m := by rw [Int.add_sub_cancel]; exact IntWalk.i64_in (m : Int) (by omega)
      have w1' : IntKind.i64.wrap (m : Int) = m := IntWalk.i64_in (m : Int) (by omega)
      have j0 : (0 : Int) ≤ m := by omega
      have j1 : (m : Int) < n := by omega
      have j2 : (0 : Int) < (m : Int) + 1 := by omega
      have j3 : decide ((0 : Int) < (m : Int) + 1) = true := decide_eq_true j2
      by_cases n1 : tx < 1
      · have e1 : decide (tx < 1) = true := decide_eq_true n1
        have hno : Hid (R = false) := hbad.out (by unfold txBad; dsimp only; omega)
        clear n1
        go_wp2_with (first
         | (with_reducible refine wpList_load_at rfl 82 (.tmp 14) rfl Tryz.underlying82 rfl hs rfl hcA.out ?_))
        try rw [hwe]
        go_quiet (fail)
        go_wp2
        go_ret
        exact ⟨by rw [hno.out]; rfl, below_step (below_drewN _ _) hde.out⟩
      have e1 : decide (tx < 1) = false := decide_eq_false n1
      by_cases n2 : nt ≤ tx
      · have e2 : decide (nt ≤ tx) = true := decide_eq_true n2
        have hno : Hid (R = false) := hbad.out (by unfold txBad; dsimp only; omega)
        clear n1 n2
        go_wp2_with (first
         | (with_reducible refine wpList_load_at rfl 82 (.tmp 14) rfl Tryz.underlying82 rfl hs rfl hcA.out ?_))
        try rw [hwe]
        go_quiet (fail)
        go_wp2
        go_ret
        exact ⟨by rw [hno.out]; rfl, below_step (below_drewN _ _) hde.out⟩
      have e2 : decide (nt ≤ tx) = false := decide_eq_false n2
      by_cases n3 : tx ≤ a
      · have e3 : decide (tx ≤ a) = true := decide_eq_true n3
        have hno : Hid (R = false) := hbad.out (by unfold txBad; dsimp only; omega)
        clear n1 n2 n3
        go_wp2_with (first
         | (with_reducible refine wpList_load_at rfl 82 (.tmp 14) rfl Tryz.underlying82 rfl hs rfl hcA.out ?_))
        try rw [hwe]
        go_quiet (fail)
        go_wp2
        go_ret
        exact ⟨by rw [hno.out]; rfl, below_step (below_drewN _ _) hde.out⟩
      have e3 : decide (tx ≤ a) = false := decide_eq_false n3
      by_cases n4 : fi < 1
      · have e4 : decide (fi < 1) = true := decide_eq_true n4
        have hno : Hid (R = false) := hbad.out (by unfold txBad; dsimp only; omega)
        clear n1 n2 n3 n4
        go_wp2_with (first
         | (with_reducible refine wpList_load_at rfl 82 (.tmp 14) rfl Tryz.underlying82 rfl hs rfl hcA.out ?_))
        try rw [hwe]
        go_quiet (fail)
        go_wp2
        go_ret
        exact ⟨by rw [hno.out]; rfl, below_step (below_drewN _ _) hde.out⟩
      have e4 : decide (fi < 1) = false := decide_eq_false n4
      by_cases n5 : la < fi
      · have e5 : decide (la < fi) = true := decide_eq_true n5
        have hno : Hid (R = false) := hbad.out (by unfold txBad; dsimp only; omega)
        clear n1 n2 n3 n4 n5
        go_wp2_with (first
         | (with_reducible refine wpList_load_at rfl 82 (.tmp 14) rfl Tryz.underlying82 rfl hs rfl hcA.out ?_))
        try rw [hwe]
        go_quiet (fail)
        go_wp2
        go_ret
        exact ⟨by rw [hno.out]; rfl, below_step (below_drewN _ _) hde.out⟩
      have e5 : decide (la < fi) = false := decide_eq_false n5
      by_cases n6 : lsn ≤ la
      · have e6 : decide (lsn ≤ la) = true := decide_eq_true n6
        have hno : Hid (R = false) := hbad.out (by unfold txBad; dsimp only; omega)
        clear n1 n2 n3 n4 n5 n6
        go_wp2_with (first
         | (with_reducible refine wpList_load_at rfl 82 (.tmp 14) rfl Tryz.underlying82 rfl hs rfl hcA.out ?_))
        try rw [hwe]
        go_quiet (fail)
        go_wp2
        go_ret
        exact ⟨by rw [hno.out]; rfl, below_step (below_drewN _ _) hde.out⟩
      have e6 : decide (lsn ≤ la) = false := decide_eq_false n6
      by_cases n7 : la < un
      · have e7 : decide (la < un) = true := decide_eq_true n7
        have hno : Hid (R = false) := hbad.out (by unfold txBad; dsimp only; omega)
        clear n1 n2 n3 n4 n5 n6 n7
        go_wp2_with (first
         | (with_reducible refine wpList_load_at rfl 82 (.tmp 14) rfl Tryz.underlying82 rfl hs rfl hcA.out ?_))
        try rw [hwe]
        go_quiet (fail)
        go_wp2
        go_ret
        exact ⟨by rw [hno.out]; rfl, below_step (below_drewN _ _) hde.out⟩
      have e7 : decide (la < un) = false := decide_eq_false n7
      by_cases n8 : sta < 1
      · have e8 : decide (sta < 1) = true := decide_eq_true n8
        have hno : Hid (R = false) := hbad.out (by unfold txBad; dsimp only; omega)
        clear n1 n2 n3 n4 n5 n6 n7 n8
        go_wp2_with (first
         | (with_reducible refine wpList_load_at rfl 82 (.tmp 14) rfl Tryz.underlying82 rfl hs rfl hcA.out ?_))
        try rw [hwe]
        go_quiet (fail)
        go_wp2
        go_ret
        exact ⟨by rw [hno.out]; rfl, below_step (below_drewN _ _) hde.out⟩
      have e8 : decide (sta < 1) = false := decide_eq_false n8
      by_cases n9 : 3 < sta
      · have e9 : decide (3 < sta) = true := decide_eq_true n9
        have hno : Hid (R = false) := hbad.out (by unfold txBad; dsimp only; omega)
        clear n1 n2 n3 n4 n5 n6 n7 n8 n9
        go_wp2_with (first
         | (with_reducible refine wpList_load_at rfl 82 (.tmp 14) rfl Tryz.underlying82 rfl hs rfl hcA.out ?_))
        try rw [hwe]
        go_quiet (fail)
        go_wp2
        go_ret
        exact ⟨by rw [hno.out]; rfl, below_step (below_drewN _ _) hde.out⟩
      have e9 : decide (3 < sta) = false := decide_eq_false n9
      have hr2 : Hid (∃ a : Int, 0 ≤ a ∧ ((m + 1) + 1 = 0 → a = 0) ∧ (∀ m2 d, (m + 1) + 1 = m2 + 1 → L[m2]? = some d → a = d.txn) ∧ txF lsn nt 0 L = txF lsn nt a (L.drop ((m + 1) + 1))) := ⟨tx, by omega, fun h => by omega, fun m2 d' h1 h2 => (by have hm : m2 = (m + 1) := (by omega); subst hm; rw [hx.out] at h2; cases h2; rfl), by rw [har.out, if_neg (by unfold txBad; dsimp only; omega)]⟩
      clear n1 n2 n3 n4 n5 n6 n7 n8 n9
      go_wp2_with (first
       | (with_reducible refine wpList_load_at rfl 82 (.tmp 14) rfl Tryz.underlying82 rfl hs rfl hcA.out ?_))
      try rw [hwe]
      go_quiet (fail)
      clear hwe
      go_wp2
      go_roundw
      case rel => exact ⟨(m + 1) + 1, by omega, by go_num, below_step (below_drewN _ _) hde.out, hr2⟩
      case measure => simp [RowKit.intOf]; omega
  · obtain rfl : n = j := by omega
    obtain ⟨a, _, _, _, har⟩ := hri.out
    have hall : txF lsn nt 0 L = true := by
     rw [har, ← hLl.out, List.drop_length]
     rfl
    have hR2 := hR.out
    rw [hall, Bool.and_true, hLl.out] at hR2
    have hR3 : Hid (R = decide ((n : Int) ≤ 8)) := by show _ = _; rw [← hR2]; exact decide_eq_decide.2 (by omega)
    clear har hall hR2
    go_wp2
    go_ret
    exact ⟨by rw [hR3.out]; rfl, hd.out⟩
end Go.Proofs.YtocekhckmpkbmaaGreat
