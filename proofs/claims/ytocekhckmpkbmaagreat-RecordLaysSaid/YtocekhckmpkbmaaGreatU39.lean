/- Parts of the proof: The document's record: which transactions of a checkpoint may be; The document's record: which pages of a checkpoint may be -/
import Derived.Test.YtocekhckmpkbmaaGreatU37
import Derived.Deep.QuietTactic
import Derived.BigQuiet
import Derived.Test.YtocekhckmpkbmaaGreatU01
namespace Go.Proofs.YtocekhckmpkbmaaGreat
open Go.RowKit
set_option maxRecDepth 100000 in
set_option maxHeartbeats 16000000 in
theorem txns_doc (q : Option Addr) (n c : Nat) (L : List TxnD) (lsn nt : Int) (w : World) (h : SlOn w q n c L) :
 Calls Tryz.prog 33 #[.slice q n c, .int .u64 lsn, .int .i64 nt] w (fun e w' => e = .returned (.bool (decide (L.length ≤ 8) && txF lsn nt 0 L)) ∧ Below w.heap.size w w') := by
 have hh := lh h; have hLl : Hid (L.length = n) := h.len; have hmax : n ≤ maxLen := Nat.le_trans h.le h.cap; unfold maxLen at hmax; clear h; obtain ⟨R, hR⟩ : ∃ R, (decide (L.length ≤ 8) && txF lsn nt 0 L) = R := ⟨_, rfl⟩; rw [hR]; replace hR := lh hR
 go_enter Tryz.func33, Tryz.ntmps33
 go_wp2
 go_loopw [11] (fun v wr => ∃ j : Nat, j ≤ n ∧ v = .int .i64 j ∧ Hid (Below w.heap.size w wr) ∧ Hid (∃ a : Int, 0 ≤ a ∧ (j = 0 → a = 0) ∧ (∀ m d, j = m + 1 → L[m]? = some d → a = d.txn) ∧ txF lsn nt 0 L = txF lsn nt a (L.drop j))) (fun v _ => n - (RowKit.intOf v).toNat)
 case atStart => exact ⟨0, Nat.zero_le _, rfl, (show Below _ _ _ from Below.refl _ _), (show ∃ a : Int, _ from ⟨0, by omega, fun _ => rfl, fun m d h => by omega, rfl⟩)⟩
 case round =>
  obtain ⟨j, hj, rfl, hd, hri⟩ := hrel
  by_cases hlt : j < n
  · obtain ⟨A, ⟨tx, fi, la, un, sta⟩, hqA, hx, hcA⟩ := (hh.out.below hd.out (Nat.le_refl _)).at (show j < n from hlt); have hcA : Hid (∀ j' x, ([.int .i64 tx, .int .u64 fi, .int .u64 la, .int .u64 un, .int .i64 sta] : List Value)[j']? = some x → wr.cell? ((A.add (j * 5)).add j') = some x) := hcA; have hs : (Tryz.prog.info? 82).map (·.size) = some ([.int .i64 tx, .int .u64 fi, .int .u64 la, .int .u64 un, .int .i64 sta] : List Value).length := sizeTxn ⟨tx, fi, la, un, sta⟩; have i0 : (0 : Int) ≤ j := by omega
    have i1 : (j : Int) < n := by omega
    obtain ⟨we, hwe⟩ : ∃ x, wr.alloc (.cells #[.int .i64 tx, .int .u64 fi, .int .u64 la, .int .u64 un, .int .i64 sta] 82) = x := ⟨_, rfl⟩; have hbk := lh (one_box hwe); have hde := lh (below_step hbk.out.1 hd.out); obtain ⟨a, ha1, ha2, ha3, har⟩ := hri.out; rw [txF_at hx] at har; replace har := lh har; replace hx := lh hx; have hbad : Hid (txBad lsn nt a ⟨tx, fi, la, un, sta⟩ → R = false) := fun h => by rw [← hR.out, har.out, if_pos h, Bool.and_false]
    have d0 := hbk.out.2.1.cell 0 rfl; have d1 := hbk.out.2.1.cell 1 rfl; have d2 := hbk.out.2.1.cell 2 rfl; have d3 := hbk.out.2.1.cell 3 rfl; have d4 := hbk.out.2.1.cell 4 rfl; cases j with
    | zero =>
      subst hqA; have iz : decide ((0 : Int) < ((0 : Nat) : Int)) = false := rfl
      by_cases n1 : tx < 1
      · have e1 : decide (tx < 1) = true := decide_eq_true n1; have hno : Hid (R = false) := hbad.out (by unfold txBad; dsimp only; omega); clear n1
        go_wp2_with (first
         | (with_reducible refine wpList_load_at rfl 82 (.tmp 14) rfl Tryz.underlying82 rfl hs rfl hcA.out ?_))
        try rw [hwe]
        go_quiet (fail)
        go_wp2; go_ret; exact ⟨by rw [hno.out]; rfl, below_step (below_drewN _ _) hde.out⟩
      have e1 : decide (tx < 1) = false := decide_eq_false n1
      by_cases n2 : nt ≤ tx
      · have e2 : decide (nt ≤ tx) = true := decide_eq_true n2; have hno : Hid (R = false) := hbad.out (by unfold txBad; dsimp only; omega); clear n1 n2
        go_wp2_with (first
         | (with_reducible refine wpList_load_at rfl 82 (.tmp 14) rfl Tryz.underlying82 rfl hs rfl hcA.out ?_))
        try rw [hwe]
        go_quiet (fail)
        go_wp2; go_ret; exact ⟨by rw [hno.out]; rfl, below_step (below_drewN _ _) hde.out⟩
      have e2 : decide (nt ≤ tx) = false := decide_eq_false n2
      by_cases n3 : fi < 1
      · have e3 : decide (fi < 1) = true := decide_eq_true n3; have hno : Hid (R = false) := hbad.out (by unfold txBad; dsimp only; omega); clear n1 n2 n3
        go_wp2_with (first
         | (with_reducible refine wpList_load_at rfl 82 (.tmp 14) rfl Tryz.underlying82 rfl hs rfl hcA.out ?_))
        try rw [hwe]
        go_quiet (fail)
        go_wp2; go_ret; exact ⟨by rw [hno.out]; rfl, below_step (below_drewN _ _) hde.out⟩
      have e3 : decide (fi < 1) = false := decide_eq_false n3
      by_cases n4 : la < fi
      · have e4 : decide (la < fi) = true := decide_eq_true n4; have hno : Hid (R = false) := hbad.out (by unfold txBad; dsimp only; omega); clear n1 n2 n3 n4
        go_wp2_with (first
         | (with_reducible refine wpList_load_at rfl 82 (.tmp 14) rfl Tryz.underlying82 rfl hs rfl hcA.out ?_))
        try rw [hwe]
        go_quiet (fail)
        go_wp2; go_ret; exact ⟨by rw [hno.out]; rfl, below_step (below_drewN _ _) hde.out⟩
      have e4 : decide (la < fi) = false := decide_eq_false n4
      by_cases n5 : lsn ≤ la
      · have e5 : decide (lsn ≤ la) = true := decide_eq_true n5; have hno : Hid (R = false) := hbad.out (by unfold txBad; dsimp only; omega); clear n1 n2 n3 n4 n5
        go_wp2_with (first
         | (with_reducible refine wpList_load_at rfl 82 (.tmp 14) rfl Tryz.underlying82 rfl hs rfl hcA.out ?_))
        try rw [hwe]
        go_quiet (fail)
        go_wp2; go_ret; exact ⟨by rw [hno.out]; rfl, below_step (below_drewN _ _) hde.out⟩
      have e5 : decide (lsn ≤ la) = false := decide_eq_false n5
      by_cases n6 : la < un
      · have e6 : decide (la < un) = true := decide_eq_true n6; have hno : Hid (R = false) := hbad.out (by unfold txBad; dsimp only; omega); clear n1 n2 n3 n4 n5 n6
        go_wp2_with (first
         | (with_reducible refine wpList_load_at rfl 82 (.tmp 14) rfl Tryz.underlying82 rfl hs rfl hcA.out ?_))
        try rw [hwe]
        go_quiet (fail)
        go_wp2; go_ret; exact ⟨by rw [hno.out]; rfl, below_step (below_drewN _ _) hde.out⟩
      have e6 : decide (la < un) = false := decide_eq_false n6
      by_cases n7 : sta < 1
      · have e7 : decide (sta < 1) = true := decide_eq_true n7; have hno : Hid (R = false) := hbad.out (by unfold txBad; dsimp only; omega); clear n1 n2 n3 n4 n5 n6 n7
        go_wp2_with (first
         | (with_reducible refine wpList_load_at rfl 82 (.tmp 14) rfl Tryz.underlying82 rfl hs rfl hcA.out ?_))
        try rw [hwe]
        go_quiet (fail)
        go_wp2; go_ret; exact ⟨by rw [hno.out]; rfl, below_step (below_drewN _ _) hde.out⟩
      have e7 : decide (sta < 1) = false := decide_eq_false n7
      by_cases n8 : 3 < sta
      · have e8 : decide (3 < sta) = true := decide_eq_true n8; have hno : Hid (R = false) := hbad.out (by unfold txBad; dsimp only; omega); clear n1 n2 n3 n4 n5 n6 n7 n8
        go_wp2_with (first
         | (with_reducible refine wpList_load_at rfl 82 (.tmp 14) rfl Tryz.underlying82 rfl hs rfl hcA.out ?_))
        try rw [hwe]
        go_quiet (fail)
        go_wp2; go_ret; exact ⟨by rw [hno.out]; rfl, below_step (below_drewN _ _) hde.out⟩
      have e8 : decide (3 < sta) = false := decide_eq_false n8; have hr2 : Hid (∃ a : Int, 0 ≤ a ∧ (0 + 1 = 0 → a = 0) ∧ (∀ m2 d, 0 + 1 = m2 + 1 → L[m2]? = some d → a = d.txn) ∧ txF lsn nt 0 L = txF lsn nt a (L.drop (0 + 1))) := ⟨tx, by omega, fun h => by omega, fun m2 d' h1 h2 => (by have hm : m2 = 0 := (by omega); subst hm; rw [hx.out] at h2; cases h2; rfl), by rw [har.out, if_neg (by unfold txBad; dsimp only; have h0 := ha2 rfl; omega)]⟩; clear n1 n2 n3 n4 n5 n6 n7 n8
      go_wp2_with (first
       | (with_reducible refine wpList_load_at rfl 82 (.tmp 14) rfl Tryz.underlying82 rfl hs rfl hcA.out ?_))
      try rw [hwe]
      go_quiet (fail)
      clear hwe; go_wp2
      go_roundw
      case rel => exact ⟨0 + 1, by omega, by go_num, below_step (below_drewN _ _) hde.out, hr2⟩
      case measure => simp [RowKit.intOf]; omega
    | succ m =>
      obtain ⟨A', ⟨tx', fi', la', un', sta'⟩, hqA', hx', hc'⟩ := (hh.out.below hde.out (Nat.le_refl _)).at (show m < n by omega); subst hqA; cases hqA'
      have hpc : we.cell? (A.add (m * 5)) = some (.int .i64 a) := by
       have h1 : we.cell? ((A.add (m * 5)).add 0) = some (.int .i64 tx') := hc' 0 _ rfl; have h2 : tx' = a := (ha3 m _ rfl hx').symm; rw [← h2]
       rwa [show ((A.add (m * 5)).add 0) = A.add (m * 5) from by simp [add_zero]] at h1
      clear hx' hc'; have w0 : IntKind.i64.wrap (((m + 1 : Nat) : Int) - 1) = m := by rw [show ((m + 1 : Nat) : Int) - 1 = m by omega]; exact IntWalk.i64_in (m : Int) (by omega)
      have w0' : IntKind.i64.wrap ((m : Int) + 1 - 1) = m := by rw [Int.add_sub_cancel]; exact IntWalk.i64_in (m : Int) (by omega)
      have w1' : IntKind.i64.wrap (m : Int) = m := IntWalk.i64_in (m : Int) (by omega); have j0 : (0 : Int) ≤ m := by omega
      have j1 : (m : Int) < n := by omega
      have j2 : (0 : Int) < (m : Int) + 1 := by omega
      have j3 : decide ((0 : Int) < (m : Int) + 1) = true := decide_eq_true j2
      by_cases n1 : tx < 1
      · have e1 : decide (tx < 1) = true := decide_eq_true n1; have hno : Hid (R = false) := hbad.out (by unfold txBad; dsimp only; omega); clear n1
        go_wp2_with (first
         | (with_reducible refine wpList_load_at rfl 82 (.tmp 14) rfl Tryz.underlying82 rfl hs rfl hcA.out ?_))
        try rw [hwe]
        go_quiet (fail)
        go_wp2; go_ret; exact ⟨by rw [hno.out]; rfl, below_step (below_drewN _ _) hde.out⟩
      have e1 : decide (tx < 1) = false := decide_eq_false n1
      by_cases n2 : nt ≤ tx
      · have e2 : decide (nt ≤ tx) = true := decide_eq_true n2; have hno : Hid (R = false) := hbad.out (by unfold txBad; dsimp only; omega); clear n1 n2
        go_wp2_with (first
         | (with_reducible refine wpList_load_at rfl 82 (.tmp 14) rfl Tryz.underlying82 rfl hs rfl hcA.out ?_))
        try rw [hwe]
        go_quiet (fail)
        go_wp2; go_ret; exact ⟨by rw [hno.out]; rfl, below_step (below_drewN _ _) hde.out⟩
      have e2 : decide (nt ≤ tx) = false := decide_eq_false n2
      by_cases n3 : tx ≤ a
      · have e3 : decide (tx ≤ a) = true := decide_eq_true n3; have hno : Hid (R = false) := hbad.out (by unfold txBad; dsimp only; omega); clear n1 n2 n3
        go_wp2_with (first
         | (with_reducible refine wpList_load_at rfl 82 (.tmp 14) rfl Tryz.underlying82 rfl hs rfl hcA.out ?_))
        try rw [hwe]
        go_quiet (fail)
        go_wp2; go_ret; exact ⟨by rw [hno.out]; rfl, below_step (below_drewN _ _) hde.out⟩
      have e3 : decide (tx ≤ a) = false := decide_eq_false n3
      by_cases n4 : fi < 1
      · have e4 : decide (fi < 1) = true := decide_eq_true n4; have hno : Hid (R = false) := hbad.out (by unfold txBad; dsimp only; omega); clear n1 n2 n3 n4
        go_wp2_with (first
         | (with_reducible refine wpList_load_at rfl 82 (.tmp 14) rfl Tryz.underlying82 rfl hs rfl hcA.out ?_))
        try rw [hwe]
        go_quiet (fail)
        go_wp2; go_ret; exact ⟨by rw [hno.out]; rfl, below_step (below_drewN _ _) hde.out⟩
      have e4 : decide (fi < 1) = false := decide_eq_false n4
      by_cases n5 : la < fi
      · have e5 : decide (la < fi) = true := decide_eq_true n5; have hno : Hid (R = false) := hbad.out (by unfold txBad; dsimp only; omega); clear n1 n2 n3 n4 n5
        go_wp2_with (first
         | (with_reducible refine wpList_load_at rfl 82 (.tmp 14) rfl Tryz.underlying82 rfl hs rfl hcA.out ?_))
        try rw [hwe]
        go_quiet (fail)
        go_wp2; go_ret; exact ⟨by rw [hno.out]; rfl, below_step (below_drewN _ _) hde.out⟩
      have e5 : decide (la < fi) = false := decide_eq_false n5
      by_cases n6 : lsn ≤ la
      · have e6 : decide (lsn ≤ la) = true := decide_eq_true n6; have hno : Hid (R = false) := hbad.out (by unfold txBad; dsimp only; omega); clear n1 n2 n3 n4 n5 n6
        go_wp2_with (first
         | (with_reducible refine wpList_load_at rfl 82 (.tmp 14) rfl Tryz.underlying82 rfl hs rfl hcA.out ?_))
        try rw [hwe]
        go_quiet (fail)
        go_wp2; go_ret; exact ⟨by rw [hno.out]; rfl, below_step (below_drewN _ _) hde.out⟩
      have e6 : decide (lsn ≤ la) = false := decide_eq_false n6
      by_cases n7 : la < un
      · have e7 : decide (la < un) = true := decide_eq_true n7; have hno : Hid (R = false) := hbad.out (by unfold txBad; dsimp only; omega); clear n1 n2 n3 n4 n5 n6 n7
        go_wp2_with (first
         | (with_reducible refine wpList_load_at rfl 82 (.tmp 14) rfl Tryz.underlying82 rfl hs rfl hcA.out ?_))
        try rw [hwe]
        go_quiet (fail)
        go_wp2; go_ret; exact ⟨by rw [hno.out]; rfl, below_step (below_drewN _ _) hde.out⟩
      have e7 : decide (la < un) = false := decide_eq_false n7
      by_cases n8 : sta < 1
      · have e8 : decide (sta < 1) = true := decide_eq_true n8; have hno : Hid (R = false) := hbad.out (by unfold txBad; dsimp only; omega); clear n1 n2 n3 n4 n5 n6 n7 n8
        go_wp2_with (first
         | (with_reducible refine wpList_load_at rfl 82 (.tmp 14) rfl Tryz.underlying82 rfl hs rfl hcA.out ?_))
        try rw [hwe]
        go_quiet (fail)
        go_wp2; go_ret; exact ⟨by rw [hno.out]; rfl, below_step (below_drewN _ _) hde.out⟩
      have e8 : decide (sta < 1) = false := decide_eq_false n8
      by_cases n9 : 3 < sta
      · have e9 : decide (3 < sta) = true := decide_eq_true n9; have hno : Hid (R = false) := hbad.out (by unfold txBad; dsimp only; omega); clear n1 n2 n3 n4 n5 n6 n7 n8 n9
        go_wp2_with (first
         | (with_reducible refine wpList_load_at rfl 82 (.tmp 14) rfl Tryz.underlying82 rfl hs rfl hcA.out ?_))
        try rw [hwe]
        go_quiet (fail)
        go_wp2; go_ret; exact ⟨by rw [hno.out]; rfl, below_step (below_drewN _ _) hde.out⟩
      have e9 : decide (3 < sta) = false := decide_eq_false n9; have hr2 : Hid (∃ a : Int, 0 ≤ a ∧ ((m + 1) + 1 = 0 → a = 0) ∧ (∀ m2 d, (m + 1) + 1 = m2 + 1 → L[m2]? = some d → a = d.txn) ∧ txF lsn nt 0 L = txF lsn nt a (L.drop ((m + 1) + 1))) := ⟨tx, by omega, fun h => by omega, fun m2 d' h1 h2 => (by have hm : m2 = (m + 1) := (by omega); subst hm; rw [hx.out] at h2; cases h2; rfl), by rw [har.out, if_neg (by unfold txBad; dsimp only; omega)]⟩; clear n1 n2 n3 n4 n5 n6 n7 n8 n9
      go_wp2_with (first
       | (with_reducible refine wpList_load_at rfl 82 (.tmp 14) rfl Tryz.underlying82 rfl hs rfl hcA.out ?_))
      try rw [hwe]
      go_quiet (fail)
      clear hwe; go_wp2
      go_roundw
      case rel => exact ⟨(m + 1) + 1, by omega, by go_num, below_step (below_drewN _ _) hde.out, hr2⟩
      case measure => simp [RowKit.intOf]; omega
  · obtain rfl : n = j := by omega
    obtain ⟨a, _, _, _, har⟩ := hri.out
    have hall : txF lsn nt 0 L = true := by rw [har, ← hLl.out, List.drop_length]; rfl
    have hR2 := hR.out; rw [hall, Bool.and_true, hLl.out] at hR2; have hR3 : Hid (R = decide ((n : Int) ≤ 8)) := by show _ = _; rw [← hR2]; exact decide_eq_decide.2 (by omega)
    clear har hall hR2; go_wp2; go_ret; exact ⟨by rw [hR3.out]; rfl, hd.out⟩
end Go.Proofs.YtocekhckmpkbmaaGreat
namespace Go.Proofs.YtocekhckmpkbmaaGreat
open Go.RowKit
set_option maxRecDepth 100000 in
set_option maxHeartbeats 16000000 in
theorem dirty_doc (q : Option Addr) (n c : Nat) (L : List PgD) (lsn : Int) (w : World) (h : SlOn w q n c L) :
 Calls Tryz.prog 34 #[.slice q n c, .int .u64 lsn] w (fun e w' => e = .returned (.bool (L.all (pgB lsn) && riseF (-1) (L.map (·.page)))) ∧ Below w.heap.size w w') := by
 have hh := lh h; have hLl : Hid (L.length = n) := h.len; have hmax : n ≤ maxLen := Nat.le_trans h.le h.cap; unfold maxLen at hmax; clear h; obtain ⟨R, hR⟩ : ∃ R, (L.all (pgB lsn) && riseF (-1) (L.map (·.page))) = R := ⟨_, rfl⟩; rw [hR]; replace hR := lh hR
 go_enter Tryz.func34, Tryz.ntmps34
 go_wp2
 go_loopw [9] (fun v wr => ∃ j : Nat, j ≤ n ∧ v = .int .i64 j ∧ Hid (Below w.heap.size w wr) ∧ Hid (∃ a : Int, -1 ≤ a ∧ (j = 0 → a = -1) ∧ (∀ m d, j = m + 1 → L[m]? = some d → a = d.page) ∧ riseF (-1) (L.map (·.page)) = riseF a ((L.map (·.page)).drop j)) ∧ Hid (∀ (i : Nat) d, i < j → L[i]? = some d → pgB lsn d = true)) (fun v _ => n - (RowKit.intOf v).toNat)
 case atStart => exact ⟨0, Nat.zero_le _, rfl, (show Below _ _ _ from Below.refl _ _), (show ∃ a : Int, _ from ⟨-1, by omega, fun _ => rfl, fun m d h => by omega, rfl⟩), fun i x hi => absurd hi (Nat.not_lt_zero _)⟩
 case round =>
  obtain ⟨j, hj, rfl, hd, hri, hq⟩ := hrel
  by_cases hlt : j < n
  · obtain ⟨A, ⟨p, rc⟩, hqA, hx, hcA⟩ := (hh.out.below hd.out (Nat.le_refl _)).at (show j < n from hlt); have hcA : Hid (∀ j' x, ([.int .i64 p, .int .u64 rc] : List Value)[j']? = some x → wr.cell? ((A.add (j * 2)).add j') = some x) := hcA; have hs : (Tryz.prog.info? 85).map (·.size) = some ([.int .i64 p, .int .u64 rc] : List Value).length := sizePg ⟨p, rc⟩; have hdx := lh hx; have i0 : (0 : Int) ≤ j := by omega
    have i1 : (j : Int) < n := by omega
    obtain ⟨we, hwe⟩ : ∃ x, wr.alloc (.cells #[.int .i64 p, .int .u64 rc] 85) = x := ⟨_, rfl⟩; have hbk := lh (one_box hwe); have hde := lh (below_step hbk.out.1 hd.out); obtain ⟨a, ha1, ha2, ha3, har⟩ := hri.out; have hdm : (L.map (·.page))[j]? = some p := by rw [List.getElem?_map, hx]; rfl
    clear hx; rw [riseF_at hdm] at har; replace har := lh har
    have hpd : ∀ u, Below we.heap.size we u → Calls Tryz.prog 57 #[.int .i64 p] u (fun e w' => e = .returned (.bool (pageB p)) ∧ Below we.heap.size we w') := fun u hu => by refine (page_doc p u).mono ?_; rintro e w' ⟨rfl, rfl⟩; exact ⟨rfl, hu⟩
    have hpg : Hid (pgB lsn ⟨p, rc⟩ = (decide (1 ≤ rc) && decide (rc < lsn))) := rfl; have hbad : Hid (pgB lsn ⟨p, rc⟩ = false → R = false) := fun h => by rw [← hR.out, all_no hdx.out h]; rfl
    have hri2 : Hid (p ≤ a ∨ 64 ≤ p → R = false) := fun h => by rw [← hR.out, har.out, if_pos h, Bool.and_false]
    obtain ⟨PB, hPB⟩ : ∃ P, pageB p = P := ⟨_, rfl⟩; rw [hPB] at hpd; replace hpd := lh hpd; have hS0 : Below we.heap.size we we.drew := below_drew we; clear hdm; cases j with
    | zero =>
      subst hqA; have ha9 := ha2 rfl; have iz : decide ((0 : Int) < ((0 : Nat) : Int)) = false := rfl; cases PB with
      | false =>
        have hno : Hid (R = false) := hri2.out (by unfold pageB at hPB; simp only [Bool.and_eq_false_iff, decide_eq_false_iff_not] at hPB; omega); clear hPB
        go_wp2_with (first
         | (with_reducible refine wpList_load_at rfl 85 (.tmp 12) rfl Tryz.underlying85 rfl hs rfl hcA.out ?_))
        refine wp_region_held (S := fun u => Below we.heap.size we u) (by kernel_rfl) ?_
        try rw [hwe]
        change wpAnyH _ _ _ _ _ _ _ _ (World.drew we); refine wpF.held _ _ _ ?_ _ hS0; refine fg 0 14 (.pointer (some ⟨wr.heap.size, 0, none⟩)) ?_; go_frame; refine fh 1 15 (.int .i64 p) rfl (fx_read (fun u hu => by have c0 := (hbk.out.2.1.below hu (Nat.le_refl _)).cell 0 rfl; go_simp)) ?_; go_frame; refine fh 2 16 (.bool false) rfl (fx_call hpd.out) ?_; go_frame; refine fg 3 17 (.bool true) ?_; go_frame; refine fg 4 18 (.bool true) ?_; go_frame; refine fu 5 19 ?_; go_frame; refine fu 6 20 ?_; go_frame; refine fu 7 21 ?_; go_frame; refine fu 8 22 ?_; go_frame; refine fu 9 23 ?_; go_frame; refine fu 10 24 ?_; go_frame; refine fu 11 25 ?_; go_frame; refine fu 12 26 ?_; go_frame; refine fu 13 27 ?_; go_frame; refine fu 14 28 ?_; go_frame; refine fu 15 29 ?_; go_frame; refine fu 16 30 ?_; go_frame; refine fu 17 31 ?_; go_frame; refine fg 18 32 (.bool true) ?_; go_frame; refine fg 19 33 (.bool true) ?_; go_frame
        refine fu 20 34 ?_; go_frame; refine fu 21 35 ?_; go_frame; refine fu 22 36 ?_; go_frame; refine fg 23 37 (.bool true) ?_; go_frame; refine fg 24 38 (.bool true) ?_; go_frame; refine fu 25 39 ?_; go_frame; refine fu 26 40 ?_; go_frame; refine fu 27 41 ?_; go_frame; refine fu 28 42 ?_; go_frame; refine fg 29 43 (.bool true) ?_; go_frame; refine fx_done ?_ (by kernel_rfl) _; intro w9 h9; have hE := lh (below_step h9 hde.out); clear h9
        go_wp2_with fail
        go_ret; exact ⟨by rw [hno.out]; rfl, hE.out⟩
      | true =>
        have hp64 : 0 ≤ p ∧ p < 64 := by unfold pageB at hPB; simpa using hPB
        clear hPB; have hge : ¬ p ≤ a := by have h1 := ha2 rfl; omega
        have hr2 : Hid (∃ a : Int, -1 ≤ a ∧ (0 + 1 = 0 → a = -1) ∧ (∀ m2 d, 0 + 1 = m2 + 1 → L[m2]? = some d → a = d.page) ∧ riseF (-1) (L.map (·.page)) = riseF a ((L.map (·.page)).drop (0 + 1))) := ⟨p, by omega, fun h => by omega, fun m2 d' h1 h2 => (by have hm : m2 = 0 := (by omega); subst hm; rw [hdx.out] at h2; cases h2; rfl), by rw [har.out, if_neg (by omega)]⟩
        by_cases h1 : rc < 1
        · have d1 : decide (rc < 1) = true := decide_eq_true h1; have hno : Hid (R = false) := hbad.out (by rw [hpg.out, decide_eq_false (p := 1 ≤ rc) (by omega)]; rfl)
          go_wp2_with (first
           | (with_reducible refine wpList_load_at rfl 85 (.tmp 12) rfl Tryz.underlying85 rfl hs rfl hcA.out ?_))
          refine wp_region_held (S := fun u => Below we.heap.size we u) (by kernel_rfl) ?_
          try rw [hwe]
          change wpAnyH _ _ _ _ _ _ _ _ (World.drew we); refine wpF.held _ _ _ ?_ _ hS0; refine fg 0 14 (.pointer (some ⟨wr.heap.size, 0, none⟩)) ?_; go_frame; refine fh 1 15 (.int .i64 p) rfl (fx_read (fun u hu => by have c0 := (hbk.out.2.1.below hu (Nat.le_refl _)).cell 0 rfl; go_simp)) ?_; go_frame; refine fh 2 16 (.bool true) rfl (fx_call hpd.out) ?_; go_frame; refine fg 3 17 (.bool false) ?_; go_frame; refine fg 4 18 (.bool false) ?_; go_frame; refine fg 5 19 (.int .i64 0) ?_; go_frame; refine fg 6 20 (.bool false) ?_; go_frame; refine fg 7 21 (.bool false) ?_; go_frame; refine fu 8 22 ?_; go_frame; refine fu 9 23 ?_; go_frame; refine fu 10 24 ?_; go_frame; refine fu 11 25 ?_; go_frame; refine fu 12 26 ?_; go_frame; refine fu 13 27 ?_; go_frame; refine fu 14 28 ?_; go_frame; refine fu 15 29 ?_; go_frame; refine fu 16 30 ?_; go_frame; refine fg 17 31 (.bool false) ?_; go_frame; refine fg 18 32 (.bool false) ?_; go_frame
          refine fg 19 33 (.bool false) ?_; go_frame; refine fg 20 34 (.pointer (some ⟨wr.heap.size, 1, none⟩)) ?_; go_frame; refine fh 21 35 (.int .u64 rc) rfl (fx_read (fun u hu => by have c0 := (hbk.out.2.1.below hu (Nat.le_refl _)).cell 1 rfl; go_simp)) ?_; go_frame; refine fg 22 36 (.bool true) ?_; go_frame; refine fg 23 37 (.bool true) ?_; go_frame; refine fg 24 38 (.bool true) ?_; go_frame; refine fu 25 39 ?_; go_frame; refine fu 26 40 ?_; go_frame; refine fu 27 41 ?_; go_frame; refine fu 28 42 ?_; go_frame; refine fg 29 43 (.bool true) ?_; go_frame; refine fx_done ?_ (by kernel_rfl) _; intro w9 h9; have hE := lh (below_step h9 hde.out); clear h9
          go_wp2_with fail
          go_ret; exact ⟨by rw [hno.out]; rfl, hE.out⟩
        have d1 : decide (rc < 1) = false := decide_eq_false h1
        by_cases h2 : lsn ≤ rc
        · have d2 : decide (lsn ≤ rc) = true := decide_eq_true h2; have hno : Hid (R = false) := hbad.out (by rw [hpg.out, decide_eq_false (p := rc < lsn) (by omega), Bool.and_false])
          go_wp2_with (first
           | (with_reducible refine wpList_load_at rfl 85 (.tmp 12) rfl Tryz.underlying85 rfl hs rfl hcA.out ?_))
          refine wp_region_held (S := fun u => Below we.heap.size we u) (by kernel_rfl) ?_
          try rw [hwe]
          change wpAnyH _ _ _ _ _ _ _ _ (World.drew we); refine wpF.held _ _ _ ?_ _ hS0; refine fg 0 14 (.pointer (some ⟨wr.heap.size, 0, none⟩)) ?_; go_frame; refine fh 1 15 (.int .i64 p) rfl (fx_read (fun u hu => by have c0 := (hbk.out.2.1.below hu (Nat.le_refl _)).cell 0 rfl; go_simp)) ?_; go_frame; refine fh 2 16 (.bool true) rfl (fx_call hpd.out) ?_; go_frame; refine fg 3 17 (.bool false) ?_; go_frame; refine fg 4 18 (.bool false) ?_; go_frame; refine fg 5 19 (.int .i64 0) ?_; go_frame; refine fg 6 20 (.bool false) ?_; go_frame; refine fg 7 21 (.bool false) ?_; go_frame; refine fu 8 22 ?_; go_frame; refine fu 9 23 ?_; go_frame; refine fu 10 24 ?_; go_frame; refine fu 11 25 ?_; go_frame; refine fu 12 26 ?_; go_frame; refine fu 13 27 ?_; go_frame; refine fu 14 28 ?_; go_frame; refine fu 15 29 ?_; go_frame; refine fu 16 30 ?_; go_frame; refine fg 17 31 (.bool false) ?_; go_frame; refine fg 18 32 (.bool false) ?_; go_frame
          refine fg 19 33 (.bool false) ?_; go_frame; refine fg 20 34 (.pointer (some ⟨wr.heap.size, 1, none⟩)) ?_; go_frame; refine fh 21 35 (.int .u64 rc) rfl (fx_read (fun u hu => by have c0 := (hbk.out.2.1.below hu (Nat.le_refl _)).cell 1 rfl; go_simp)) ?_; go_frame; refine fg 22 36 (.bool false) ?_; go_frame; refine fg 23 37 (.bool false) ?_; go_frame; refine fg 24 38 (.bool false) ?_; go_frame; refine fg 25 39 (.pointer (some ⟨wr.heap.size, 1, none⟩)) ?_; go_frame; refine fh 26 40 (.int .u64 rc) rfl (fx_read (fun u hu => by have c0 := (hbk.out.2.1.below hu (Nat.le_refl _)).cell 1 rfl; go_simp)) ?_; go_frame; refine fg 27 41 (.int .u64 lsn) ?_; go_frame; refine fg 28 42 (.bool true) ?_; go_frame; refine fg 29 43 (.bool true) ?_; go_frame; refine fx_done ?_ (by kernel_rfl) _; intro w9 h9; have hE := lh (below_step h9 hde.out); clear h9
          go_wp2_with fail
          go_ret; exact ⟨by rw [hno.out]; rfl, hE.out⟩
        have d2 : decide (lsn ≤ rc) = false := decide_eq_false h2
        have hq2 : Hid (∀ (i : Nat) d, i < 0 + 1 → L[i]? = some d → pgB lsn d = true) := fun i x hi hxi => by
         rcases Nat.lt_or_ge i 0 with h | h
         · exact hq.out i x h hxi
         · obtain rfl : i = 0 := by omega
           rw [hdx.out] at hxi; cases hxi; rw [hpg.out, decide_eq_true (by omega), decide_eq_true (by omega)]; rfl
        go_wp2_with (first
         | (with_reducible refine wpList_load_at rfl 85 (.tmp 12) rfl Tryz.underlying85 rfl hs rfl hcA.out ?_))
        refine wp_region_held (S := fun u => Below we.heap.size we u) (by kernel_rfl) ?_
        try rw [hwe]
        change wpAnyH _ _ _ _ _ _ _ _ (World.drew we); refine wpF.held _ _ _ ?_ _ hS0; refine fg 0 14 (.pointer (some ⟨wr.heap.size, 0, none⟩)) ?_; go_frame; refine fh 1 15 (.int .i64 p) rfl (fx_read (fun u hu => by have c0 := (hbk.out.2.1.below hu (Nat.le_refl _)).cell 0 rfl; go_simp)) ?_; go_frame; refine fh 2 16 (.bool true) rfl (fx_call hpd.out) ?_; go_frame; refine fg 3 17 (.bool false) ?_; go_frame; refine fg 4 18 (.bool false) ?_; go_frame; refine fg 5 19 (.int .i64 0) ?_; go_frame; refine fg 6 20 (.bool false) ?_; go_frame; refine fg 7 21 (.bool false) ?_; go_frame; refine fu 8 22 ?_; go_frame; refine fu 9 23 ?_; go_frame; refine fu 10 24 ?_; go_frame; refine fu 11 25 ?_; go_frame; refine fu 12 26 ?_; go_frame; refine fu 13 27 ?_; go_frame; refine fu 14 28 ?_; go_frame; refine fu 15 29 ?_; go_frame; refine fu 16 30 ?_; go_frame; refine fg 17 31 (.bool false) ?_; go_frame; refine fg 18 32 (.bool false) ?_; go_frame
        refine fg 19 33 (.bool false) ?_; go_frame; refine fg 20 34 (.pointer (some ⟨wr.heap.size, 1, none⟩)) ?_; go_frame; refine fh 21 35 (.int .u64 rc) rfl (fx_read (fun u hu => by have c0 := (hbk.out.2.1.below hu (Nat.le_refl _)).cell 1 rfl; go_simp)) ?_; go_frame; refine fg 22 36 (.bool false) ?_; go_frame; refine fg 23 37 (.bool false) ?_; go_frame; refine fg 24 38 (.bool false) ?_; go_frame; refine fg 25 39 (.pointer (some ⟨wr.heap.size, 1, none⟩)) ?_; go_frame; refine fh 26 40 (.int .u64 rc) rfl (fx_read (fun u hu => by have c0 := (hbk.out.2.1.below hu (Nat.le_refl _)).cell 1 rfl; go_simp)) ?_; go_frame; refine fg 27 41 (.int .u64 lsn) ?_; go_frame; refine fg 28 42 (.bool false) ?_; go_frame; refine fg 29 43 (.bool false) ?_; go_frame; refine fx_done ?_ (by kernel_rfl) _; intro w9 h9; have hE := lh (below_step h9 hde.out); clear h9
        go_wp2_with fail
        go_roundw
        case rel => exact ⟨0 + 1, by omega, by go_num, hE, hr2, hq2⟩
        case measure => simp [RowKit.intOf]; omega
    | succ m =>
      obtain ⟨A', ⟨p', rc'⟩, hqA', hx', hc'⟩ := (hh.out.below hde.out (Nat.le_refl _)).at (show m < n by omega); subst hqA; cases hqA'
      have hpc : Hid (∀ u, Below we.heap.size we u → u.cell? (A.add (m * 2)) = some (.int .i64 a)) := fun u hu => by
       have h1 : u.cell? ((A.add (m * 2)).add 0) = some (.int .i64 p') := cell_keeps hu (Nat.le_refl _) (hc' 0 _ rfl); have h2 : p' = a := (ha3 m _ rfl hx').symm; rw [← h2]
       rwa [show ((A.add (m * 2)).add 0) = A.add (m * 2) from by simp [add_zero]] at h1
      clear hx' hc'; have w0 : IntKind.i64.wrap (((m + 1 : Nat) : Int) - 1) = m := by rw [show ((m + 1 : Nat) : Int) - 1 = m by omega]; exact IntWalk.i64_in (m : Int) (by omega)
      have w0' : IntKind.i64.wrap ((m : Int) + 1 - 1) = m := by rw [Int.add_sub_cancel]; exact IntWalk.i64_in (m : Int) (by omega)
      have w1' : IntKind.i64.wrap (m : Int) = m := IntWalk.i64_in (m : Int) (by omega); have j0 : (0 : Int) ≤ m := by omega
      have j1 : (m : Int) < n := by omega
      have j2 : (0 : Int) < (m : Int) + 1 := by omega
      have j3 : decide ((0 : Int) < (m : Int) + 1) = true := decide_eq_true j2; cases PB with
      | false =>
        have hno : Hid (R = false) := hri2.out (by unfold pageB at hPB; simp only [Bool.and_eq_false_iff, decide_eq_false_iff_not] at hPB; omega); clear hPB
        go_wp2_with (first
         | (with_reducible refine wpList_load_at rfl 85 (.tmp 12) rfl Tryz.underlying85 rfl hs rfl hcA.out ?_))
        refine wp_region_held (S := fun u => Below we.heap.size we u) (by kernel_rfl) ?_
        try rw [hwe]
        change wpAnyH _ _ _ _ _ _ _ _ (World.drew we); refine wpF.held _ _ _ ?_ _ hS0; refine fg 0 14 (.pointer (some ⟨wr.heap.size, 0, none⟩)) ?_; go_frame; refine fh 1 15 (.int .i64 p) rfl (fx_read (fun u hu => by have c0 := (hbk.out.2.1.below hu (Nat.le_refl _)).cell 0 rfl; go_simp)) ?_; go_frame; refine fh 2 16 (.bool false) rfl (fx_call hpd.out) ?_; go_frame; refine fg 3 17 (.bool true) ?_; go_frame; refine fg 4 18 (.bool true) ?_; go_frame; refine fu 5 19 ?_; go_frame; refine fu 6 20 ?_; go_frame; refine fu 7 21 ?_; go_frame; refine fu 8 22 ?_; go_frame; refine fu 9 23 ?_; go_frame; refine fu 10 24 ?_; go_frame; refine fu 11 25 ?_; go_frame; refine fu 12 26 ?_; go_frame; refine fu 13 27 ?_; go_frame; refine fu 14 28 ?_; go_frame; refine fu 15 29 ?_; go_frame; refine fu 16 30 ?_; go_frame; refine fu 17 31 ?_; go_frame; refine fg 18 32 (.bool true) ?_; go_frame; refine fg 19 33 (.bool true) ?_; go_frame
        refine fu 20 34 ?_; go_frame; refine fu 21 35 ?_; go_frame; refine fu 22 36 ?_; go_frame; refine fg 23 37 (.bool true) ?_; go_frame; refine fg 24 38 (.bool true) ?_; go_frame; refine fu 25 39 ?_; go_frame; refine fu 26 40 ?_; go_frame; refine fu 27 41 ?_; go_frame; refine fu 28 42 ?_; go_frame; refine fg 29 43 (.bool true) ?_; go_frame; refine fx_done ?_ (by kernel_rfl) _; intro w9 h9; have hE := lh (below_step h9 hde.out); clear h9
        go_wp2_with fail
        go_ret; exact ⟨by rw [hno.out]; rfl, hE.out⟩
      | true =>
        have hp64 : 0 ≤ p ∧ p < 64 := by unfold pageB at hPB; simpa using hPB
        clear hPB
        by_cases hge : p ≤ a
        · have hdg : decide (p ≤ a) = true := decide_eq_true hge; have hno : Hid (R = false) := hri2.out (.inl hge)
          go_wp2_with (first
           | (with_reducible refine wpList_load_at rfl 85 (.tmp 12) rfl Tryz.underlying85 rfl hs rfl hcA.out ?_))
          refine wp_region_held (S := fun u => Below we.heap.size we u) (by kernel_rfl) ?_
          try rw [hwe]
          change wpAnyH _ _ _ _ _ _ _ _ (World.drew we); refine wpF.held _ _ _ ?_ _ hS0; refine fg 0 14 (.pointer (some ⟨wr.heap.size, 0, none⟩)) ?_; go_frame; refine fh 1 15 (.int .i64 p) rfl (fx_read (fun u hu => by have c0 := (hbk.out.2.1.below hu (Nat.le_refl _)).cell 0 rfl; go_simp)) ?_; go_frame; refine fh 2 16 (.bool true) rfl (fx_call hpd.out) ?_; go_frame; refine fg 3 17 (.bool false) ?_; go_frame; refine fg 4 18 (.bool false) ?_; go_frame; refine fg 5 19 (.int .i64 ((m + 1 : Nat) : Int)) ?_; go_frame; refine fg 6 20 (.bool true) ?_; go_frame; refine fg 7 21 (.bool true) ?_; go_frame; refine fg 8 22 (.slice (some A) n c) ?_; go_frame; refine fg 9 23 (.int .i64 ((m + 1 : Nat) : Int)) ?_; go_frame; refine fg 10 24 (.int .i64 m) ?_; go_frame; refine fg 11 25 (.pointer (some (A.add (m * 2)))) ?_; go_frame; refine fg 12 26 (.pointer (some (A.add (m * 2)))) ?_; go_frame; refine fh 13 27 (.int .i64 a) rfl (fx_read (fun u hu => by have c0 := hpc.out u hu; go_simp)) ?_; go_frame
          refine fg 14 28 (.pointer (some ⟨wr.heap.size, 0, none⟩)) ?_; go_frame; refine fh 15 29 (.int .i64 p) rfl (fx_read (fun u hu => by have c0 := (hbk.out.2.1.below hu (Nat.le_refl _)).cell 0 rfl; go_simp)) ?_; go_frame; refine fg 16 30 (.bool true) ?_; go_frame; refine fg 17 31 (.bool true) ?_; go_frame; refine fg 18 32 (.bool true) ?_; go_frame; refine fg 19 33 (.bool true) ?_; go_frame; refine fu 20 34 ?_; go_frame; refine fu 21 35 ?_; go_frame; refine fu 22 36 ?_; go_frame; refine fg 23 37 (.bool true) ?_; go_frame; refine fg 24 38 (.bool true) ?_; go_frame; refine fu 25 39 ?_; go_frame; refine fu 26 40 ?_; go_frame; refine fu 27 41 ?_; go_frame; refine fu 28 42 ?_; go_frame; refine fg 29 43 (.bool true) ?_; go_frame; refine fx_done ?_ (by kernel_rfl) _; intro w9 h9; have hE := lh (below_step h9 hde.out); clear h9
          go_wp2_with fail
          go_ret; exact ⟨by rw [hno.out]; rfl, hE.out⟩
        have hdg : decide (p ≤ a) = false := decide_eq_false hge; have hr2 : Hid (∃ a : Int, -1 ≤ a ∧ ((m + 1) + 1 = 0 → a = -1) ∧ (∀ m2 d, (m + 1) + 1 = m2 + 1 → L[m2]? = some d → a = d.page) ∧ riseF (-1) (L.map (·.page)) = riseF a ((L.map (·.page)).drop ((m + 1) + 1))) := ⟨p, by omega, fun h => by omega, fun m2 d' h1 h2 => (by have hm : m2 = (m + 1) := (by omega); subst hm; rw [hdx.out] at h2; cases h2; rfl), by rw [har.out, if_neg (by omega)]⟩
        by_cases h1 : rc < 1
        · have d1 : decide (rc < 1) = true := decide_eq_true h1; have hno : Hid (R = false) := hbad.out (by rw [hpg.out, decide_eq_false (p := 1 ≤ rc) (by omega)]; rfl)
          go_wp2_with (first
           | (with_reducible refine wpList_load_at rfl 85 (.tmp 12) rfl Tryz.underlying85 rfl hs rfl hcA.out ?_))
          refine wp_region_held (S := fun u => Below we.heap.size we u) (by kernel_rfl) ?_
          try rw [hwe]
          change wpAnyH _ _ _ _ _ _ _ _ (World.drew we); refine wpF.held _ _ _ ?_ _ hS0; refine fg 0 14 (.pointer (some ⟨wr.heap.size, 0, none⟩)) ?_; go_frame; refine fh 1 15 (.int .i64 p) rfl (fx_read (fun u hu => by have c0 := (hbk.out.2.1.below hu (Nat.le_refl _)).cell 0 rfl; go_simp)) ?_; go_frame; refine fh 2 16 (.bool true) rfl (fx_call hpd.out) ?_; go_frame; refine fg 3 17 (.bool false) ?_; go_frame; refine fg 4 18 (.bool false) ?_; go_frame; refine fg 5 19 (.int .i64 ((m + 1 : Nat) : Int)) ?_; go_frame; refine fg 6 20 (.bool true) ?_; go_frame; refine fg 7 21 (.bool true) ?_; go_frame; refine fg 8 22 (.slice (some A) n c) ?_; go_frame; refine fg 9 23 (.int .i64 ((m + 1 : Nat) : Int)) ?_; go_frame; refine fg 10 24 (.int .i64 m) ?_; go_frame; refine fg 11 25 (.pointer (some (A.add (m * 2)))) ?_; go_frame; refine fg 12 26 (.pointer (some (A.add (m * 2)))) ?_; go_frame; refine fh 13 27 (.int .i64 a) rfl (fx_read (fun u hu => by have c0 := hpc.out u hu; go_simp)) ?_; go_frame
          refine fg 14 28 (.pointer (some ⟨wr.heap.size, 0, none⟩)) ?_; go_frame; refine fh 15 29 (.int .i64 p) rfl (fx_read (fun u hu => by have c0 := (hbk.out.2.1.below hu (Nat.le_refl _)).cell 0 rfl; go_simp)) ?_; go_frame; refine fg 16 30 (.bool false) ?_; go_frame; refine fg 17 31 (.bool false) ?_; go_frame; refine fg 18 32 (.bool false) ?_; go_frame; refine fg 19 33 (.bool false) ?_; go_frame; refine fg 20 34 (.pointer (some ⟨wr.heap.size, 1, none⟩)) ?_; go_frame; refine fh 21 35 (.int .u64 rc) rfl (fx_read (fun u hu => by have c0 := (hbk.out.2.1.below hu (Nat.le_refl _)).cell 1 rfl; go_simp)) ?_; go_frame; refine fg 22 36 (.bool true) ?_; go_frame; refine fg 23 37 (.bool true) ?_; go_frame; refine fg 24 38 (.bool true) ?_; go_frame; refine fu 25 39 ?_; go_frame; refine fu 26 40 ?_; go_frame; refine fu 27 41 ?_; go_frame; refine fu 28 42 ?_; go_frame; refine fg 29 43 (.bool true) ?_; go_frame
          refine fx_done ?_ (by kernel_rfl) _; intro w9 h9; have hE := lh (below_step h9 hde.out); clear h9
          go_wp2_with fail
          go_ret; exact ⟨by rw [hno.out]; rfl, hE.out⟩
        have d1 : decide (rc < 1) = false := decide_eq_false h1
        by_cases h2 : lsn ≤ rc
        · have d2 : decide (lsn ≤ rc) = true := decide_eq_true h2; have hno : Hid (R = false) := hbad.out (by rw [hpg.out, decide_eq_false (p := rc < lsn) (by omega), Bool.and_false])
          go_wp2_with (first
           | (with_reducible refine wpList_load_at rfl 85 (.tmp 12) rfl Tryz.underlying85 rfl hs rfl hcA.out ?_))
          refine wp_region_held (S := fun u => Below we.heap.size we u) (by kernel_rfl) ?_
          try rw [hwe]
          change wpAnyH _ _ _ _ _ _ _ _ (World.drew we); refine wpF.held _ _ _ ?_ _ hS0; refine fg 0 14 (.pointer (some ⟨wr.heap.size, 0, none⟩)) ?_; go_frame; refine fh 1 15 (.int .i64 p) rfl (fx_read (fun u hu => by have c0 := (hbk.out.2.1.below hu (Nat.le_refl _)).cell 0 rfl; go_simp)) ?_; go_frame; refine fh 2 16 (.bool true) rfl (fx_call hpd.out) ?_; go_frame; refine fg 3 17 (.bool false) ?_; go_frame; refine fg 4 18 (.bool false) ?_; go_frame; refine fg 5 19 (.int .i64 ((m + 1 : Nat) : Int)) ?_; go_frame; refine fg 6 20 (.bool true) ?_; go_frame; refine fg 7 21 (.bool true) ?_; go_frame; refine fg 8 22 (.slice (some A) n c) ?_; go_frame; refine fg 9 23 (.int .i64 ((m + 1 : Nat) : Int)) ?_; go_frame; refine fg 10 24 (.int .i64 m) ?_; go_frame; refine fg 11 25 (.pointer (some (A.add (m * 2)))) ?_; go_frame; refine fg 12 26 (.pointer (some (A.add (m * 2)))) ?_; go_frame; refine fh 13 27 (.int .i64 a) rfl (fx_read (fun u hu => by have c0 := hpc.out u hu; go_simp)) ?_; go_frame
          refine fg 14 28 (.pointer (some ⟨wr.heap.size, 0, none⟩)) ?_; go_frame; refine fh 15 29 (.int .i64 p) rfl (fx_read (fun u hu => by have c0 := (hbk.out.2.1.below hu (Nat.le_refl _)).cell 0 rfl; go_simp)) ?_; go_frame; refine fg 16 30 (.bool false) ?_; go_frame; refine fg 17 31 (.bool false) ?_; go_frame; refine fg 18 32 (.bool false) ?_; go_frame; refine fg 19 33 (.bool false) ?_; go_frame; refine fg 20 34 (.pointer (some ⟨wr.heap.size, 1, none⟩)) ?_; go_frame; refine fh 21 35 (.int .u64 rc) rfl (fx_read (fun u hu => by have c0 := (hbk.out.2.1.below hu (Nat.le_refl _)).cell 1 rfl; go_simp)) ?_; go_frame; refine fg 22 36 (.bool false) ?_; go_frame; refine fg 23 37 (.bool false) ?_; go_frame; refine fg 24 38 (.bool false) ?_; go_frame; refine fg 25 39 (.pointer (some ⟨wr.heap.size, 1, none⟩)) ?_; go_frame; refine fh 26 40 (.int .u64 rc) rfl (fx_read (fun u hu => by have c0 := (hbk.out.2.1.below hu (Nat.le_refl _)).cell 1 rfl; go_simp)) ?_; go_frame
          refine fg 27 41 (.int .u64 lsn) ?_; go_frame; refine fg 28 42 (.bool true) ?_; go_frame; refine fg 29 43 (.bool true) ?_; go_frame; refine fx_done ?_ (by kernel_rfl) _; intro w9 h9; have hE := lh (below_step h9 hde.out); clear h9
          go_wp2_with fail
          go_ret; exact ⟨by rw [hno.out]; rfl, hE.out⟩
        have d2 : decide (lsn ≤ rc) = false := decide_eq_false h2
        have hq2 : Hid (∀ (i : Nat) d, i < (m + 1) + 1 → L[i]? = some d → pgB lsn d = true) := fun i x hi hxi => by
         rcases Nat.lt_or_ge i (m + 1) with h | h
         · exact hq.out i x h hxi
         · obtain rfl : i = (m + 1) := by omega
           rw [hdx.out] at hxi; cases hxi; rw [hpg.out, decide_eq_true (by omega), decide_eq_true (by omega)]; rfl
        go_wp2_with (first
         | (with_reducible refine wpList_load_at rfl 85 (.tmp 12) rfl Tryz.underlying85 rfl hs rfl hcA.out ?_))
        refine wp_region_held (S := fun u => Below we.heap.size we u) (by kernel_rfl) ?_
        try rw [hwe]
        change wpAnyH _ _ _ _ _ _ _ _ (World.drew we); refine wpF.held _ _ _ ?_ _ hS0; refine fg 0 14 (.pointer (some ⟨wr.heap.size, 0, none⟩)) ?_; go_frame; refine fh 1 15 (.int .i64 p) rfl (fx_read (fun u hu => by have c0 := (hbk.out.2.1.below hu (Nat.le_refl _)).cell 0 rfl; go_simp)) ?_; go_frame; refine fh 2 16 (.bool true) rfl (fx_call hpd.out) ?_; go_frame; refine fg 3 17 (.bool false) ?_; go_frame; refine fg 4 18 (.bool false) ?_; go_frame; refine fg 5 19 (.int .i64 ((m + 1 : Nat) : Int)) ?_; go_frame; refine fg 6 20 (.bool true) ?_; go_frame; refine fg 7 21 (.bool true) ?_; go_frame; refine fg 8 22 (.slice (some A) n c) ?_; go_frame; refine fg 9 23 (.int .i64 ((m + 1 : Nat) : Int)) ?_; go_frame; refine fg 10 24 (.int .i64 m) ?_; go_frame; refine fg 11 25 (.pointer (some (A.add (m * 2)))) ?_; go_frame; refine fg 12 26 (.pointer (some (A.add (m * 2)))) ?_; go_frame; refine fh 13 27 (.int .i64 a) rfl (fx_read (fun u hu => by have c0 := hpc.out u hu; go_simp)) ?_; go_frame
        refine fg 14 28 (.pointer (some ⟨wr.heap.size, 0, none⟩)) ?_; go_frame; refine fh 15 29 (.int .i64 p) rfl (fx_read (fun u hu => by have c0 := (hbk.out.2.1.below hu (Nat.le_refl _)).cell 0 rfl; go_simp)) ?_; go_frame; refine fg 16 30 (.bool false) ?_; go_frame; refine fg 17 31 (.bool false) ?_; go_frame; refine fg 18 32 (.bool false) ?_; go_frame; refine fg 19 33 (.bool false) ?_; go_frame; refine fg 20 34 (.pointer (some ⟨wr.heap.size, 1, none⟩)) ?_; go_frame; refine fh 21 35 (.int .u64 rc) rfl (fx_read (fun u hu => by have c0 := (hbk.out.2.1.below hu (Nat.le_refl _)).cell 1 rfl; go_simp)) ?_; go_frame; refine fg 22 36 (.bool false) ?_; go_frame; refine fg 23 37 (.bool false) ?_; go_frame; refine fg 24 38 (.bool false) ?_; go_frame; refine fg 25 39 (.pointer (some ⟨wr.heap.size, 1, none⟩)) ?_; go_frame; refine fh 26 40 (.int .u64 rc) rfl (fx_read (fun u hu => by have c0 := (hbk.out.2.1.below hu (Nat.le_refl _)).cell 1 rfl; go_simp)) ?_; go_frame
        refine fg 27 41 (.int .u64 lsn) ?_; go_frame; refine fg 28 42 (.bool false) ?_; go_frame; refine fg 29 43 (.bool false) ?_; go_frame; refine fx_done ?_ (by kernel_rfl) _; intro w9 h9; have hE := lh (below_step h9 hde.out); clear h9
        go_wp2_with fail
        go_roundw
        case rel => exact ⟨m + 1 + 1, by omega, by go_num, hE, hr2, hq2⟩
        case measure => simp [RowKit.intOf]; omega
  · obtain rfl : n = j := by omega
    obtain ⟨a, _, _, _, har⟩ := hri.out
    have hend : riseF (-1) (L.map (·.page)) = true := by rw [har, show n = (L.map (·.page)).length by rw [List.length_map]; exact hLl.out.symm]; exact riseF_end
    have hR3 : Hid (R = true) := by show _ = _; rw [← hR.out, hend, Bool.and_true]; exact all_yes fun i x hx => hq.out i x (by have := (List.getElem?_eq_some_iff.1 hx).1; have := hLl.out; omega) hx
    clear har; go_wp2; go_ret; exact ⟨by rw [hR3.out]; rfl, hd.out⟩
end Go.Proofs.YtocekhckmpkbmaaGreat
