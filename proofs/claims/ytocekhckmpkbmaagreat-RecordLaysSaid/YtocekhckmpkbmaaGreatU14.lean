/- rows of the document: which rows may be a leaf's. -/
import Derived.Test.YtocekhckmpkbmaaGreatU13
import Derived.Test.YtocekhckmpkbmaaGreatU01
namespace Go.Proofs.YtocekhckmpkbmaaGreat
open Go.RowKit
theorem ord_lt {a b : KeyD} (ha : 0 ≤ a.id ∧ a.id < 65536) (hb : 0 ≤ b.id ∧ b.id < 65536) : cmpK a b < 0 ↔ ordK a < ordK b := by
 unfold cmpK ordK orI cmpI
 split <;> split <;> (try split) <;> (try split) <;> omega
def YesNo (p : Prop) (w : World) (e : Ending) (w' : World) : Prop := ∃ b : Bool, e = .returned (.bool b) ∧ (b = true ↔ p) ∧ Below w.heap.size w w'
theorem fits_first {L : List RowD} {r : RowD} : fitsR (L.take 0) r = okRow r := by
 unfold fitsR lastR; rw [List.take_zero]; have e : decide (chkRowC r = 0) = okRow r := by rw [Bool.eq_iff_iff, decide_eq_true_eq, okRow_iff]
 rw [e]; exact Bool.and_true _
theorem fits_next {L : List RowD} {p r : RowD} {m : Nat} (hp : L[m]? = some p) (hr : L[m + 1]? = some r) (ip : 0 ≤ p.key.id ∧ p.key.id < 65536) (ir : 0 ≤ r.key.id ∧ r.key.id < 65536) : fitsR (L.take (m + 1)) r = (okRow r && decide (ordK p.key < ordK r.key)) := by
 unfold fitsR lastR; have hl : m + 1 < L.length := (List.getElem?_eq_some_iff.1 hr).1; have e : decide (chkRowC r = 0) = okRow r := by rw [Bool.eq_iff_iff, decide_eq_true_eq, okRow_iff]
 have e1 : (L.take (m + 1)).length - 1 = m := by rw [List.length_take]; omega
 have e2 : (L.take (m + 1))[m]? = some p := by rw [List.getElem?_take, if_pos (by omega)]; exact hp
 rw [e, e1, e2]; have e3 : decide (cmpK p.key r.key < 0) = decide (ordK p.key < ordK r.key) := by rw [decide_eq_decide]; exact ord_lt ip ir
 rw [← e3]
theorem okRow_tab {r : RowD} (h : okRow r = true) : 0 ≤ r.key.t ∧ r.key.t < 3 := by
 unfold okRow tabB at h; simp at h; exact ⟨h.1.1, h.1.2⟩
theorem fits_ok {L : List RowD} {r : RowD} (h : fitsR L r = true) : okRow r = true := by
 unfold fitsR at h; rw [Bool.and_eq_true, decide_eq_true_eq] at h; exact okRow_iff.2 h.1
set_option maxRecDepth 100000 in
set_option maxHeartbeats 4000000 in
theorem rows_doc (q : Option Addr) (n c : Nat) (L : List RowD) (w : World) (hr : RowsOn w q n c L) :
 Calls Tryz.prog 84 #[.slice q n c] w (YesNo (GoodR L) w) := by
 have hrr := lh hr; have hrl := lh hr.len; have hm := Nat.le_trans hr.le hr.cap; unfold maxLen at hm; clear hr
 go_enter Tryz.func84, Tryz.ntmps84
 go_wp2
 go_loopw [7] (fun v7 wr => ∃ k : Nat, k ≤ n ∧ v7 = .int .i64 k ∧ Hid (Below w.heap.size w wr) ∧ Hid (∀ (i : Nat) (r : RowD), i < k → L[i]? = some r → fitsR (L.take i) r = true)) (fun v7 _ => n - (RowKit.intOf v7).toNat)
 case atStart => exact ⟨0, Nat.zero_le _, rfl, (show Below _ _ _ from Below.refl _ _), fun i r hi => by omega⟩
 case round =>
  obtain ⟨k, hk, rfl, hrl2, hp⟩ := hrel
  by_cases hlt : k < n
  · obtain ⟨A, ⟨⟨t, id⟩, v, s⟩, hqA, hx, hok, hcA⟩ := (hrr.out.below hrl2.out (Nat.le_refl _)).at hlt; subst hqA; have hcell : Hid (∀ j x, ([.int .i64 t, .int .u16 id, .int .i64 v, .string s] : List Value)[j]? = some x → wr.cell? ((A.add (k * 4)).add j) = some x) := hcA; have hs2 := sizeRow t id v s; have hs3 := sizeKey t id; have hx' := lh hx; have hid := hok.key.id; have i0 : (0 : Int) ≤ k := by omega
    have i1 : (k : Int) < n := by omega
    obtain ⟨WA, hWA⟩ : ∃ W', wr.alloc (.cells #[.int .i64 t, .int .u16 id, .int .i64 v, .string s] 68) = W' := ⟨_, rfl⟩; have hbA := lh (one_box hWA); have hwA := lh (hrl2.out.trans (hbA.out.1.mono hrl2.out.size)); have hrA := lh (hrr.out.below hwA.out (Nat.le_refl _))
    have hkey : Hid (∀ u, Below WA.heap.size WA u → ∀ j x, ([.int .i64 t, .int .u16 id] : List Value)[j]? = some x → u.cell? ((⟨wr.heap.size, 0, none⟩ : Addr).add j) = some x) := fun u hu j x hj => (hbA.out.2.1.below hu (Nat.le_refl _)) j x (by
     match j, hj with
     | 0, hj => exact hj
     | 1, hj => exact hj
     | j + 2, hj => simp at hj)
    have hright := lh (fun u => rightRow_any t id v s u); obtain ⟨B, hB⟩ : ∃ B, okRow ⟨⟨t, id⟩, v, s⟩ = B := ⟨_, rfl⟩; rw [hB] at hright; have hB' := lh hB; have hS0 : Below WA.heap.size WA WA.drew := below_drew WA; clear hx hok hcA hB; cases B with
    | false =>
      have hno : Hid (¬ GoodR L) := fun h => by have h1 := fits_ok (h.fits k _ hx'.out); rw [hB'.out] at h1; cases h1
      go_wp2_with (first
       | (with_reducible refine wpList_load_at rfl 68 (.tmp 10) rfl Tryz.underlying68 rfl hs2 rfl hcell.out ?_))
      refine wp_region_held (S := fun u => Below WA.heap.size WA u) (by kernel_rfl) ?_
      try rw [hWA]
      change wpAnyH _ _ _ _ _ _ _ _ (World.drew WA); refine held_tk (i := 0) (dst := some 12) rfl rfl (y_load_agg 68 (.tmp 4) rfl rfl rfl (fun u hu => run_loadVar_at Tryz.underlying68 rfl hs2 _ (hbA.out.2.1.below hu (Nat.le_refl _)).all)) hS0 ?_; go_frame; refine held_call (i := 1) (dst := some 13) rfl rfl (by kernel_rfl) rfl (by go_simp) (hright.out _) ?_; rintro e u1 ⟨rfl, hb1⟩; have hS1 := below_step hb1 hS0; refine ⟨_, rfl, hS1, ?_⟩; go_frame; refine tg 2 14 (.bool true) hS1 ?_; go_frame; refine held_tk (i := 3) (dst := some 15) rfl rfl (y_move (.tmp 14) rfl rfl rfl) hS1 ?_; go_frame; refine tu 4 16 hS1 ?_; go_frame; refine tu 5 17 hS1 ?_; go_frame; refine tu 6 18 hS1 ?_; go_frame; refine tu 7 19 hS1 ?_; go_frame; refine tu 8 20 hS1 ?_; go_frame; refine tu 9 21 hS1 ?_; go_frame; refine tu 10 22 hS1 ?_; go_frame; refine tu 11 23 hS1 ?_; go_frame; refine tu 12 24 hS1 ?_; go_frame; refine tu 13 25 hS1 ?_
      go_frame; refine tu 14 26 hS1 ?_; go_frame; refine tu 15 27 hS1 ?_; go_frame; refine tu 16 28 hS1 ?_; go_frame; refine tu 17 29 hS1 ?_; go_frame; refine tu 18 30 hS1 ?_; go_frame; refine tg 19 31 (.bool true) hS1 ?_; go_frame; refine wpAnyH_done (by kernel_rfl) ?_ _; go_wp2; go_ret; exact ⟨false, rfl, ⟨fun h => (by cases h), fun h => absurd h hno.out⟩, hwA.out.trans (hS1.mono hwA.out.size)⟩
    | true =>
      cases k with
      | zero =>
        have hft : Hid (fitsR (L.take 0) ⟨⟨t, id⟩, v, s⟩ = true) := fits_first.trans hB'.out
        go_wp2_with (first
         | (with_reducible refine wpList_load_at rfl 68 (.tmp 10) rfl Tryz.underlying68 rfl hs2 rfl hcell.out ?_))
        refine wp_region_held (S := fun u => Below WA.heap.size WA u) (by kernel_rfl) ?_
        try rw [hWA]
        change wpAnyH _ _ _ _ _ _ _ _ (World.drew WA); refine held_tk (i := 0) (dst := some 12) rfl rfl (y_load_agg 68 (.tmp 4) rfl rfl rfl (fun u hu => run_loadVar_at Tryz.underlying68 rfl hs2 _ (hbA.out.2.1.below hu (Nat.le_refl _)).all)) hS0 ?_; go_frame; refine held_call (i := 1) (dst := some 13) rfl rfl (by kernel_rfl) rfl (by go_simp) (hright.out _) ?_; rintro e u1 ⟨rfl, hb1⟩; have hS1 := below_step hb1 hS0; refine ⟨_, rfl, hS1, ?_⟩; go_frame; refine tg 2 14 (.bool false) hS1 ?_; go_frame; refine held_tk (i := 3) (dst := some 15) rfl rfl (y_move (.tmp 14) rfl rfl rfl) hS1 ?_; go_frame; refine held_tk (i := 4) (dst := some 16) rfl rfl (y_move (.tmp 3) rfl rfl rfl) hS1 ?_; go_frame; refine tg 5 17 (.bool false) hS1 ?_; go_frame; refine held_tk (i := 6) (dst := some 18) rfl rfl (y_move (.tmp 17) rfl rfl rfl) hS1 ?_; go_frame; refine tu 7 19 hS1 ?_; go_frame; refine tu 8 20 hS1 ?_; go_frame
        refine tu 9 21 hS1 ?_; go_frame; refine tu 10 22 hS1 ?_; go_frame; refine tu 11 23 hS1 ?_; go_frame; refine tu 12 24 hS1 ?_; go_frame; refine tu 13 25 hS1 ?_; go_frame; refine tu 14 26 hS1 ?_; go_frame; refine tu 15 27 hS1 ?_; go_frame; refine tu 16 28 hS1 ?_; go_frame; refine tu 17 29 hS1 ?_; go_frame; refine tg 18 30 (.bool false) hS1 ?_; go_frame; refine tg 19 31 (.bool false) hS1 ?_; go_frame; refine wpAnyH_done (by kernel_rfl) ?_ _; go_wp2
        go_roundw
        case rel =>
         refine ⟨1, by omega, by go_num, hwA.out.trans (hS1.mono hwA.out.size), fun i r hi hr => ?_⟩; obtain rfl : i = 0 := by omega
         rw [hx'.out] at hr; cases hr; exact hft.out
        case measure => simp [RowKit.intOf]; omega
      | succ m =>
        obtain ⟨A', ⟨⟨pt, pid⟩, pv, ps⟩, hqA', hpx, hpok, hpc⟩ := hrA.out.at (show m < n by omega); cases hqA'; have hpid := hpok.key.id; have hp3 := okRow_tab (fits_ok (hp.out m _ (by omega) hpx)); have ht3 := okRow_tab hB'.out; have hft := fits_next hpx hx'.out hpid hid; rw [hB'.out, Bool.true_and] at hft
        have hpk : Hid (∀ u, Below WA.heap.size WA u → ∀ j x, ([.int .i64 pt, .int .u16 pid] : List Value)[j]? = some x → u.cell? ((A.add (m * 4)).add j) = some x) := fun u hu j x hj => cell_keeps hu (Nat.le_refl _) (hpc j x (by
         match j, hj with
         | 0, hj => exact hj
         | 1, hj => exact hj
         | j + 2, hj => simp at hj))
        have hsp := sizeKey pt pid; have ho1 := lh (fun u => order_any pt pid u hp3.1 hp3.2 hpid.1 hpid.2); have ho2 := lh (fun u => order_any t id u ht3.1 ht3.2 hid.1 hid.2); obtain ⟨x1, hx1⟩ : ∃ x, ordK ⟨pt, pid⟩ = x := ⟨_, rfl⟩; obtain ⟨x2, hx2⟩ : ∃ x, ordK ⟨t, id⟩ = x := ⟨_, rfl⟩; rw [hx1] at ho1; rw [hx2] at ho2; have hft2 : fitsR (L.take (m + 1)) ⟨⟨t, id⟩, v, s⟩ = decide (x1 < x2) := by rw [hft, ← hx1, ← hx2]
        have hft' := lh hft2; have w0 : IntKind.i64.wrap (((m + 1 : Nat) : Int) - 1) = m := by rw [show ((m + 1 : Nat) : Int) - 1 = m by omega]; exact IntWalk.i64_in (m : Int) (by omega)
        have w0' : IntKind.i64.wrap ((m : Int) + 1 - 1) = m := by rw [Int.add_sub_cancel]; exact IntWalk.i64_in (m : Int) (by omega)
        have w1' : IntKind.i64.wrap (m : Int) = m := IntWalk.i64_in (m : Int) (by omega); have j0 : (0 : Int) ≤ m := by omega
        have j1 : (m : Int) < n := by omega
        have j2 : (0 : Int) < (m : Int) + 1 := by omega
        have j3 : decide ((0 : Int) < (m : Int) + 1) = true := decide_eq_true j2; clear hpx hpc hpok hft hft2 hx1 hx2 hp3 ht3
        by_cases hge : x2 ≤ x1
        · have hd : decide (x2 ≤ x1) = true := decide_eq_true hge; have hno : Hid (¬ GoodR L) := fun h => by have h1 := h.fits (m + 1) _ hx'.out; rw [hft'.out] at h1; have := of_decide_eq_true h1; omega
          go_wp2_with (first
           | (with_reducible refine wpList_load_at rfl 68 (.tmp 10) rfl Tryz.underlying68 rfl hs2 rfl hcell.out ?_))
          refine wp_region_held (S := fun u => Below WA.heap.size WA u) (by kernel_rfl) ?_
          try rw [hWA]
          change wpAnyH _ _ _ _ _ _ _ _ (World.drew WA); refine held_tk (i := 0) (dst := some 12) rfl rfl (y_load_agg 68 (.tmp 4) rfl rfl rfl (fun u hu => run_loadVar_at Tryz.underlying68 rfl hs2 _ (hbA.out.2.1.below hu (Nat.le_refl _)).all)) hS0 ?_; go_frame; refine held_call (i := 1) (dst := some 13) rfl rfl (by kernel_rfl) rfl (by go_simp) (hright.out _) ?_; rintro e u1 ⟨rfl, hb1⟩; have hS1 := below_step hb1 hS0; refine ⟨_, rfl, hS1, ?_⟩; go_frame; refine tg 2 14 (.bool false) hS1 ?_; go_frame; refine held_tk (i := 3) (dst := some 15) rfl rfl (y_move (.tmp 14) rfl rfl rfl) hS1 ?_; go_frame; refine held_tk (i := 4) (dst := some 16) rfl rfl (y_move (.tmp 3) rfl rfl rfl) hS1 ?_; go_frame; refine tg 5 17 (.bool true) hS1 ?_; go_frame; refine held_tk (i := 6) (dst := some 18) rfl rfl (y_move (.tmp 17) rfl rfl rfl) hS1 ?_; go_frame; refine held_tk (i := 7) (dst := some 19) rfl rfl (y_move (.tmp 0) rfl rfl rfl) hS1 ?_
          go_frame; refine held_tk (i := 8) (dst := some 20) rfl rfl (y_move (.tmp 3) rfl rfl rfl) hS1 ?_; go_frame; refine tg 9 21 (.int .i64 m) hS1 ?_; go_frame; refine tg 10 22 (.pointer (some (A.add (m * 4)))) hS1 ?_; go_frame; refine tg 11 23 (.pointer (some (A.add (m * 4)))) hS1 ?_; go_frame; refine held_tk (i := 12) (dst := some 24) rfl rfl (y_load_agg 66 (.tmp 23) rfl rfl rfl (fun u hu => run_loadVar_at Tryz.underlying66 rfl hsp _ (hpk.out u hu))) hS1 ?_; go_frame; refine tg 14 26 (.pointer (some ⟨wr.heap.size, 0, none⟩)) hS1 ?_; go_frame; refine held_tk (i := 15) (dst := some 27) rfl rfl (y_load_agg 66 (.tmp 26) rfl rfl rfl (fun u hu => run_loadVar_at Tryz.underlying66 rfl hs3 _ (hkey.out u hu))) hS1 ?_; go_frame; refine held_call (i := 13) (dst := some 25) rfl rfl (by kernel_rfl) rfl (by go_simp) (ho1.out _) ?_; rintro e u2 ⟨rfl, hb2⟩; have hS2 := below_step hb2 hS1; refine ⟨_, rfl, hS2, ?_⟩
          go_frame; refine held_call (i := 16) (dst := some 28) rfl rfl (by kernel_rfl) rfl (by go_simp) (ho2.out _) ?_; rintro e u3 ⟨rfl, hb3⟩; have hS3 := below_step hb3 hS2; refine ⟨_, rfl, hS3, ?_⟩; go_frame; refine tg 17 29 (.bool true) hS3 ?_; go_frame; refine tg 18 30 (.bool true) hS3 ?_; go_frame; refine tg 19 31 (.bool true) hS3 ?_; go_frame; refine wpAnyH_done (by kernel_rfl) ?_ _; go_wp2; go_ret; exact ⟨false, rfl, ⟨fun h => (by cases h), fun h => absurd h hno.out⟩, hwA.out.trans (hS3.mono hwA.out.size)⟩
        · have hd : decide (x2 ≤ x1) = false := decide_eq_false hge; have hft3 : Hid (fitsR (L.take (m + 1)) ⟨⟨t, id⟩, v, s⟩ = true) := by show _ = _; rw [hft'.out]; exact decide_eq_true (by omega)
          go_wp2_with (first
           | (with_reducible refine wpList_load_at rfl 68 (.tmp 10) rfl Tryz.underlying68 rfl hs2 rfl hcell.out ?_))
          refine wp_region_held (S := fun u => Below WA.heap.size WA u) (by kernel_rfl) ?_
          try rw [hWA]
          change wpAnyH _ _ _ _ _ _ _ _ (World.drew WA); refine held_tk (i := 0) (dst := some 12) rfl rfl (y_load_agg 68 (.tmp 4) rfl rfl rfl (fun u hu => run_loadVar_at Tryz.underlying68 rfl hs2 _ (hbA.out.2.1.below hu (Nat.le_refl _)).all)) hS0 ?_; go_frame; refine held_call (i := 1) (dst := some 13) rfl rfl (by kernel_rfl) rfl (by go_simp) (hright.out _) ?_; rintro e u1 ⟨rfl, hb1⟩; have hS1 := below_step hb1 hS0; refine ⟨_, rfl, hS1, ?_⟩; go_frame; refine tg 2 14 (.bool false) hS1 ?_; go_frame; refine held_tk (i := 3) (dst := some 15) rfl rfl (y_move (.tmp 14) rfl rfl rfl) hS1 ?_; go_frame; refine held_tk (i := 4) (dst := some 16) rfl rfl (y_move (.tmp 3) rfl rfl rfl) hS1 ?_; go_frame; refine tg 5 17 (.bool true) hS1 ?_; go_frame; refine held_tk (i := 6) (dst := some 18) rfl rfl (y_move (.tmp 17) rfl rfl rfl) hS1 ?_; go_frame; refine held_tk (i := 7) (dst := some 19) rfl rfl (y_move (.tmp 0) rfl rfl rfl) hS1 ?_
          go_frame; refine held_tk (i := 8) (dst := some 20) rfl rfl (y_move (.tmp 3) rfl rfl rfl) hS1 ?_; go_frame; refine tg 9 21 (.int .i64 m) hS1 ?_; go_frame; refine tg 10 22 (.pointer (some (A.add (m * 4)))) hS1 ?_; go_frame; refine tg 11 23 (.pointer (some (A.add (m * 4)))) hS1 ?_; go_frame; refine held_tk (i := 12) (dst := some 24) rfl rfl (y_load_agg 66 (.tmp 23) rfl rfl rfl (fun u hu => run_loadVar_at Tryz.underlying66 rfl hsp _ (hpk.out u hu))) hS1 ?_; go_frame; refine tg 14 26 (.pointer (some ⟨wr.heap.size, 0, none⟩)) hS1 ?_; go_frame; refine held_tk (i := 15) (dst := some 27) rfl rfl (y_load_agg 66 (.tmp 26) rfl rfl rfl (fun u hu => run_loadVar_at Tryz.underlying66 rfl hs3 _ (hkey.out u hu))) hS1 ?_; go_frame; refine held_call (i := 13) (dst := some 25) rfl rfl (by kernel_rfl) rfl (by go_simp) (ho1.out _) ?_; rintro e u2 ⟨rfl, hb2⟩; have hS2 := below_step hb2 hS1; refine ⟨_, rfl, hS2, ?_⟩
          go_frame; refine held_call (i := 16) (dst := some 28) rfl rfl (by kernel_rfl) rfl (by go_simp) (ho2.out _) ?_; rintro e u3 ⟨rfl, hb3⟩; have hS3 := below_step hb3 hS2; refine ⟨_, rfl, hS3, ?_⟩; go_frame; refine tg 17 29 (.bool false) hS3 ?_; go_frame; refine tg 18 30 (.bool false) hS3 ?_; go_frame; refine tg 19 31 (.bool false) hS3 ?_; go_frame; refine wpAnyH_done (by kernel_rfl) ?_ _; clear w0 w0' w1'; go_wp2
          go_roundw
          case rel =>
           refine ⟨m + 2, by omega, by go_num, hwA.out.trans (hS3.mono hwA.out.size), fun i r hi hr => ?_⟩; rcases Nat.lt_or_ge i (m + 1) with h | h
           · exact hp.out i r h hr
           · obtain rfl : i = m + 1 := by omega
             rw [hx'.out] at hr; cases hr; exact hft3.out
          case measure => simp [RowKit.intOf]; omega
  · obtain rfl : n = k := by omega
    by_cases h4 : n ≤ 4
    · have d4 : decide ((n : Int) ≤ 4) = true := decide_eq_true (by omega)
      go_wp2; go_ret; exact ⟨true, rfl, ⟨fun _ => ⟨by rw [hrl.out]; exact h4, fun i r hi => hp.out i r (by have := (List.getElem?_eq_some_iff.1 hi).1; rw [hrl.out] at this; exact this) hi⟩, fun _ => rfl⟩, hrl2.out⟩
    · have d4 : decide ((n : Int) ≤ 4) = false := decide_eq_false (by omega)
      go_wp2; go_ret; exact ⟨false, rfl, ⟨fun h => (by cases h), fun h => absurd h.len (by rw [hrl.out]; exact h4)⟩, hrl2.out⟩
end Go.Proofs.YtocekhckmpkbmaaGreat
