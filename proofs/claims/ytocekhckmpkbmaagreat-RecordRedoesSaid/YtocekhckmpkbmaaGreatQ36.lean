/- The document's record: which pages of a checkpoint may be. -/
import Derived.Test.YtocekhckmpkbmaaGreatQ33
namespace Go.Proofs.YtocekhckmpkbmaaGreat
open Go.RowKit
set_option maxRecDepth 100000 in
set_option maxHeartbeats 16000000 in
theorem dirty_doc (q : Option Addr) (n c : Nat) (L : List PgD) (lsn : Int) (w : World) (h : SlOn w q n c L) :
 Calls Tryz.prog 34 #[.slice q n c, .int .u64 lsn] w (fun e w' => e = .returned (.bool (L.all (pgB lsn) && riseF (-1) (L.map (·.page)))) ∧ Below w.heap.size w w') := by
 have hh := Lib.hid h
 have hLl : Hid (L.length = n) := h.len
 have hmax : n ≤ maxLen := Nat.le_trans h.le h.cap
 unfold maxLen at hmax
 clear h
 obtain ⟨R, hR⟩ : ∃ R, (L.all (pgB lsn) && riseF (-1) (L.map (·.page))) = R := ⟨_, rfl⟩
 rw [hR]
 replace hR := Lib.hid hR
 go_enter Tryz.func34, Tryz.ntmps34
 go_wp2
 go_loopw [9] (fun v wr => ∃ j : Nat, j ≤ n ∧ v = .int .i64 j ∧ Hid (Below w.heap.size w wr) ∧ Hid (∃ a : Int, -1 ≤ a ∧ (j = 0 → a = -1) ∧ (∀ m d, j = m + 1 → L[m]? = some d → a = d.page) ∧ riseF (-1) (L.map (·.page)) = riseF a ((L.map (·.page)).drop j)) ∧ Hid (∀ (i : Nat) d, i < j → L[i]? = some d → pgB lsn d = true)) (fun v _ => n - (RowKit.intOf v).toNat)
 case atStart => exact ⟨0, Nat.zero_le _, rfl, (show Below _ _ _ from Below.refl _ _), (show ∃ a : Int, _ from ⟨-1, by omega, fun _ => rfl, fun m d h => by omega, rfl⟩), fun i x hi => absurd hi (Nat.not_lt_zero _)⟩
 case round =>
  obtain ⟨j, hj, rfl, hd, hri, hq⟩ := hrel
  by_cases hlt : j < n
  · obtain ⟨A, ⟨p, rc⟩, hqA, hx, hcA⟩ := (hh.out.below hd.out (Nat.le_refl _)).at (show j < n from hlt)
    have hcA : Hid (∀ j' x, ([.int .i64 p, .int .u64 rc] : List Value)[j']? = some x → wr.cell? ((A.add (j * 2)).add j') = some x) := hcA
    have hs : (Tryz.prog.info? 85).map (·.size) = some ([.int .i64 p, .int .u64 rc] : List Value).length := sizePg ⟨p, rc⟩
    have hdx := Lib.hid hx
    have i0 : (0 : Int) ≤ j := by omega
    have i1 : (j : Int) < n := by omega
    obtain ⟨we, hwe⟩ : ∃ x, wr.alloc (.cells #[.int .i64 p, .int .u64 rc] 85) = x := ⟨_, rfl⟩
    have hbk := Lib.hid (one_box (xs := [.int .i64 p, .int .u64 rc]) hwe)
    have hde := Lib.hid (below_step hbk.out.1 hd.out)
    obtain ⟨a, ha1, ha2, ha3, har⟩ := hri.out
    have hdm : (L.map (·.page))[j]? = some p := by rw [List.getElem?_map, hx]; rfl
    clear hx
    rw [riseF_at hdm] at har
    replace har := Lib.hid har
    have hpd : ∀ u, Below we.heap.size we u → Calls Tryz.prog 57 #[.int .i64 p] u (fun e w' => e = .returned (.bool (pageB p)) ∧ Below we.heap.size we w') := fun u hu => by
     refine (page_doc p u).mono ?_
     rintro e w' ⟨rfl, rfl⟩
     exact ⟨rfl, hu⟩
    have hpg : Hid (pgB lsn ⟨p, rc⟩ = (decide (1 ≤ rc) && decide (rc < lsn))) := rfl
    have hbad : Hid (pgB lsn ⟨p, rc⟩ = false → R = false) := fun h => by rw [← hR.out, all_no hdx.out h]; rfl
    have hri2 : Hid (p ≤ a ∨ 64 ≤ p → R = false) := fun h => by rw [← hR.out, har.out, if_pos h, Bool.and_false]
    obtain ⟨PB, hPB⟩ : ∃ P, pageB p = P := ⟨_, rfl⟩
    rw [hPB] at hpd
    replace hpd := Lib.hid hpd
    have hS0 : Below we.heap.size we we.drew := below_drew we
    clear hdm
    cases j with
    | zero =>
      subst hqA
      have ha9 := ha2 rfl
      have iz : decide ((0 : Int) < ((0 : Nat) : Int)) = false := rfl
      cases PB with
      | false =>
        have hno : Hid (R = false) := hri2.out (by unfold pageB at hPB; simp only [Bool.and_eq_false_iff, decide_eq_false_iff_not] at hPB; omega)
        clear hPB
        go_wp2_with (first
         | (with_reducible refine wpList_load_at rfl 85 (.tmp 12) rfl Tryz.underlying85 rfl hs rfl hcA.out ?_))
        refine wp_region_held (S := fun u => Below we.heap.size we u) (by kernel_rfl) ?_
        try rw [hwe]
        change wpAnyH _ _ _ _ _ _ _ _ (World.drew we)
        refine wpF.held _ _ _ ?_ _ hS0
        refine fx (i := 0) (dst := some 14) (v := .pointer (some ⟨wr.heap.size, 0, none⟩)) rfl rfl (fx_read (fun u hu => by go_simp)) ?_; go_frame
        refine fx (i := 1) (dst := some 15) (v := .int .i64 p) rfl rfl (fx_read (fun u hu => by have c0 := (hbk.out.2.1.below hu (Nat.le_refl _)).cell 0 rfl; go_simp)) ?_; go_frame
        refine fx (i := 2) (dst := some 16) (v := .bool false) rfl rfl (fx_call hpd.out) ?_; go_frame
        refine fx (i := 3) (dst := some 17) (v := .bool true) rfl rfl (fx_read (fun u hu => by go_simp)) ?_; go_frame
        refine fx (i := 4) (dst := some 18) (v := .bool true) rfl rfl (fx_read (fun u hu => by go_simp)) ?_; go_frame
        refine fx (i := 5) (dst := some 19) (v := undef) rfl rfl fx_off ?_; go_frame
        refine fx (i := 6) (dst := some 20) (v := undef) rfl rfl fx_off ?_; go_frame
        refine fx (i := 7) (dst := some 21) (v := undef) rfl rfl fx_off ?_; go_frame
        refine fx (i := 8) (dst := some 22) (v := undef) rfl rfl fx_off ?_; go_frame
        refine fx (i := 9) (dst := some 23) (v := undef) rfl rfl fx_off ?_; go_frame
        refine fx (i := 10) (dst := some 24) (v := undef) rfl rfl fx_off ?_; go_frame
        refine fx (i := 11) (dst := some 25) (v := undef) rfl rfl fx_off ?_; go_frame
        refine fx (i := 12) (dst := some 26) (v := undef) rfl rfl fx_off ?_; go_frame
        refine fx (i := 13) (dst := some 27) (v := undef) rfl rfl fx_off ?_; go_frame
        refine fx (i := 14) (dst := some 28) (v := undef) rfl rfl fx_off ?_; go_frame
        refine fx (i := 15) (dst := some 29) (v := undef) rfl rfl fx_off ?_; go_frame
        refine fx (i := 16) (dst := some 30) (v := undef) rfl rfl fx_off ?_; go_frame
        refine fx (i := 17) (dst := some 31) (v := undef) rfl rfl fx_off ?_; go_frame
        refine fx (i := 18) (dst := some 32) (v := .bool true) rfl rfl (fx_read (fun u hu => by go_simp)) ?_; go_frame
        refine fx (i := 19) (dst := some 33) (v := .bool true) rfl rfl (fx_read (fun u hu => by go_simp)) ?_; go_frame
        refine fx (i := 20) (dst := some 34) (v := undef) rfl rfl fx_off ?_; go_frame
        refine fx (i := 21) (dst := some 35) (v := undef) rfl rfl fx_off ?_; go_frame
        refine fx (i := 22) (dst := some 36) (v := undef) rfl rfl fx_off ?_; go_frame
        refine fx (i := 23) (dst := some 37) (v := .bool true) rfl rfl (fx_read (fun u hu => by go_simp)) ?_; go_frame
        refine fx (i := 24) (dst := some 38) (v := .bool true) rfl rfl (fx_read (fun u hu => by go_simp)) ?_; go_frame
        refine fx (i := 25) (dst := some 39) (v := undef) rfl rfl fx_off ?_; go_frame
        refine fx (i := 26) (dst := some 40) (v := undef) rfl rfl fx_off ?_; go_frame
        refine fx (i := 27) (dst := some 41) (v := undef) rfl rfl fx_off ?_; go_frame
        refine fx (i := 28) (dst := some 42) (v := undef) rfl rfl fx_off ?_; go_frame
        refine fx (i := 29) (dst := some 43) (v := .bool true) rfl rfl (fx_read (fun u hu => by go_simp)) ?_; go_frame
        refine fx_done ?_ (by kernel_rfl) _
        intro w9 h9
        have hE := Lib.hid (below_step h9 hde.out)
        clear h9
        go_wp2_with fail
        go_ret
        exact ⟨by rw [hno.out]; rfl, hE.out⟩
      | true =>
        have hp64 : 0 ≤ p ∧ p < 64 := by unfold pageB at hPB; simpa using hPB
        clear hPB
        have hge : ¬ p ≤ a := by have h1 := ha2 rfl; omega
        have hr2 : Hid (∃ a : Int, -1 ≤ a ∧ (0 + 1 = 0 → a = -1) ∧ (∀ m2 d, 0 + 1 = m2 + 1 → L[m2]? = some d → a = d.page) ∧ riseF (-1) (L.map (·.page)) = riseF a ((L.map (·.page)).drop (0 + 1))) := ⟨p, by omega, fun h => by omega, fun m2 d' h1 h2 => (by have hm : m2 = 0 := (by omega); subst hm; rw [hdx.out] at h2; cases h2; rfl), by rw [har.out, if_neg (by omega)]⟩
        by_cases h1 : rc < 1
        · have d1 : decide (rc < 1) = true := decide_eq_true h1
          have hno : Hid (R = false) := hbad.out (by rw [hpg.out, decide_eq_false (p := 1 ≤ rc) (by omega)]; rfl)
          go_wp2_with (first
           | (with_reducible refine wpList_load_at rfl 85 (.tmp 12) rfl Tryz.underlying85 rfl hs rfl hcA.out ?_))
          refine wp_region_held (S := fun u => Below we.heap.size we u) (by kernel_rfl) ?_
          try rw [hwe]
          change wpAnyH _ _ _ _ _ _ _ _ (World.drew we)
          refine wpF.held _ _ _ ?_ _ hS0
          refine fx (i := 0) (dst := some 14) (v := .pointer (some ⟨wr.heap.size, 0, none⟩)) rfl rfl (fx_read (fun u hu => by go_simp)) ?_; go_frame
          refine fx (i := 1) (dst := some 15) (v := .int .i64 p) rfl rfl (fx_read (fun u hu => by have c0 := (hbk.out.2.1.below hu (Nat.le_refl _)).cell 0 rfl; go_simp)) ?_; go_frame
          refine fx (i := 2) (dst := some 16) (v := .bool true) rfl rfl (fx_call hpd.out) ?_; go_frame
          refine fx (i := 3) (dst := some 17) (v := .bool false) rfl rfl (fx_read (fun u hu => by go_simp)) ?_; go_frame
          refine fx (i := 4) (dst := some 18) (v := .bool false) rfl rfl (fx_read (fun u hu => by go_simp)) ?_; go_frame
          refine fx (i := 5) (dst := some 19) (v := .int .i64 0) rfl rfl (fx_read (fun u hu => by go_simp)) ?_; go_frame
          refine fx (i := 6) (dst := some 20) (v := .bool false) rfl rfl (fx_read (fun u hu => by go_simp)) ?_; go_frame
          refine fx (i := 7) (dst := some 21) (v := .bool false) rfl rfl (fx_read (fun u hu => by go_simp)) ?_; go_frame
          refine fx (i := 8) (dst := some 22) (v := undef) rfl rfl fx_off ?_; go_frame
          refine fx (i := 9) (dst := some 23) (v := undef) rfl rfl fx_off ?_; go_frame
          refine fx (i := 10) (dst := some 24) (v := undef) rfl rfl fx_off ?_; go_frame
          refine fx (i := 11) (dst := some 25) (v := undef) rfl rfl fx_off ?_; go_frame
          refine fx (i := 12) (dst := some 26) (v := undef) rfl rfl fx_off ?_; go_frame
          refine fx (i := 13) (dst := some 27) (v := undef) rfl rfl fx_off ?_; go_frame
          refine fx (i := 14) (dst := some 28) (v := undef) rfl rfl fx_off ?_; go_frame
          refine fx (i := 15) (dst := some 29) (v := undef) rfl rfl fx_off ?_; go_frame
          refine fx (i := 16) (dst := some 30) (v := undef) rfl rfl fx_off ?_; go_frame
          refine fx (i := 17) (dst := some 31) (v := .bool false) rfl rfl (fx_read (fun u hu => by go_simp)) ?_; go_frame
          refine fx (i := 18) (dst := some 32) (v := .bool false) rfl rfl (fx_read (fun u hu => by go_simp)) ?_; go_frame
          refine fx (i := 19) (dst := some 33) (v := .bool false) rfl rfl (fx_read (fun u hu => by go_simp)) ?_; go_frame
          refine fx (i := 20) (dst := some 34) (v := .pointer (some ⟨wr.heap.size, 1, none⟩)) rfl rfl (fx_read (fun u hu => by go_simp)) ?_; go_frame
          refine fx (i := 21) (dst := some 35) (v := .int .u64 rc) rfl rfl (fx_read (fun u hu => by have c0 := (hbk.out.2.1.below hu (Nat.le_refl _)).cell 1 rfl; go_simp)) ?_; go_frame
          refine fx (i := 22) (dst := some 36) (v := .bool true) rfl rfl (fx_read (fun u hu => by go_simp)) ?_; go_frame
          refine fx (i := 23) (dst := some 37) (v := .bool true) rfl rfl (fx_read (fun u hu => by go_simp)) ?_; go_frame
          refine fx (i := 24) (dst := some 38) (v := .bool true) rfl rfl (fx_read (fun u hu => by go_simp)) ?_; go_frame
          refine fx (i := 25) (dst := some 39) (v := undef) rfl rfl fx_off ?_; go_frame
          refine fx (i := 26) (dst := some 40) (v := undef) rfl rfl fx_off ?_; go_frame
          refine fx (i := 27) (dst := some 41) (v := undef) rfl rfl fx_off ?_; go_frame
          refine fx (i := 28) (dst := some 42) (v := undef) rfl rfl fx_off ?_; go_frame
          refine fx (i := 29) (dst := some 43) (v := .bool true) rfl rfl (fx_read (fun u hu => by go_simp)) ?_; go_frame
          refine fx_done ?_ (by kernel_rfl) _
          intro w9 h9
          have hE := Lib.hid (below_step h9 hde.out)
          clear h9
          go_wp2_with fail
          go_ret
          exact ⟨by rw [hno.out]; rfl, hE.out⟩
        have d1 : decide (rc < 1) = false := decide_eq_false h1
        by_cases h2 : lsn ≤ rc
        · have d2 : decide (lsn ≤ rc) = true := decide_eq_true h2
          have hno : Hid (R = false) := hbad.out (by rw [hpg.out, decide_eq_false (p := rc < lsn) (by omega), Bool.and_false])
          go_wp2_with (first
           | (with_reducible refine wpList_load_at rfl 85 (.tmp 12) rfl Tryz.underlying85 rfl hs rfl hcA.out ?_))
          refine wp_region_held (S := fun u => Below we.heap.size we u) (by kernel_rfl) ?_
          try rw [hwe]
          change wpAnyH _ _ _ _ _ _ _ _ (World.drew we)
          refine wpF.held _ _ _ ?_ _ hS0
          refine fx (i := 0) (dst := some 14) (v := .pointer (some ⟨wr.heap.size, 0, none⟩)) rfl rfl (fx_read (fun u hu => by go_simp)) ?_; go_frame
          refine fx (i := 1) (dst := some 15) (v := .int .i64 p) rfl rfl (fx_read (fun u hu => by have c0 := (hbk.out.2.1.below hu (Nat.le_refl _)).cell 0 rfl; go_simp)) ?_; go_frame
          refine fx (i := 2) (dst := some 16) (v := .bool true) rfl rfl (fx_call hpd.out) ?_; go_frame
          refine fx (i := 3) (dst := some 17) (v := .bool false) rfl rfl (fx_read (fun u hu => by go_simp)) ?_; go_frame
          refine fx (i := 4) (dst := some 18) (v := .bool false) rfl rfl (fx_read (fun u hu => by go_simp)) ?_; go_frame
          refine fx (i := 5) (dst := some 19) (v := .int .i64 0) rfl rfl (fx_read (fun u hu => by go_simp)) ?_; go_frame
          refine fx (i := 6) (dst := some 20) (v := .bool false) rfl rfl (fx_read (fun u hu => by go_simp)) ?_; go_frame
          refine fx (i := 7) (dst := some 21) (v := .bool false) rfl rfl (fx_read (fun u hu => by go_simp)) ?_; go_frame
          refine fx (i := 8) (dst := some 22) (v := undef) rfl rfl fx_off ?_; go_frame
          refine fx (i := 9) (dst := some 23) (v := undef) rfl rfl fx_off ?_; go_frame
          refine fx (i := 10) (dst := some 24) (v := undef) rfl rfl fx_off ?_; go_frame
          refine fx (i := 11) (dst := some 25) (v := undef) rfl rfl fx_off ?_; go_frame
          refine fx (i := 12) (dst := some 26) (v := undef) rfl rfl fx_off ?_; go_frame
          refine fx (i := 13) (dst := some 27) (v := undef) rfl rfl fx_off ?_; go_frame
          refine fx (i := 14) (dst := some 28) (v := undef) rfl rfl fx_off ?_; go_frame
          refine fx (i := 15) (dst := some 29) (v := undef) rfl rfl fx_off ?_; go_frame
          refine fx (i := 16) (dst := some 30) (v := undef) rfl rfl fx_off ?_; go_frame
          refine fx (i := 17) (dst := some 31) (v := .bool false) rfl rfl (fx_read (fun u hu => by go_simp)) ?_; go_frame
          refine fx (i := 18) (dst := some 32) (v := .bool false) rfl rfl (fx_read (fun u hu => by go_simp)) ?_; go_frame
          refine fx (i := 19) (dst := some 33) (v := .bool false) rfl rfl (fx_read (fun u hu => by go_simp)) ?_; go_frame
          refine fx (i := 20) (dst := some 34) (v := .pointer (some ⟨wr.heap.size, 1, none⟩)) rfl rfl (fx_read (fun u hu => by go_simp)) ?_; go_frame
          refine fx (i := 21) (dst := some 35) (v := .int .u64 rc) rfl rfl (fx_read (fun u hu => by have c0 := (hbk.out.2.1.below hu (Nat.le_refl _)).cell 1 rfl; go_simp)) ?_; go_frame
          refine fx (i := 22) (dst := some 36) (v := .bool false) rfl rfl (fx_read (fun u hu => by go_simp)) ?_; go_frame
          refine fx (i := 23) (dst := some 37) (v := .bool false) rfl rfl (fx_read (fun u hu => by go_simp)) ?_; go_frame
          refine fx (i := 24) (dst := some 38) (v := .bool false) rfl rfl (fx_read (fun u hu => by go_simp)) ?_; go_frame
          refine fx (i := 25) (dst := some 39) (v := .pointer (some ⟨wr.heap.size, 1, none⟩)) rfl rfl (fx_read (fun u hu => by go_simp)) ?_; go_frame
          refine fx (i := 26) (dst := some 40) (v := .int .u64 rc) rfl rfl (fx_read (fun u hu => by have c0 := (hbk.out.2.1.below hu (Nat.le_refl _)).cell 1 rfl; go_simp)) ?_; go_frame
          refine fx (i := 27) (dst := some 41) (v := .int .u64 lsn) rfl rfl (fx_read (fun u hu => by go_simp)) ?_; go_frame
          refine fx (i := 28) (dst := some 42) (v := .bool true) rfl rfl (fx_read (fun u hu => by go_simp)) ?_; go_frame
          refine fx (i := 29) (dst := some 43) (v := .bool true) rfl rfl (fx_read (fun u hu => by go_simp)) ?_; go_frame
          refine fx_done ?_ (by kernel_rfl) _
          intro w9 h9
          have hE := Lib.hid (below_step h9 hde.out)
          clear h9
          go_wp2_with fail
          go_ret
          exact ⟨by rw [hno.out]; rfl, hE.out⟩
        have d2 : decide (lsn ≤ rc) = false := decide_eq_false h2
        have hq2 : Hid (∀ (i : Nat) d, i < 0 + 1 → L[i]? = some d → pgB lsn d = true) := fun i x hi hxi => by
         rcases Nat.lt_or_ge i 0 with h | h
         · exact hq.out i x h hxi
         · obtain rfl : i = 0 := by omega
           rw [hdx.out] at hxi
           cases hxi
           rw [hpg.out, decide_eq_true (by omega), decide_eq_true (by omega)]; rfl
        go_wp2_with (first
         | (with_reducible refine wpList_load_at rfl 85 (.tmp 12) rfl Tryz.underlying85 rfl hs rfl hcA.out ?_))
        refine wp_region_held (S := fun u => Below we.heap.size we u) (by kernel_rfl) ?_
        try rw [hwe]
        change wpAnyH _ _ _ _ _ _ _ _ (World.drew we)
        refine wpF.held _ _ _ ?_ _ hS0
        refine fx (i := 0) (dst := some 14) (v := .pointer (some ⟨wr.heap.size, 0, none⟩)) rfl rfl (fx_read (fun u hu => by go_simp)) ?_; go_frame
        refine fx (i := 1) (dst := some 15) (v := .int .i64 p) rfl rfl (fx_read (fun u hu => by have c0 := (hbk.out.2.1.below hu (Nat.le_refl _)).cell 0 rfl; go_simp)) ?_; go_frame
        refine fx (i := 2) (dst := some 16) (v := .bool true) rfl rfl (fx_call hpd.out) ?_; go_frame
        refine fx (i := 3) (dst := some 17) (v := .bool false) rfl rfl (fx_read (fun u hu => by go_simp)) ?_; go_frame
        refine fx (i := 4) (dst := some 18) (v := .bool false) rfl rfl (fx_read (fun u hu => by go_simp)) ?_; go_frame
        refine fx (i := 5) (dst := some 19) (v := .int .i64 0) rfl rfl (fx_read (fun u hu => by go_simp)) ?_; go_frame
        refine fx (i := 6) (dst := some 20) (v := .bool false) rfl rfl (fx_read (fun u hu => by go_simp)) ?_; go_frame
        refine fx (i := 7) (dst := some 21) (v := .bool false) rfl rfl (fx_read (fun u hu => by go_simp)) ?_; go_frame
        refine fx (i := 8) (dst := some 22) (v := undef) rfl rfl fx_off ?_; go_frame
        refine fx (i := 9) (dst := some 23) (v := undef) rfl rfl fx_off ?_; go_frame
        refine fx (i := 10) (dst := some 24) (v := undef) rfl rfl fx_off ?_; go_frame
        refine fx (i := 11) (dst := some 25) (v := undef) rfl rfl fx_off ?_; go_frame
        refine fx (i := 12) (dst := some 26) (v := undef) rfl rfl fx_off ?_; go_frame
        refine fx (i := 13) (dst := some 27) (v := undef) rfl rfl fx_off ?_; go_frame
        refine fx (i := 14) (dst := some 28) (v := undef) rfl rfl fx_off ?_; go_frame
        refine fx (i := 15) (dst := some 29) (v := undef) rfl rfl fx_off ?_; go_frame
        refine fx (i := 16) (dst := some 30) (v := undef) rfl rfl fx_off ?_; go_frame
        refine fx (i := 17) (dst := some 31) (v := .bool false) rfl rfl (fx_read (fun u hu => by go_simp)) ?_; go_frame
        refine fx (i := 18) (dst := some 32) (v := .bool false) rfl rfl (fx_read (fun u hu => by go_simp)) ?_; go_frame
        refine fx (i := 19) (dst := some 33) (v := .bool false) rfl rfl (fx_read (fun u hu => by go_simp)) ?_; go_frame
        refine fx (i := 20) (dst := some 34) (v := .pointer (some ⟨wr.heap.size, 1, none⟩)) rfl rfl (fx_read (fun u hu => by go_simp)) ?_; go_frame
        refine fx (i := 21) (dst := some 35) (v := .int .u64 rc) rfl rfl (fx_read (fun u hu => by have c0 := (hbk.out.2.1.below hu (Nat.le_refl _)).cell 1 rfl; go_simp)) ?_; go_frame
        refine fx (i := 22) (dst := some 36) (v := .bool false) rfl rfl (fx_read (fun u hu => by go_simp)) ?_; go_frame
        refine fx (i := 23) (dst := some 37) (v := .bool false) rfl rfl (fx_read (fun u hu => by go_simp)) ?_; go_frame
        refine fx (i := 24) (dst := some 38) (v := .bool false) rfl rfl (fx_read (fun u hu => by go_simp)) ?_; go_frame
        refine fx (i := 25) (dst := some 39) (v := .pointer (some ⟨wr.heap.size, 1, none⟩)) rfl rfl (fx_read (fun u hu => by go_simp)) ?_; go_frame
        refine fx (i := 26) (dst := some 40) (v := .int .u64 rc) rfl rfl (fx_read (fun u hu => by have c0 := (hbk.out.2.1.below hu (Nat.le_refl _)).cell 1 rfl; go_simp)) ?_; go_frame
        refine fx (i := 27) (dst := some 41) (v := .int .u64 lsn) rfl rfl (fx_read (fun u hu => by go_simp)) ?_; go_frame
        refine fx (i := 28) (dst := some 42) (v := .bool false) rfl rfl (fx_read (fun u hu => by go_simp)) ?_; go_frame
        refine fx (i := 29) (dst := some 43) (v := .bool false) rfl rfl (fx_read (fun u hu => by go_simp)) ?_; go_frame
        refine fx_done ?_ (by kernel_rfl) _
        intro w9 h9
        have hE := Lib.hid (below_step h9 hde.out)
        clear h9
        go_wp2_with fail
        go_roundw
        case rel => exact ⟨0 + 1, by omega, by go_num, hE, hr2, hq2⟩
        case measure => simp [RowKit.intOf]; omega
    | succ m =>
      obtain ⟨A', ⟨p', rc'⟩, hqA', hx', hc'⟩ := (hh.out.below hde.out (Nat.le_refl _)).at (show m < n by omega)
      subst hqA
      cases hqA'
      have hpc : Hid (∀ u, Below we.heap.size we u → u.cell? (A.add (m * 2)) = some (.int .i64 a)) := fun u hu => by
       have h1 : u.cell? ((A.add (m * 2)).add 0) = some (.int .i64 p') := cell_keeps hu (Nat.le_refl _) (hc' 0 _ rfl)
       have h2 : p' = a := (ha3 m _ rfl hx').symm
       rw [← h2]
       rwa [show ((A.add (m * 2)).add 0) = A.add (m * 2) from by simp [add_zero]] at h1
      clear hx' hc'
      have w0 : IntKind.i64.wrap (((m + 1 : Nat) : Int) - 1) = m := by rw [show ((m + 1 : Nat) : Int) - 1 = m by omega]; exact IntWalk.i64_in (m : Int) (by omega)
      have w0' : IntKind.i64.wrap ((m : Int) + 1 - 1) = m := by rw [Int.add_sub_cancel]; exact IntWalk.i64_in (m : Int) (by omega)
      have w1' : IntKind.i64.wrap (m : Int) = m := IntWalk.i64_in (m : Int) (by omega)
      have j0 : (0 : Int) ≤ m := by omega
      have j1 : (m : Int) < n := by omega
      have j2 : (0 : Int) < (m : Int) + 1 := by omega
      have j3 : decide ((0 : Int) < (m : Int) + 1) = true := decide_eq_true j2
      cases PB with
      | false =>
        have hno : Hid (R = false) := hri2.out (by unfold pageB at hPB; simp only [Bool.and_eq_false_iff, decide_eq_false_iff_not] at hPB; omega)
        clear hPB
        go_wp2_with (first
         | (with_reducible refine wpList_load_at rfl 85 (.tmp 12) rfl Tryz.underlying85 rfl hs rfl hcA.out ?_))
        refine wp_region_held (S := fun u => Below we.heap.size we u) (by kernel_rfl) ?_
        try rw [hwe]
        change wpAnyH _ _ _ _ _ _ _ _ (World.drew we)
        refine wpF.held _ _ _ ?_ _ hS0
        refine fx (i := 0) (dst := some 14) (v := .pointer (some ⟨wr.heap.size, 0, none⟩)) rfl rfl (fx_read (fun u hu => by go_simp)) ?_; go_frame
        refine fx (i := 1) (dst := some 15) (v := .int .i64 p) rfl rfl (fx_read (fun u hu => by have c0 := (hbk.out.2.1.below hu (Nat.le_refl _)).cell 0 rfl; go_simp)) ?_; go_frame
        refine fx (i := 2) (dst := some 16) (v := .bool false) rfl rfl (fx_call hpd.out) ?_; go_frame
        refine fx (i := 3) (dst := some 17) (v := .bool true) rfl rfl (fx_read (fun u hu => by go_simp)) ?_; go_frame
        refine fx (i := 4) (dst := some 18) (v := .bool true) rfl rfl (fx_read (fun u hu => by go_simp)) ?_; go_frame
        refine fx (i := 5) (dst := some 19) (v := undef) rfl rfl fx_off ?_; go_frame
        refine fx (i := 6) (dst := some 20) (v := undef) rfl rfl fx_off ?_; go_frame
        refine fx (i := 7) (dst := some 21) (v := undef) rfl rfl fx_off ?_; go_frame
        refine fx (i := 8) (dst := some 22) (v := undef) rfl rfl fx_off ?_; go_frame
        refine fx (i := 9) (dst := some 23) (v := undef) rfl rfl fx_off ?_; go_frame
        refine fx (i := 10) (dst := some 24) (v := undef) rfl rfl fx_off ?_; go_frame
        refine fx (i := 11) (dst := some 25) (v := undef) rfl rfl fx_off ?_; go_frame
        refine fx (i := 12) (dst := some 26) (v := undef) rfl rfl fx_off ?_; go_frame
        refine fx (i := 13) (dst := some 27) (v := undef) rfl rfl fx_off ?_; go_frame
        refine fx (i := 14) (dst := some 28) (v := undef) rfl rfl fx_off ?_; go_frame
        refine fx (i := 15) (dst := some 29) (v := undef) rfl rfl fx_off ?_; go_frame
        refine fx (i := 16) (dst := some 30) (v := undef) rfl rfl fx_off ?_; go_frame
        refine fx (i := 17) (dst := some 31) (v := undef) rfl rfl fx_off ?_; go_frame
        refine fx (i := 18) (dst := some 32) (v := .bool true) rfl rfl (fx_read (fun u hu => by go_simp)) ?_; go_frame
        refine fx (i := 19) (dst := some 33) (v := .bool true) rfl rfl (fx_read (fun u hu => by go_simp)) ?_; go_frame
        refine fx (i := 20) (dst := some 34) (v := undef) rfl rfl fx_off ?_; go_frame
        refine fx (i := 21) (dst := some 35) (v := undef) rfl rfl fx_off ?_; go_frame
        refine fx (i := 22) (dst := some 36) (v := undef) rfl rfl fx_off ?_; go_frame
        refine fx (i := 23) (dst := some 37) (v := .bool true) rfl rfl (fx_read (fun u hu => by go_simp)) ?_; go_frame
        refine fx (i := 24) (dst := some 38) (v := .bool true) rfl rfl (fx_read (fun u hu => by go_simp)) ?_; go_frame
        refine fx (i := 25) (dst := some 39) (v := undef) rfl rfl fx_off ?_; go_frame
        refine fx (i := 26) (dst := some 40) (v := undef) rfl rfl fx_off ?_; go_frame
        refine fx (i := 27) (dst := some 41) (v := undef) rfl rfl fx_off ?_; go_frame
        refine fx (i := 28) (dst := some 42) (v := undef) rfl rfl fx_off ?_; go_frame
        refine fx (i := 29) (dst := some 43) (v := .bool true) rfl rfl (fx_read (fun u hu => by go_simp)) ?_; go_frame
        refine fx_done ?_ (by kernel_rfl) _
        intro w9 h9
        have hE := Lib.hid (below_step h9 hde.out)
        clear h9
        go_wp2_with fail
        go_ret
        exact ⟨by rw [hno.out]; rfl, hE.out⟩
      | true =>
        have hp64 : 0 ≤ p ∧ p < 64 := by unfold pageB at hPB; simpa using hPB
        clear hPB
        by_cases hge : p ≤ a
        · have hdg : decide (p ≤ a) = true := decide_eq_true hge
          have hno : Hid (R = false) := hri2.out (.inl hge)
          go_wp2_with (first
           | (with_reducible refine wpList_load_at rfl 85 (.tmp 12) rfl Tryz.underlying85 rfl hs rfl hcA.out ?_))
          refine wp_region_held (S := fun u => Below we.heap.size we u) (by kernel_rfl) ?_
          try rw [hwe]
          change wpAnyH _ _ _ _ _ _ _ _ (World.drew we)
          refine wpF.held _ _ _ ?_ _ hS0
          refine fx (i := 0) (dst := some 14) (v := .pointer (some ⟨wr.heap.size, 0, none⟩)) rfl rfl (fx_read (fun u hu => by go_simp)) ?_; go_frame
          refine fx (i := 1) (dst := some 15) (v := .int .i64 p) rfl rfl (fx_read (fun u hu => by have c0 := (hbk.out.2.1.below hu (Nat.le_refl _)).cell 0 rfl; go_simp)) ?_; go_frame
          refine fx (i := 2) (dst := some 16) (v := .bool true) rfl rfl (fx_call hpd.out) ?_; go_frame
          refine fx (i := 3) (dst := some 17) (v := .bool false) rfl rfl (fx_read (fun u hu => by go_simp)) ?_; go_frame
          refine fx (i := 4) (dst := some 18) (v := .bool false) rfl rfl (fx_read (fun u hu => by go_simp)) ?_; go_frame
          refine fx (i := 5) (dst := some 19) (v := .int .i64 ((m + 1 : Nat) : Int)) rfl rfl (fx_read (fun u hu => by go_simp)) ?_; go_frame
          refine fx (i := 6) (dst := some 20) (v := .bool true) rfl rfl (fx_read (fun u hu => by go_simp)) ?_; go_frame
          refine fx (i := 7) (dst := some 21) (v := .bool true) rfl rfl (fx_read (fun u hu => by go_simp)) ?_; go_frame
          refine fx (i := 8) (dst := some 22) (v := .slice (some A) n c) rfl rfl (fx_read (fun u hu => by go_simp)) ?_; go_frame
          refine fx (i := 9) (dst := some 23) (v := .int .i64 ((m + 1 : Nat) : Int)) rfl rfl (fx_read (fun u hu => by go_simp)) ?_; go_frame
          refine fx (i := 10) (dst := some 24) (v := .int .i64 m) rfl rfl (fx_read (fun u hu => by go_simp)) ?_; go_frame
          refine fx (i := 11) (dst := some 25) (v := .pointer (some (A.add (m * 2)))) rfl rfl (fx_read (fun u hu => by go_simp)) ?_; go_frame
          refine fx (i := 12) (dst := some 26) (v := .pointer (some (A.add (m * 2)))) rfl rfl (fx_read (fun u hu => by go_simp)) ?_; go_frame
          refine fx (i := 13) (dst := some 27) (v := .int .i64 a) rfl rfl (fx_read (fun u hu => by have c0 := hpc.out u hu; go_simp)) ?_; go_frame
          refine fx (i := 14) (dst := some 28) (v := .pointer (some ⟨wr.heap.size, 0, none⟩)) rfl rfl (fx_read (fun u hu => by go_simp)) ?_; go_frame
          refine fx (i := 15) (dst := some 29) (v := .int .i64 p) rfl rfl (fx_read (fun u hu => by have c0 := (hbk.out.2.1.below hu (Nat.le_refl _)).cell 0 rfl; go_simp)) ?_; go_frame
          refine fx (i := 16) (dst := some 30) (v := .bool true) rfl rfl (fx_read (fun u hu => by go_simp)) ?_; go_frame
          refine fx (i := 17) (dst := some 31) (v := .bool true) rfl rfl (fx_read (fun u hu => by go_simp)) ?_; go_frame
          refine fx (i := 18) (dst := some 32) (v := .bool true) rfl rfl (fx_read (fun u hu => by go_simp)) ?_; go_frame
          refine fx (i := 19) (dst := some 33) (v := .bool true) rfl rfl (fx_read (fun u hu => by go_simp)) ?_; go_frame
          refine fx (i := 20) (dst := some 34) (v := undef) rfl rfl fx_off ?_; go_frame
          refine fx (i := 21) (dst := some 35) (v := undef) rfl rfl fx_off ?_; go_frame
          refine fx (i := 22) (dst := some 36) (v := undef) rfl rfl fx_off ?_; go_frame
          refine fx (i := 23) (dst := some 37) (v := .bool true) rfl rfl (fx_read (fun u hu => by go_simp)) ?_; go_frame
          refine fx (i := 24) (dst := some 38) (v := .bool true) rfl rfl (fx_read (fun u hu => by go_simp)) ?_; go_frame
          refine fx (i := 25) (dst := some 39) (v := undef) rfl rfl fx_off ?_; go_frame
          refine fx (i := 26) (dst := some 40) (v := undef) rfl rfl fx_off ?_; go_frame
          refine fx (i := 27) (dst := some 41) (v := undef) rfl rfl fx_off ?_; go_frame
          refine fx (i := 28) (dst := some 42) (v := undef) rfl rfl fx_off ?_; go_frame
          refine fx (i := 29) (dst := some 43) (v := .bool true) rfl rfl (fx_read (fun u hu => by go_simp)) ?_; go_frame
          refine fx_done ?_ (by kernel_rfl) _
          intro w9 h9
          have hE := Lib.hid (below_step h9 hde.out)
          clear h9
          go_wp2_with fail
          go_ret
          exact ⟨by rw [hno.out]; rfl, hE.out⟩
        have hdg : decide (p ≤ a) = false := decide_eq_false hge
        have hr2 : Hid (∃ a : Int, -1 ≤ a ∧ ((m + 1) + 1 = 0 → a = -1) ∧ (∀ m2 d, (m + 1) + 1 = m2 + 1 → L[m2]? = some d → a = d.page) ∧ riseF (-1) (L.map (·.page)) = riseF a ((L.map (·.page)).drop ((m + 1) + 1))) := ⟨p, by omega, fun h => by omega, fun m2 d' h1 h2 => (by have hm : m2 = (m + 1) := (by omega); subst hm; rw [hdx.out] at h2; cases h2; rfl), by rw [har.out, if_neg (by omega)]⟩
        by_cases h1 : rc < 1
        · have d1 : decide (rc < 1) = true := decide_eq_true h1
          have hno : Hid (R = false) := hbad.out (by rw [hpg.out, decide_eq_false (p := 1 ≤ rc) (by omega)]; rfl)
          go_wp2_with (first
           | (with_reducible refine wpList_load_at rfl 85 (.tmp 12) rfl Tryz.underlying85 rfl hs rfl hcA.out ?_))
          refine wp_region_held (S := fun u => Below we.heap.size we u) (by kernel_rfl) ?_
          try rw [hwe]
          change wpAnyH _ _ _ _ _ _ _ _ (World.drew we)
          refine wpF.held _ _ _ ?_ _ hS0
          refine fx (i := 0) (dst := some 14) (v := .pointer (some ⟨wr.heap.size, 0, none⟩)) rfl rfl (fx_read (fun u hu => by go_simp)) ?_; go_frame
          refine fx (i := 1) (dst := some 15) (v := .int .i64 p) rfl rfl (fx_read (fun u hu => by have c0 := (hbk.out.2.1.below hu (Nat.le_refl _)).cell 0 rfl; go_simp)) ?_; go_frame
          refine fx (i := 2) (dst := some 16) (v := .bool true) rfl rfl (fx_call hpd.out) ?_; go_frame
          refine fx (i := 3) (dst := some 17) (v := .bool false) rfl rfl (fx_read (fun u hu => by go_simp)) ?_; go_frame
          refine fx (i := 4) (dst := some 18) (v := .bool false) rfl rfl (fx_read (fun u hu => by go_simp)) ?_; go_frame
          refine fx (i := 5) (dst := some 19) (v := .int .i64 ((m + 1 : Nat) : Int)) rfl rfl (fx_read (fun u hu => by go_simp)) ?_; go_frame
          refine fx (i := 6) (dst := some 20) (v := .bool true) rfl rfl (fx_read (fun u hu => by go_simp)) ?_; go_frame
          refine fx (i := 7) (dst := some 21) (v := .bool true) rfl rfl (fx_read (fun u hu => by go_simp)) ?_; go_frame
          refine fx (i := 8) (dst := some 22) (v := .slice (some A) n c) rfl rfl (fx_read (fun u hu => by go_simp)) ?_; go_frame
          refine fx (i := 9) (dst := some 23) (v := .int .i64 ((m + 1 : Nat) : Int)) rfl rfl (fx_read (fun u hu => by go_simp)) ?_; go_frame
          refine fx (i := 10) (dst := some 24) (v := .int .i64 m) rfl rfl (fx_read (fun u hu => by go_simp)) ?_; go_frame
          refine fx (i := 11) (dst := some 25) (v := .pointer (some (A.add (m * 2)))) rfl rfl (fx_read (fun u hu => by go_simp)) ?_; go_frame
          refine fx (i := 12) (dst := some 26) (v := .pointer (some (A.add (m * 2)))) rfl rfl (fx_read (fun u hu => by go_simp)) ?_; go_frame
          refine fx (i := 13) (dst := some 27) (v := .int .i64 a) rfl rfl (fx_read (fun u hu => by have c0 := hpc.out u hu; go_simp)) ?_; go_frame
          refine fx (i := 14) (dst := some 28) (v := .pointer (some ⟨wr.heap.size, 0, none⟩)) rfl rfl (fx_read (fun u hu => by go_simp)) ?_; go_frame
          refine fx (i := 15) (dst := some 29) (v := .int .i64 p) rfl rfl (fx_read (fun u hu => by have c0 := (hbk.out.2.1.below hu (Nat.le_refl _)).cell 0 rfl; go_simp)) ?_; go_frame
          refine fx (i := 16) (dst := some 30) (v := .bool false) rfl rfl (fx_read (fun u hu => by go_simp)) ?_; go_frame
          refine fx (i := 17) (dst := some 31) (v := .bool false) rfl rfl (fx_read (fun u hu => by go_simp)) ?_; go_frame
          refine fx (i := 18) (dst := some 32) (v := .bool false) rfl rfl (fx_read (fun u hu => by go_simp)) ?_; go_frame
          refine fx (i := 19) (dst := some 33) (v := .bool false) rfl rfl (fx_read (fun u hu => by go_simp)) ?_; go_frame
          refine fx (i := 20) (dst := some 34) (v := .pointer (some ⟨wr.heap.size, 1, none⟩)) rfl rfl (fx_read (fun u hu => by go_simp)) ?_; go_frame
          refine fx (i := 21) (dst := some 35) (v := .int .u64 rc) rfl rfl (fx_read (fun u hu => by have c0 := (hbk.out.2.1.below hu (Nat.le_refl _)).cell 1 rfl; go_simp)) ?_; go_frame
          refine fx (i := 22) (dst := some 36) (v := .bool true) rfl rfl (fx_read (fun u hu => by go_simp)) ?_; go_frame
          refine fx (i := 23) (dst := some 37) (v := .bool true) rfl rfl (fx_read (fun u hu => by go_simp)) ?_; go_frame
          refine fx (i := 24) (dst := some 38) (v := .bool true) rfl rfl (fx_read (fun u hu => by go_simp)) ?_; go_frame
          refine fx (i := 25) (dst := some 39) (v := undef) rfl rfl fx_off ?_; go_frame
          refine fx (i := 26) (dst := some 40) (v := undef) rfl rfl fx_off ?_; go_frame
          refine fx (i := 27) (dst := some 41) (v := undef) rfl rfl fx_off ?_; go_frame
          refine fx (i := 28) (dst := some 42) (v := undef) rfl rfl fx_off ?_; go_frame
          refine fx (i := 29) (dst := some 43) (v := .bool true) rfl rfl (fx_read (fun u hu => by go_simp)) ?_; go_frame
          refine fx_done ?_ (by kernel_rfl) _
          intro w9 h9
          have hE := Lib.hid (below_step h9 hde.out)
          clear h9
          go_wp2_with fail
          go_ret
          exact ⟨by rw [hno.out]; rfl, hE.out⟩
        have d1 : decide (rc < 1) = false := decide_eq_false h1
        by_cases h2 : lsn ≤ rc
        · have d2 : decide (lsn ≤ rc) = true := decide_eq_true h2
          have hno : Hid (R = false) := hbad.out (by rw [hpg.out, decide_eq_false (p := rc < lsn) (by omega), Bool.and_false])
          go_wp2_with (first
           | (with_reducible refine wpList_load_at rfl 85 (.tmp 12) rfl Tryz.underlying85 rfl hs rfl hcA.out ?_))
          refine wp_region_held (S := fun u => Below we.heap.size we u) (by kernel_rfl) ?_
          try rw [hwe]
          change wpAnyH _ _ _ _ _ _ _ _ (World.drew we)
          refine wpF.held _ _ _ ?_ _ hS0
          refine fx (i := 0) (dst := some 14) (v := .pointer (some ⟨wr.heap.size, 0, none⟩)) rfl rfl (fx_read (fun u hu => by go_simp)) ?_; go_frame
          refine fx (i := 1) (dst := some 15) (v := .int .i64 p) rfl rfl (fx_read (fun u hu => by have c0 := (hbk.out.2.1.below hu (Nat.le_refl _)).cell 0 rfl; go_simp)) ?_; go_frame
          refine fx (i := 2) (dst := some 16) (v := .bool true) rfl rfl (fx_call hpd.out) ?_; go_frame
          refine fx (i := 3) (dst := some 17) (v := .bool false) rfl rfl (fx_read (fun u hu => by go_simp)) ?_; go_frame
          refine fx (i := 4) (dst := some 18) (v := .bool false) rfl rfl (fx_read (fun u hu => by go_simp)) ?_; go_frame
          refine fx (i := 5) (dst := some 19) (v := .int .i64 ((m + 1 : Nat) : Int)) rfl rfl (fx_read (fun u hu => by go_simp)) ?_; go_frame
          refine fx (i := 6) (dst := some 20) (v := .bool true) rfl rfl (fx_read (fun u hu => by go_simp)) ?_; go_frame
          refine fx (i := 7) (dst := some 21) (v := .bool true) rfl rfl (fx_read (fun u hu => by go_simp)) ?_; go_frame
          refine fx (i := 8) (dst := some 22) (v := .slice (some A) n c) rfl rfl (fx_read (fun u hu => by go_simp)) ?_; go_frame
          refine fx (i := 9) (dst := some 23) (v := .int .i64 ((m + 1 : Nat) : Int)) rfl rfl (fx_read (fun u hu => by go_simp)) ?_; go_frame
          refine fx (i := 10) (dst := some 24) (v := .int .i64 m) rfl rfl (fx_read (fun u hu => by go_simp)) ?_; go_frame
          refine fx (i := 11) (dst := some 25) (v := .pointer (some (A.add (m * 2)))) rfl rfl (fx_read (fun u hu => by go_simp)) ?_; go_frame
          refine fx (i := 12) (dst := some 26) (v := .pointer (some (A.add (m * 2)))) rfl rfl (fx_read (fun u hu => by go_simp)) ?_; go_frame
          refine fx (i := 13) (dst := some 27) (v := .int .i64 a) rfl rfl (fx_read (fun u hu => by have c0 := hpc.out u hu; go_simp)) ?_; go_frame
          refine fx (i := 14) (dst := some 28) (v := .pointer (some ⟨wr.heap.size, 0, none⟩)) rfl rfl (fx_read (fun u hu => by go_simp)) ?_; go_frame
          refine fx (i := 15) (dst := some 29) (v := .int .i64 p) rfl rfl (fx_read (fun u hu => by have c0 := (hbk.out.2.1.below hu (Nat.le_refl _)).cell 0 rfl; go_simp)) ?_; go_frame
          refine fx (i := 16) (dst := some 30) (v := .bool false) rfl rfl (fx_read (fun u hu => by go_simp)) ?_; go_frame
          refine fx (i := 17) (dst := some 31) (v := .bool false) rfl rfl (fx_read (fun u hu => by go_simp)) ?_; go_frame
          refine fx (i := 18) (dst := some 32) (v := .bool false) rfl rfl (fx_read (fun u hu => by go_simp)) ?_; go_frame
          refine fx (i := 19) (dst := some 33) (v := .bool false) rfl rfl (fx_read (fun u hu => by go_simp)) ?_; go_frame
          refine fx (i := 20) (dst := some 34) (v := .pointer (some ⟨wr.heap.size, 1, none⟩)) rfl rfl (fx_read (fun u hu => by go_simp)) ?_; go_frame
          refine fx (i := 21) (dst := some 35) (v := .int .u64 rc) rfl rfl (fx_read (fun u hu => by have c0 := (hbk.out.2.1.below hu (Nat.le_refl _)).cell 1 rfl; go_simp)) ?_; go_frame
          refine fx (i := 22) (dst := some 36) (v := .bool false) rfl rfl (fx_read (fun u hu => by go_simp)) ?_; go_frame
          refine fx (i := 23) (dst := some 37) (v := .bool false) rfl rfl (fx_read (fun u hu => by go_simp)) ?_; go_frame
          refine fx (i := 24) (dst := some 38) (v := .bool false) rfl rfl (fx_read (fun u hu => by go_simp)) ?_; go_frame
          refine fx (i := 25) (dst := some 39) (v := .pointer (some ⟨wr.heap.size, 1, none⟩)) rfl rfl (fx_read (fun u hu => by go_simp)) ?_; go_frame
          refine fx (i := 26) (dst := some 40) (v := .int .u64 rc) rfl rfl (fx_read (fun u hu => by have c0 := (hbk.out.2.1.below hu (Nat.le_refl _)).cell 1 rfl; go_simp)) ?_; go_frame
          refine fx (i := 27) (dst := some 41) (v := .int .u64 lsn) rfl rfl (fx_read (fun u hu => by go_simp)) ?_; go_frame
          refine fx (i := 28) (dst := some 42) (v := .bool true) rfl rfl (fx_read (fun u hu => by go_simp)) ?_; go_frame
          refine fx (i := 29) (dst := some 43) (v := .bool true) rfl rfl (fx_read (fun u hu => by go_simp)) ?_; go_frame
          refine fx_done ?_ (by kernel_rfl) _
          intro w9 h9
          have hE := Lib.hid (below_step h9 hde.out)
          clear h9
          go_wp2_with fail
          go_ret
          exact ⟨by rw [hno.out]; rfl, hE.out⟩
        have d2 : decide (lsn ≤ rc) = false := decide_eq_false h2
        have hq2 : Hid (∀ (i : Nat) d, i < (m + 1) + 1 → L[i]? = some d → pgB lsn d = true) := fun i x hi hxi => by
         rcases Nat.lt_or_ge i (m + 1) with h | h
         · exact hq.out i x h hxi
         · obtain rfl : i = (m + 1) := by omega
           rw [hdx.out] at hxi
           cases hxi
           rw [hpg.out, decide_eq_true (by omega), decide_eq_true (by omega)]; rfl
        go_wp2_with (first
         | (with_reducible refine wpList_load_at rfl 85 (.tmp 12) rfl Tryz.underlying85 rfl hs rfl hcA.out ?_))
        refine wp_region_held (S := fun u => Below we.heap.size we u) (by kernel_rfl) ?_
        try rw [hwe]
        change wpAnyH _ _ _ _ _ _ _ _ (World.drew we)
        refine wpF.held _ _ _ ?_ _ hS0
        refine fx (i := 0) (dst := some 14) (v := .pointer (some ⟨wr.heap.size, 0, none⟩)) rfl rfl (fx_read (fun u hu => by go_simp)) ?_; go_frame
        refine fx (i := 1) (dst := some 15) (v := .int .i64 p) rfl rfl (fx_read (fun u hu => by have c0 := (hbk.out.2.1.below hu (Nat.le_refl _)).cell 0 rfl; go_simp)) ?_; go_frame
        refine fx (i := 2) (dst := some 16) (v := .bool true) rfl rfl (fx_call hpd.out) ?_; go_frame
        refine fx (i := 3) (dst := some 17) (v := .bool false) rfl rfl (fx_read (fun u hu => by go_simp)) ?_; go_frame
        refine fx (i := 4) (dst := some 18) (v := .bool false) rfl rfl (fx_read (fun u hu => by go_simp)) ?_; go_frame
        refine fx (i := 5) (dst := some 19) (v := .int .i64 ((m + 1 : Nat) : Int)) rfl rfl (fx_read (fun u hu => by go_simp)) ?_; go_frame
        refine fx (i := 6) (dst := some 20) (v := .bool true) rfl rfl (fx_read (fun u hu => by go_simp)) ?_; go_frame
        refine fx (i := 7) (dst := some 21) (v := .bool true) rfl rfl (fx_read (fun u hu => by go_simp)) ?_; go_frame
        refine fx (i := 8) (dst := some 22) (v := .slice (some A) n c) rfl rfl (fx_read (fun u hu => by go_simp)) ?_; go_frame
        refine fx (i := 9) (dst := some 23) (v := .int .i64 ((m + 1 : Nat) : Int)) rfl rfl (fx_read (fun u hu => by go_simp)) ?_; go_frame
        refine fx (i := 10) (dst := some 24) (v := .int .i64 m) rfl rfl (fx_read (fun u hu => by go_simp)) ?_; go_frame
        refine fx (i := 11) (dst := some 25) (v := .pointer (some (A.add (m * 2)))) rfl rfl (fx_read (fun u hu => by go_simp)) ?_; go_frame
        refine fx (i := 12) (dst := some 26) (v := .pointer (some (A.add (m * 2)))) rfl rfl (fx_read (fun u hu => by go_simp)) ?_; go_frame
        refine fx (i := 13) (dst := some 27) (v := .int .i64 a) rfl rfl (fx_read (fun u hu => by have c0 := hpc.out u hu; go_simp)) ?_; go_frame
        refine fx (i := 14) (dst := some 28) (v := .pointer (some ⟨wr.heap.size, 0, none⟩)) rfl rfl (fx_read (fun u hu => by go_simp)) ?_; go_frame
        refine fx (i := 15) (dst := some 29) (v := .int .i64 p) rfl rfl (fx_read (fun u hu => by have c0 := (hbk.out.2.1.below hu (Nat.le_refl _)).cell 0 rfl; go_simp)) ?_; go_frame
        refine fx (i := 16) (dst := some 30) (v := .bool false) rfl rfl (fx_read (fun u hu => by go_simp)) ?_; go_frame
        refine fx (i := 17) (dst := some 31) (v := .bool false) rfl rfl (fx_read (fun u hu => by go_simp)) ?_; go_frame
        refine fx (i := 18) (dst := some 32) (v := .bool false) rfl rfl (fx_read (fun u hu => by go_simp)) ?_; go_frame
        refine fx (i := 19) (dst := some 33) (v := .bool false) rfl rfl (fx_read (fun u hu => by go_simp)) ?_; go_frame
        refine fx (i := 20) (dst := some 34) (v := .pointer (some ⟨wr.heap.size, 1, none⟩)) rfl rfl (fx_read (fun u hu => by go_simp)) ?_; go_frame
        refine fx (i := 21) (dst := some 35) (v := .int .u64 rc) rfl rfl (fx_read (fun u hu => by have c0 := (hbk.out.2.1.below hu (Nat.le_refl _)).cell 1 rfl; go_simp)) ?_; go_frame
        refine fx (i := 22) (dst := some 36) (v := .bool false) rfl rfl (fx_read (fun u hu => by go_simp)) ?_; go_frame
        refine fx (i := 23) (dst := some 37) (v := .bool false) rfl rfl (fx_read (fun u hu => by go_simp)) ?_; go_frame
        refine fx (i := 24) (dst := some 38) (v := .bool false) rfl rfl (fx_read (fun u hu => by go_simp)) ?_; go_frame
        refine fx (i := 25) (dst := some 39) (v := .pointer (some ⟨wr.heap.size, 1, none⟩)) rfl rfl (fx_read (fun u hu => by go_simp)) ?_; go_frame
        refine fx (i := 26) (dst := some 40) (v := .int .u64 rc) rfl rfl (fx_read (fun u hu => by have c0 := (hbk.out.2.1.below hu (Nat.le_refl _)).cell 1 rfl; go_simp)) ?_; go_frame
        refine fx (i := 27) (dst := some 41) (v := .int .u64 lsn) rfl rfl (fx_read (fun u hu => by go_simp)) ?_; go_frame
        refine fx (i := 28) (dst := some 42) (v := .bool false) rfl rfl (fx_read (fun u hu => by go_simp)) ?_; go_frame
        refine fx (i := 29) (dst := some 43) (v := .bool false) rfl rfl (fx_read (fun u hu => by go_simp)) ?_; go_frame
        refine fx_done ?_ (by kernel_rfl) _
        intro w9 h9
        have hE := Lib.hid (below_step h9 hde.out)
        clear h9
        go_wp2_with fail
        go_roundw
        case rel => exact ⟨m + 1 + 1, by omega, by go_num, hE, hr2, hq2⟩
        case measure => simp [RowKit.intOf]; omega
  · obtain rfl : n = j := by omega
    obtain ⟨a, _, _, _, har⟩ := hri.out
    have hend : riseF (-1) (L.map (·.page)) = true := by
     rw [har, show n = (L.map (·.page)).length by rw [List.length_map]; exact hLl.out.symm]
     exact riseF_end
    have hR3 : Hid (R = true) := by
     show _ = _
     rw [← hR.out, hend, Bool.and_true]
     exact all_yes fun i x hx => hq.out i x (by have := (List.getElem?_eq_some_iff.1 hx).1; have := hLl.out; omega) hx
    clear har
    go_wp2
    go_ret
    exact ⟨by rw [hR3.out]; rfl, hd.out⟩
end Go.Proofs.YtocekhckmpkbmaaGreat
