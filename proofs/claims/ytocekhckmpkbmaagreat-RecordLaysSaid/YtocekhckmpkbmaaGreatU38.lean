/- The document's record: which images may be. -/
import Derived.Test.YtocekhckmpkbmaaGreatU37
import Derived.Test.YtocekhckmpkbmaaGreatU01
namespace Go.Proofs.YtocekhckmpkbmaaGreat
open Go.RowKit
def imD (b : Bool) (d : ImgD) : Prop := GoodC d.bef ∧ GoodC d.aft ∧ (b = false → d.bef.kind = 0)
def imgsD (b : Bool) (L : List ImgD) : Prop := ImagesOk L ∧ (b = false → ∀ d ∈ L, d.bef.kind = 0)
theorem right_is (k : Int) (rq : Option Addr) (rn rc : Nat) (kq : Option Addr) (kn kc : Nat) (c : ContD) (W w : World) (h : ContOn w k rq rn rc kq kn kc c) (hW : Below W.heap.size W w) (b : Bool) (hb : b = true ↔ GoodC c) :
 Calls Tryz.prog 58 #[.agg #[.int .i64 k, .slice rq rn rc, .slice kq kn kc]] w (fun e w' => e = .returned (.bool b) ∧ Below W.heap.size W w') := by
 refine (right_doc k rq rn rc kq kn kc c w h).mono ?_; rintro e w' ⟨x, rfl, hx, hb'⟩
 have hxb : x = b := by cases x <;> cases b <;> first | rfl | (have h1 := hx.1 rfl; have h2 := hb.2 h1; cases h2) | (have h1 := hb.1 rfl; have h2 := hx.2 h1; cases h2)
 exact ⟨by rw [hxb], below_step hb' hW⟩
set_option maxRecDepth 100000 in
set_option maxHeartbeats 16000000 in
theorem images_doc (q : Option Addr) (n c : Nat) (V : List ImgV) (L : List ImgD) (b : Bool) (w : World) (h : ImgsOn w q n c V L) :
 Calls Tryz.prog 31 #[.slice q n c, .bool b] w (YesNo (imgsD b L) w) := by
 have hh := lh h; have hLl : Hid (L.length = n) := by have h1 := h.len; have h2 := h.on.len; show L.length = n; omega
 have hmax : n ≤ maxLen := Nat.le_trans h.on.le h.on.cap; unfold maxLen at hmax; clear h
 go_enter Tryz.func31, Tryz.ntmps31
 go_wp2
 go_loopw [9] (fun v wr => ∃ j : Nat, j ≤ n ∧ v = .int .i64 j ∧ Hid (Below w.heap.size w wr) ∧ Hid (∃ a : Int, -1 ≤ a ∧ (j = 0 → a = -1) ∧ (∀ m d, j = m + 1 → L[m]? = some d → a = d.page) ∧ riseF (-1) (L.map (·.page)) = riseF a ((L.map (·.page)).drop j)) ∧ Hid (∀ (i : Nat) d, i < j → L[i]? = some d → imD b d)) (fun v _ => n - (RowKit.intOf v).toNat)
 case atStart => exact ⟨0, Nat.zero_le _, rfl, (show Below _ _ _ from Below.refl _ _), (show ∃ a : Int, _ from ⟨-1, by omega, fun _ => rfl, fun m d h => by omega, rfl⟩), fun i x hi => absurd hi (Nat.not_lt_zero _)⟩
 case round =>
  obtain ⟨j, hj, rfl, hd, hri, hq⟩ := hrel
  by_cases hlt : j < n
  · obtain ⟨A, ⟨p, ⟨k1, q1, n1, c1, q2, n2, c2⟩, ⟨k3, q3, n3, c3, q4, n4, c4⟩⟩, d, hqA, hx, hdx, hond, hcA⟩ := (hh.out.below hd.out (Nat.le_refl _)).at (show j < n from hlt); have hcA : Hid (∀ j' x, ([.int .i64 p, .int .i64 k1, .slice q1 n1 c1, .slice q2 n2 c2, .int .i64 k3, .slice q3 n3 c3, .slice q4 n4 c4] : List Value)[j']? = some x → wr.cell? ((A.add (j * 7)).add j') = some x) := hcA; have hs : (Tryz.prog.info? 62).map (·.size) = some ([.int .i64 p, .int .i64 k1, .slice q1 n1 c1, .slice q2 n2 c2, .int .i64 k3, .slice q3 n3 c3, .slice q4 n4 c4] : List Value).length := sizeImg ⟨p, ⟨k1, q1, n1, c1, q2, n2, c2⟩, ⟨k3, q3, n3, c3, q4, n4, c4⟩⟩; have hdx := lh hdx; have hond0 := hond; have hpg : p = d.page := hond.page; have i0 : (0 : Int) ≤ j := by omega
    have i1 : (j : Int) < n := by omega
    clear hx hond; obtain ⟨we, hwe⟩ : ∃ x, wr.alloc (.cells #[.int .i64 p, .int .i64 k1, .slice q1 n1 c1, .slice q2 n2 c2, .int .i64 k3, .slice q3 n3 c3, .slice q4 n4 c4] 62) = x := ⟨_, rfl⟩; have hbk := lh (one_box hwe); have hde := lh (below_step hbk.out.1 hd.out); have hond := lh (hond0.below hbk.out.1 (Nat.le_refl _)); obtain ⟨a, ha1, ha2, ha3, har⟩ := hri.out; have hdm : (L.map (·.page))[j]? = some d.page := by rw [List.getElem?_map, hdx.out]; rfl
    rw [riseF_at hdm, ← hpg] at har; replace har := lh har; replace hpg := lh hpg
    have f1 : Hid (∀ u, Below we.heap.size we u → ∀ j' x, ([.int .i64 k1, .slice q1 n1 c1, .slice q2 n2 c2] : List Value)[j']? = some x → u.cell? ((⟨wr.heap.size, 1, none⟩ : Addr).add j') = some x) := fun u hu => Boxed.part (hbk.out.2.1.below hu (Nat.le_refl _)) (o := 1) (ys := [.int .i64 k1, .slice q1 n1 c1, .slice q2 n2 c2]) (fun j' x hj => by
     match j', hj with
     | 0, hj => exact hj
     | 1, hj => exact hj
     | 2, hj => exact hj
     | j' + 3, hj => simp at hj)
    have f4 : Hid (∀ u, Below we.heap.size we u → ∀ j' x, ([.int .i64 k3, .slice q3 n3 c3, .slice q4 n4 c4] : List Value)[j']? = some x → u.cell? ((⟨wr.heap.size, 4, none⟩ : Addr).add j') = some x) := fun u hu => Boxed.part (hbk.out.2.1.below hu (Nat.le_refl _)) (o := 4) (ys := [.int .i64 k3, .slice q3 n3 c3, .slice q4 n4 c4]) (fun j' x hj => by
     match j', hj with
     | 0, hj => exact hj
     | 1, hj => exact hj
     | 2, hj => exact hj
     | j' + 3, hj => simp at hj)
    have z1 := sizeCont (.int .i64 k1) (.slice q1 n1 c1) (.slice q2 n2 c2); have z3 := sizeCont (.int .i64 k3) (.slice q3 n3 c3) (.slice q4 n4 c4); obtain ⟨G1, hG1⟩ := bool_of (GoodC d.bef); obtain ⟨G3, hG3⟩ := bool_of (GoodC d.aft); have hG1' := lh hG1; have hG3' := lh hG3; clear hG1 hG3; have r1 : Hid (∀ u, Below we.heap.size we u → Calls Tryz.prog 58 #[.agg #[.int .i64 k1, .slice q1 n1 c1, .slice q2 n2 c2]] u (fun e w' => e = .returned (.bool G1) ∧ Below we.heap.size we w')) := fun u hu => right_is k1 q1 n1 c1 q2 n2 c2 d.bef we u (ContOn.below hond.out.bef hu (Nat.le_refl _)) hu G1 hG1'.out
    have r3 : Hid (∀ u, Below we.heap.size we u → Calls Tryz.prog 58 #[.agg #[.int .i64 k3, .slice q3 n3 c3, .slice q4 n4 c4]] u (fun e w' => e = .returned (.bool G3) ∧ Below we.heap.size we w')) := fun u hu => right_is k3 q3 n3 c3 q4 n4 c4 d.aft we u (ContOn.below hond.out.aft hu (Nat.le_refl _)) hu G3 hG3'.out
    have hpd : ∀ u, Below we.heap.size we u → Calls Tryz.prog 57 #[.int .i64 p] u (fun e w' => e = .returned (.bool (pageB p)) ∧ Below we.heap.size we w') := fun u hu => by refine (page_doc p u).mono ?_; rintro e w' ⟨rfl, rfl⟩; exact ⟨rfl, hu⟩
    have hkd : k1 = d.bef.kind := hond.out.bef.kind; replace hkd := lh hkd; obtain ⟨PB, hPB⟩ : ∃ P, pageB p = P := ⟨_, rfl⟩; rw [hPB] at hpd; replace hpd := lh hpd; have hS0 : Below we.heap.size we we.drew := below_drew we; clear hond0 hdm; cases j with
    | zero =>
      subst hqA; have ha9 := ha2 rfl; have iz : decide ((0 : Int) < ((0 : Nat) : Int)) = false := rfl; cases PB with
      | false =>
        have hno : Hid (¬ imgsD b L) := fun h => by
         have h1 := h.1.1.2; rw [har.out] at h1; have h2 : p ≤ a ∨ 64 ≤ p := by unfold pageB at hPB; simp only [Bool.and_eq_false_iff, decide_eq_false_iff_not] at hPB; omega
         rw [if_pos h2] at h1; cases h1
        clear hPB
        go_wp2_with (first
         | (with_reducible refine wpList_load_at rfl 62 (.tmp 12) rfl Tryz.underlying62 rfl hs rfl hcA.out ?_))
        refine wp_region_held (S := fun u => Below we.heap.size we u) (by kernel_rfl) ?_
        try rw [hwe]
        change wpAnyH _ _ _ _ _ _ _ _ (World.drew we); refine wpF.held _ _ _ ?_ _ hS0; refine fg 0 14 (.pointer (some ⟨wr.heap.size, 0, none⟩)) ?_; go_frame; refine fh 1 15 (.int .i64 p) rfl (fx_read (fun u hu => by have c0 := (hbk.out.2.1.below hu (Nat.le_refl _)).cell 0 rfl; go_simp)) ?_; go_frame; refine fh 2 16 (.bool false) rfl (fx_call hpd.out) ?_; go_frame; refine fg 3 17 (.bool true) ?_; go_frame; refine fg 4 18 (.bool true) ?_; go_frame; refine fu 5 19 ?_; go_frame; refine fu 6 20 ?_; go_frame; refine fu 7 21 ?_; go_frame; refine fu 8 22 ?_; go_frame; refine fu 9 23 ?_; go_frame; refine fu 10 24 ?_; go_frame; refine fu 11 25 ?_; go_frame; refine fu 12 26 ?_; go_frame; refine fu 13 27 ?_; go_frame; refine fu 14 28 ?_; go_frame; refine fu 15 29 ?_; go_frame; refine fu 16 30 ?_; go_frame; refine fu 17 31 ?_; go_frame; refine fg 18 32 (.bool true) ?_; go_frame; refine fg 19 33 (.bool true) ?_; go_frame
        refine fu 20 34 ?_; go_frame; refine fu 21 35 ?_; go_frame; refine fu 22 36 ?_; go_frame; refine fu 23 37 ?_; go_frame; refine fg 24 38 (.bool true) ?_; go_frame; refine fg 25 39 (.bool true) ?_; go_frame; refine fu 26 40 ?_; go_frame; refine fu 27 41 ?_; go_frame; refine fu 28 42 ?_; go_frame; refine fu 29 43 ?_; go_frame; refine fg 30 44 (.bool true) ?_; go_frame; refine fg 31 45 (.bool true) ?_; go_frame; refine fu 32 46 ?_; go_frame; refine fu 33 47 ?_; go_frame; refine fu 34 48 ?_; go_frame; refine fu 35 49 ?_; go_frame; refine fu 36 50 ?_; go_frame; refine fu 37 51 ?_; go_frame; refine fu 38 52 ?_; go_frame; refine fu 39 53 ?_; go_frame; refine fg 40 54 (.bool true) ?_; go_frame; refine fx_done ?_ (by kernel_rfl) _; intro w9 h9; have hE := lh (below_step h9 hde.out); clear h9
        go_wp2_with fail
        go_ret; exact ⟨false, rfl, ⟨fun h => (by cases h), fun h => absurd h hno.out⟩, hE.out⟩
      | true =>
        have hp64 : 0 ≤ p ∧ p < 64 := by unfold pageB at hPB; simpa using hPB
        clear hPB; have hge : ¬ p ≤ a := by have h1 := ha2 rfl; omega
        have hr2 : Hid (∃ a : Int, -1 ≤ a ∧ (0 + 1 = 0 → a = -1) ∧ (∀ m2 d, 0 + 1 = m2 + 1 → L[m2]? = some d → a = d.page) ∧ riseF (-1) (L.map (·.page)) = riseF a ((L.map (·.page)).drop (0 + 1))) := ⟨p, by omega, fun h => by omega, fun m2 d' h1 h2 => (by have hm : m2 = 0 := (by omega); subst hm; rw [hdx.out] at h2; cases h2; exact hpg.out), by rw [har.out, if_neg (by omega)]⟩; cases G3 with
        | false =>
          have hno : Hid (¬ imgsD b L) := fun h => by have h1 := hG3'.out.2 (h.1.2 d (List.mem_of_getElem? hdx.out)).2; cases h1
          go_wp2_with (first
           | (with_reducible refine wpList_load_at rfl 62 (.tmp 12) rfl Tryz.underlying62 rfl hs rfl hcA.out ?_))
          refine wp_region_held (S := fun u => Below we.heap.size we u) (by kernel_rfl) ?_
          try rw [hwe]
          change wpAnyH _ _ _ _ _ _ _ _ (World.drew we); refine wpF.held _ _ _ ?_ _ hS0; refine fg 0 14 (.pointer (some ⟨wr.heap.size, 0, none⟩)) ?_; go_frame; refine fh 1 15 (.int .i64 p) rfl (fx_read (fun u hu => by have c0 := (hbk.out.2.1.below hu (Nat.le_refl _)).cell 0 rfl; go_simp)) ?_; go_frame; refine fh 2 16 (.bool true) rfl (fx_call hpd.out) ?_; go_frame; refine fg 3 17 (.bool false) ?_; go_frame; refine fg 4 18 (.bool false) ?_; go_frame; refine fg 5 19 (.int .i64 0) ?_; go_frame; refine fg 6 20 (.bool false) ?_; go_frame; refine fg 7 21 (.bool false) ?_; go_frame; refine fu 8 22 ?_; go_frame; refine fu 9 23 ?_; go_frame; refine fu 10 24 ?_; go_frame; refine fu 11 25 ?_; go_frame; refine fu 12 26 ?_; go_frame; refine fu 13 27 ?_; go_frame; refine fu 14 28 ?_; go_frame; refine fu 15 29 ?_; go_frame; refine fu 16 30 ?_; go_frame; refine fg 17 31 (.bool false) ?_; go_frame; refine fg 18 32 (.bool false) ?_; go_frame
          refine fg 19 33 (.bool false) ?_; go_frame; refine fg 20 34 (.pointer (some ⟨wr.heap.size, 4, none⟩)) ?_; go_frame; refine fh 21 35 (.agg #[.int .i64 k3, .slice q3 n3 c3, .slice q4 n4 c4]) rfl (fx_load 55 (.tmp 34) (fun u hu => run_loadVar_at Tryz.underlying55 rfl z3 _ (f4.out u hu))) ?_; go_frame; refine fh 22 36 (.bool false) rfl (fx_call r3.out) ?_; go_frame; refine fg 23 37 (.bool true) ?_; go_frame; refine fg 24 38 (.bool true) ?_; go_frame; refine fg 25 39 (.bool true) ?_; go_frame; refine fu 26 40 ?_; go_frame; refine fu 27 41 ?_; go_frame; refine fu 28 42 ?_; go_frame; refine fu 29 43 ?_; go_frame; refine fg 30 44 (.bool true) ?_; go_frame; refine fg 31 45 (.bool true) ?_; go_frame; refine fu 32 46 ?_; go_frame; refine fu 33 47 ?_; go_frame; refine fu 34 48 ?_; go_frame; refine fu 35 49 ?_; go_frame; refine fu 36 50 ?_; go_frame; refine fu 37 51 ?_; go_frame; refine fu 38 52 ?_; go_frame
          refine fu 39 53 ?_; go_frame; refine fg 40 54 (.bool true) ?_; go_frame; refine fx_done ?_ (by kernel_rfl) _; intro w9 h9; have hE := lh (below_step h9 hde.out); clear h9
          go_wp2_with fail
          go_ret; exact ⟨false, rfl, ⟨fun h => (by cases h), fun h => absurd h hno.out⟩, hE.out⟩
        | true =>
          cases G1 with
          | false =>
            have hno : Hid (¬ imgsD b L) := fun h => by have h1 := hG1'.out.2 (h.1.2 d (List.mem_of_getElem? hdx.out)).1; cases h1
            go_wp2_with (first
             | (with_reducible refine wpList_load_at rfl 62 (.tmp 12) rfl Tryz.underlying62 rfl hs rfl hcA.out ?_))
            refine wp_region_held (S := fun u => Below we.heap.size we u) (by kernel_rfl) ?_
            try rw [hwe]
            change wpAnyH _ _ _ _ _ _ _ _ (World.drew we); refine wpF.held _ _ _ ?_ _ hS0; refine fg 0 14 (.pointer (some ⟨wr.heap.size, 0, none⟩)) ?_; go_frame; refine fh 1 15 (.int .i64 p) rfl (fx_read (fun u hu => by have c0 := (hbk.out.2.1.below hu (Nat.le_refl _)).cell 0 rfl; go_simp)) ?_; go_frame; refine fh 2 16 (.bool true) rfl (fx_call hpd.out) ?_; go_frame; refine fg 3 17 (.bool false) ?_; go_frame; refine fg 4 18 (.bool false) ?_; go_frame; refine fg 5 19 (.int .i64 0) ?_; go_frame; refine fg 6 20 (.bool false) ?_; go_frame; refine fg 7 21 (.bool false) ?_; go_frame; refine fu 8 22 ?_; go_frame; refine fu 9 23 ?_; go_frame; refine fu 10 24 ?_; go_frame; refine fu 11 25 ?_; go_frame; refine fu 12 26 ?_; go_frame; refine fu 13 27 ?_; go_frame; refine fu 14 28 ?_; go_frame; refine fu 15 29 ?_; go_frame; refine fu 16 30 ?_; go_frame; refine fg 17 31 (.bool false) ?_; go_frame; refine fg 18 32 (.bool false) ?_; go_frame
            refine fg 19 33 (.bool false) ?_; go_frame; refine fg 20 34 (.pointer (some ⟨wr.heap.size, 4, none⟩)) ?_; go_frame; refine fh 21 35 (.agg #[.int .i64 k3, .slice q3 n3 c3, .slice q4 n4 c4]) rfl (fx_load 55 (.tmp 34) (fun u hu => run_loadVar_at Tryz.underlying55 rfl z3 _ (f4.out u hu))) ?_; go_frame; refine fh 22 36 (.bool true) rfl (fx_call r3.out) ?_; go_frame; refine fg 23 37 (.bool false) ?_; go_frame; refine fg 24 38 (.bool false) ?_; go_frame; refine fg 25 39 (.bool false) ?_; go_frame; refine fg 26 40 (.pointer (some ⟨wr.heap.size, 1, none⟩)) ?_; go_frame; refine fh 27 41 (.agg #[.int .i64 k1, .slice q1 n1 c1, .slice q2 n2 c2]) rfl (fx_load 55 (.tmp 40) (fun u hu => run_loadVar_at Tryz.underlying55 rfl z1 _ (f1.out u hu))) ?_; go_frame; refine fh 28 42 (.bool false) rfl (fx_call r1.out) ?_; go_frame; refine fg 29 43 (.bool true) ?_; go_frame; refine fg 30 44 (.bool true) ?_; go_frame
            refine fg 31 45 (.bool true) ?_; go_frame; refine fu 32 46 ?_; go_frame; refine fu 33 47 ?_; go_frame; refine fu 34 48 ?_; go_frame; refine fu 35 49 ?_; go_frame; refine fu 36 50 ?_; go_frame; refine fu 37 51 ?_; go_frame; refine fu 38 52 ?_; go_frame; refine fu 39 53 ?_; go_frame; refine fg 40 54 (.bool true) ?_; go_frame; refine fx_done ?_ (by kernel_rfl) _; intro w9 h9; have hE := lh (below_step h9 hde.out); clear h9
            go_wp2_with fail
            go_ret; exact ⟨false, rfl, ⟨fun h => (by cases h), fun h => absurd h hno.out⟩, hE.out⟩
          | true =>
            cases b with
            | false =>
              by_cases hk0 : k1 = 0
              rotate_left
              · have hkb : (k1 != 0) = true := by simpa using hk0
                have hno : Hid (¬ imgsD false L) := fun h => hk0 (by rw [hkd.out]; exact h.2 rfl d (List.mem_of_getElem? hdx.out))
                replace hk0 := lh hk0
                go_wp2_with (first
                 | (with_reducible refine wpList_load_at rfl 62 (.tmp 12) rfl Tryz.underlying62 rfl hs rfl hcA.out ?_))
                refine wp_region_held (S := fun u => Below we.heap.size we u) (by kernel_rfl) ?_
                try rw [hwe]
                change wpAnyH _ _ _ _ _ _ _ _ (World.drew we); refine wpF.held _ _ _ ?_ _ hS0; refine fg 0 14 (.pointer (some ⟨wr.heap.size, 0, none⟩)) ?_; go_frame; refine fh 1 15 (.int .i64 p) rfl (fx_read (fun u hu => by have c0 := (hbk.out.2.1.below hu (Nat.le_refl _)).cell 0 rfl; go_simp)) ?_; go_frame; refine fh 2 16 (.bool true) rfl (fx_call hpd.out) ?_; go_frame; refine fg 3 17 (.bool false) ?_; go_frame; refine fg 4 18 (.bool false) ?_; go_frame; refine fg 5 19 (.int .i64 0) ?_; go_frame; refine fg 6 20 (.bool false) ?_; go_frame; refine fg 7 21 (.bool false) ?_; go_frame; refine fu 8 22 ?_; go_frame; refine fu 9 23 ?_; go_frame; refine fu 10 24 ?_; go_frame; refine fu 11 25 ?_; go_frame; refine fu 12 26 ?_; go_frame; refine fu 13 27 ?_; go_frame; refine fu 14 28 ?_; go_frame; refine fu 15 29 ?_; go_frame; refine fu 16 30 ?_; go_frame; refine fg 17 31 (.bool false) ?_; go_frame; refine fg 18 32 (.bool false) ?_; go_frame
                refine fg 19 33 (.bool false) ?_; go_frame; refine fg 20 34 (.pointer (some ⟨wr.heap.size, 4, none⟩)) ?_; go_frame; refine fh 21 35 (.agg #[.int .i64 k3, .slice q3 n3 c3, .slice q4 n4 c4]) rfl (fx_load 55 (.tmp 34) (fun u hu => run_loadVar_at Tryz.underlying55 rfl z3 _ (f4.out u hu))) ?_; go_frame; refine fh 22 36 (.bool true) rfl (fx_call r3.out) ?_; go_frame; refine fg 23 37 (.bool false) ?_; go_frame; refine fg 24 38 (.bool false) ?_; go_frame; refine fg 25 39 (.bool false) ?_; go_frame; refine fg 26 40 (.pointer (some ⟨wr.heap.size, 1, none⟩)) ?_; go_frame; refine fh 27 41 (.agg #[.int .i64 k1, .slice q1 n1 c1, .slice q2 n2 c2]) rfl (fx_load 55 (.tmp 40) (fun u hu => run_loadVar_at Tryz.underlying55 rfl z1 _ (f1.out u hu))) ?_; go_frame; refine fh 28 42 (.bool true) rfl (fx_call r1.out) ?_; go_frame; refine fg 29 43 (.bool false) ?_; go_frame; refine fg 30 44 (.bool false) ?_; go_frame
                refine fg 31 45 (.bool false) ?_; go_frame; refine fg 32 46 (.bool false) ?_; go_frame; refine fg 33 47 (.bool true) ?_; go_frame; refine fg 34 48 (.bool true) ?_; go_frame; refine fg 35 49 (.pointer (some ⟨wr.heap.size, 1, none⟩)) ?_; go_frame; refine fg 36 50 (.pointer (some ⟨wr.heap.size, 1, none⟩)) ?_; go_frame; refine fh 37 51 (.int .i64 k1) rfl (fx_read (fun u hu => by have c0 := (hbk.out.2.1.below hu (Nat.le_refl _)).cell 1 rfl; go_simp)) ?_; go_frame; refine fg 38 52 (.bool true) ?_; go_frame; refine fg 39 53 (.bool true) ?_; go_frame; refine fg 40 54 (.bool true) ?_; go_frame; refine fx_done ?_ (by kernel_rfl) _; intro w9 h9; have hE := lh (below_step h9 hde.out); clear h9
                go_wp2_with fail
                go_ret; exact ⟨false, rfl, ⟨fun h => (by cases h), fun h => absurd h hno.out⟩, hE.out⟩
              have hkb : (k1 != 0) = false := by simpa using hk0
              have hq2 : Hid (∀ (i : Nat) d, i < 0 + 1 → L[i]? = some d → imD false d) := fun i x hi hxi => by
               rcases Nat.lt_or_ge i 0 with h | h
               · exact hq.out i x h hxi
               · obtain rfl : i = 0 := by omega
                 rw [hdx.out] at hxi; cases hxi; exact ⟨hG1'.out.1 rfl, hG3'.out.1 rfl, fun _ => by rw [← hkd.out]; exact hk0⟩
              replace hk0 := lh hk0
              go_wp2_with (first
               | (with_reducible refine wpList_load_at rfl 62 (.tmp 12) rfl Tryz.underlying62 rfl hs rfl hcA.out ?_))
              refine wp_region_held (S := fun u => Below we.heap.size we u) (by kernel_rfl) ?_
              try rw [hwe]
              change wpAnyH _ _ _ _ _ _ _ _ (World.drew we); refine wpF.held _ _ _ ?_ _ hS0; refine fg 0 14 (.pointer (some ⟨wr.heap.size, 0, none⟩)) ?_; go_frame; refine fh 1 15 (.int .i64 p) rfl (fx_read (fun u hu => by have c0 := (hbk.out.2.1.below hu (Nat.le_refl _)).cell 0 rfl; go_simp)) ?_; go_frame; refine fh 2 16 (.bool true) rfl (fx_call hpd.out) ?_; go_frame; refine fg 3 17 (.bool false) ?_; go_frame; refine fg 4 18 (.bool false) ?_; go_frame; refine fg 5 19 (.int .i64 0) ?_; go_frame; refine fg 6 20 (.bool false) ?_; go_frame; refine fg 7 21 (.bool false) ?_; go_frame; refine fu 8 22 ?_; go_frame; refine fu 9 23 ?_; go_frame; refine fu 10 24 ?_; go_frame; refine fu 11 25 ?_; go_frame; refine fu 12 26 ?_; go_frame; refine fu 13 27 ?_; go_frame; refine fu 14 28 ?_; go_frame; refine fu 15 29 ?_; go_frame; refine fu 16 30 ?_; go_frame; refine fg 17 31 (.bool false) ?_; go_frame; refine fg 18 32 (.bool false) ?_; go_frame
              refine fg 19 33 (.bool false) ?_; go_frame; refine fg 20 34 (.pointer (some ⟨wr.heap.size, 4, none⟩)) ?_; go_frame; refine fh 21 35 (.agg #[.int .i64 k3, .slice q3 n3 c3, .slice q4 n4 c4]) rfl (fx_load 55 (.tmp 34) (fun u hu => run_loadVar_at Tryz.underlying55 rfl z3 _ (f4.out u hu))) ?_; go_frame; refine fh 22 36 (.bool true) rfl (fx_call r3.out) ?_; go_frame; refine fg 23 37 (.bool false) ?_; go_frame; refine fg 24 38 (.bool false) ?_; go_frame; refine fg 25 39 (.bool false) ?_; go_frame; refine fg 26 40 (.pointer (some ⟨wr.heap.size, 1, none⟩)) ?_; go_frame; refine fh 27 41 (.agg #[.int .i64 k1, .slice q1 n1 c1, .slice q2 n2 c2]) rfl (fx_load 55 (.tmp 40) (fun u hu => run_loadVar_at Tryz.underlying55 rfl z1 _ (f1.out u hu))) ?_; go_frame; refine fh 28 42 (.bool true) rfl (fx_call r1.out) ?_; go_frame; refine fg 29 43 (.bool false) ?_; go_frame; refine fg 30 44 (.bool false) ?_; go_frame
              refine fg 31 45 (.bool false) ?_; go_frame; refine fg 32 46 (.bool false) ?_; go_frame; refine fg 33 47 (.bool true) ?_; go_frame; refine fg 34 48 (.bool true) ?_; go_frame; refine fg 35 49 (.pointer (some ⟨wr.heap.size, 1, none⟩)) ?_; go_frame; refine fg 36 50 (.pointer (some ⟨wr.heap.size, 1, none⟩)) ?_; go_frame; refine fh 37 51 (.int .i64 k1) rfl (fx_read (fun u hu => by have c0 := (hbk.out.2.1.below hu (Nat.le_refl _)).cell 1 rfl; go_simp)) ?_; go_frame; refine fg 38 52 (.bool false) ?_; go_frame; refine fg 39 53 (.bool false) ?_; go_frame; refine fg 40 54 (.bool false) ?_; go_frame; refine fx_done ?_ (by kernel_rfl) _; intro w9 h9; have hE := lh (below_step h9 hde.out); clear h9
              go_wp2_with fail
              go_roundw
              case rel => exact ⟨0 + 1, by omega, by go_num, hE, hr2, hq2⟩
              case measure => simp [RowKit.intOf]; omega
            | true =>
              have hq2 : Hid (∀ (i : Nat) d, i < 0 + 1 → L[i]? = some d → imD true d) := fun i x hi hxi => by
               rcases Nat.lt_or_ge i 0 with h | h
               · exact hq.out i x h hxi
               · obtain rfl : i = 0 := by omega
                 rw [hdx.out] at hxi; cases hxi; exact ⟨hG1'.out.1 rfl, hG3'.out.1 rfl, fun h => by cases h⟩
              go_wp2_with (first
               | (with_reducible refine wpList_load_at rfl 62 (.tmp 12) rfl Tryz.underlying62 rfl hs rfl hcA.out ?_))
              refine wp_region_held (S := fun u => Below we.heap.size we u) (by kernel_rfl) ?_
              try rw [hwe]
              change wpAnyH _ _ _ _ _ _ _ _ (World.drew we); refine wpF.held _ _ _ ?_ _ hS0; refine fg 0 14 (.pointer (some ⟨wr.heap.size, 0, none⟩)) ?_; go_frame; refine fh 1 15 (.int .i64 p) rfl (fx_read (fun u hu => by have c0 := (hbk.out.2.1.below hu (Nat.le_refl _)).cell 0 rfl; go_simp)) ?_; go_frame; refine fh 2 16 (.bool true) rfl (fx_call hpd.out) ?_; go_frame; refine fg 3 17 (.bool false) ?_; go_frame; refine fg 4 18 (.bool false) ?_; go_frame; refine fg 5 19 (.int .i64 0) ?_; go_frame; refine fg 6 20 (.bool false) ?_; go_frame; refine fg 7 21 (.bool false) ?_; go_frame; refine fu 8 22 ?_; go_frame; refine fu 9 23 ?_; go_frame; refine fu 10 24 ?_; go_frame; refine fu 11 25 ?_; go_frame; refine fu 12 26 ?_; go_frame; refine fu 13 27 ?_; go_frame; refine fu 14 28 ?_; go_frame; refine fu 15 29 ?_; go_frame; refine fu 16 30 ?_; go_frame; refine fg 17 31 (.bool false) ?_; go_frame; refine fg 18 32 (.bool false) ?_; go_frame
              refine fg 19 33 (.bool false) ?_; go_frame; refine fg 20 34 (.pointer (some ⟨wr.heap.size, 4, none⟩)) ?_; go_frame; refine fh 21 35 (.agg #[.int .i64 k3, .slice q3 n3 c3, .slice q4 n4 c4]) rfl (fx_load 55 (.tmp 34) (fun u hu => run_loadVar_at Tryz.underlying55 rfl z3 _ (f4.out u hu))) ?_; go_frame; refine fh 22 36 (.bool true) rfl (fx_call r3.out) ?_; go_frame; refine fg 23 37 (.bool false) ?_; go_frame; refine fg 24 38 (.bool false) ?_; go_frame; refine fg 25 39 (.bool false) ?_; go_frame; refine fg 26 40 (.pointer (some ⟨wr.heap.size, 1, none⟩)) ?_; go_frame; refine fh 27 41 (.agg #[.int .i64 k1, .slice q1 n1 c1, .slice q2 n2 c2]) rfl (fx_load 55 (.tmp 40) (fun u hu => run_loadVar_at Tryz.underlying55 rfl z1 _ (f1.out u hu))) ?_; go_frame; refine fh 28 42 (.bool true) rfl (fx_call r1.out) ?_; go_frame; refine fg 29 43 (.bool false) ?_; go_frame; refine fg 30 44 (.bool false) ?_; go_frame
              refine fg 31 45 (.bool false) ?_; go_frame; refine fg 32 46 (.bool true) ?_; go_frame; refine fg 33 47 (.bool false) ?_; go_frame; refine fg 34 48 (.bool false) ?_; go_frame; refine fu 35 49 ?_; go_frame; refine fu 36 50 ?_; go_frame; refine fu 37 51 ?_; go_frame; refine fu 38 52 ?_; go_frame; refine fg 39 53 (.bool false) ?_; go_frame; refine fg 40 54 (.bool false) ?_; go_frame; refine fx_done ?_ (by kernel_rfl) _; intro w9 h9; have hE := lh (below_step h9 hde.out); clear h9
              go_wp2_with fail
              go_roundw
              case rel => exact ⟨0 + 1, by omega, by go_num, hE, hr2, hq2⟩
              case measure => simp [RowKit.intOf]; omega
    | succ m =>
      obtain ⟨A', ⟨p', ⟨k1', q1', n1', c1', q2', n2', c2'⟩, ⟨k3', q3', n3', c3', q4', n4', c4'⟩⟩, d', hqA', hx', hdx', hond', hc'⟩ := (hh.out.below hde.out (Nat.le_refl _)).at (show m < n by omega); subst hqA; cases hqA'
      have hpc : Hid (∀ u, Below we.heap.size we u → u.cell? (A.add (m * 7)) = some (.int .i64 a)) := fun u hu => by
       have h1 := cell_keeps hu (Nat.le_refl _) (hc' 0 _ rfl); have h2 : p' = a := by rw [ha3 m d' rfl hdx']; exact hond'.page
       rw [← h2]
       rwa [show ((A.add (m * 7)).add 0) = A.add (m * 7) from by simp [add_zero]] at h1
      clear hx' hdx' hond' hc'; have w0 : IntKind.i64.wrap (((m + 1 : Nat) : Int) - 1) = m := by rw [show ((m + 1 : Nat) : Int) - 1 = m by omega]; exact IntWalk.i64_in (m : Int) (by omega)
      have w0' : IntKind.i64.wrap ((m : Int) + 1 - 1) = m := by rw [Int.add_sub_cancel]; exact IntWalk.i64_in (m : Int) (by omega)
      have w1' : IntKind.i64.wrap (m : Int) = m := IntWalk.i64_in (m : Int) (by omega); have j0 : (0 : Int) ≤ m := by omega
      have j1 : (m : Int) < n := by omega
      have j2 : (0 : Int) < (m : Int) + 1 := by omega
      have j3 : decide ((0 : Int) < (m : Int) + 1) = true := decide_eq_true j2; cases PB with
      | false =>
        have hno : Hid (¬ imgsD b L) := fun h => by
         have h1 := h.1.1.2; rw [har.out] at h1; have h2 : p ≤ a ∨ 64 ≤ p := by unfold pageB at hPB; simp only [Bool.and_eq_false_iff, decide_eq_false_iff_not] at hPB; omega
         rw [if_pos h2] at h1; cases h1
        clear hPB
        go_wp2_with (first
         | (with_reducible refine wpList_load_at rfl 62 (.tmp 12) rfl Tryz.underlying62 rfl hs rfl hcA.out ?_))
        refine wp_region_held (S := fun u => Below we.heap.size we u) (by kernel_rfl) ?_
        try rw [hwe]
        change wpAnyH _ _ _ _ _ _ _ _ (World.drew we); refine wpF.held _ _ _ ?_ _ hS0; refine fg 0 14 (.pointer (some ⟨wr.heap.size, 0, none⟩)) ?_; go_frame; refine fh 1 15 (.int .i64 p) rfl (fx_read (fun u hu => by have c0 := (hbk.out.2.1.below hu (Nat.le_refl _)).cell 0 rfl; go_simp)) ?_; go_frame; refine fh 2 16 (.bool false) rfl (fx_call hpd.out) ?_; go_frame; refine fg 3 17 (.bool true) ?_; go_frame; refine fg 4 18 (.bool true) ?_; go_frame; refine fu 5 19 ?_; go_frame; refine fu 6 20 ?_; go_frame; refine fu 7 21 ?_; go_frame; refine fu 8 22 ?_; go_frame; refine fu 9 23 ?_; go_frame; refine fu 10 24 ?_; go_frame; refine fu 11 25 ?_; go_frame; refine fu 12 26 ?_; go_frame; refine fu 13 27 ?_; go_frame; refine fu 14 28 ?_; go_frame; refine fu 15 29 ?_; go_frame; refine fu 16 30 ?_; go_frame; refine fu 17 31 ?_; go_frame; refine fg 18 32 (.bool true) ?_; go_frame; refine fg 19 33 (.bool true) ?_; go_frame
        refine fu 20 34 ?_; go_frame; refine fu 21 35 ?_; go_frame; refine fu 22 36 ?_; go_frame; refine fu 23 37 ?_; go_frame; refine fg 24 38 (.bool true) ?_; go_frame; refine fg 25 39 (.bool true) ?_; go_frame; refine fu 26 40 ?_; go_frame; refine fu 27 41 ?_; go_frame; refine fu 28 42 ?_; go_frame; refine fu 29 43 ?_; go_frame; refine fg 30 44 (.bool true) ?_; go_frame; refine fg 31 45 (.bool true) ?_; go_frame; refine fu 32 46 ?_; go_frame; refine fu 33 47 ?_; go_frame; refine fu 34 48 ?_; go_frame; refine fu 35 49 ?_; go_frame; refine fu 36 50 ?_; go_frame; refine fu 37 51 ?_; go_frame; refine fu 38 52 ?_; go_frame; refine fu 39 53 ?_; go_frame; refine fg 40 54 (.bool true) ?_; go_frame; refine fx_done ?_ (by kernel_rfl) _; intro w9 h9; have hE := lh (below_step h9 hde.out); clear h9
        go_wp2_with fail
        go_ret; exact ⟨false, rfl, ⟨fun h => (by cases h), fun h => absurd h hno.out⟩, hE.out⟩
      | true =>
        have hp64 : 0 ≤ p ∧ p < 64 := by unfold pageB at hPB; simpa using hPB
        clear hPB
        by_cases hge : p ≤ a
        · have hdg : decide (p ≤ a) = true := decide_eq_true hge; have hno : Hid (¬ imgsD b L) := fun h => by have h1 := h.1.1.2; rw [har.out, if_pos (.inl hge)] at h1; cases h1
          go_wp2_with (first
           | (with_reducible refine wpList_load_at rfl 62 (.tmp 12) rfl Tryz.underlying62 rfl hs rfl hcA.out ?_))
          refine wp_region_held (S := fun u => Below we.heap.size we u) (by kernel_rfl) ?_
          try rw [hwe]
          change wpAnyH _ _ _ _ _ _ _ _ (World.drew we); refine wpF.held _ _ _ ?_ _ hS0; refine fg 0 14 (.pointer (some ⟨wr.heap.size, 0, none⟩)) ?_; go_frame; refine fh 1 15 (.int .i64 p) rfl (fx_read (fun u hu => by have c0 := (hbk.out.2.1.below hu (Nat.le_refl _)).cell 0 rfl; go_simp)) ?_; go_frame; refine fh 2 16 (.bool true) rfl (fx_call hpd.out) ?_; go_frame; refine fg 3 17 (.bool false) ?_; go_frame; refine fg 4 18 (.bool false) ?_; go_frame; refine fg 5 19 (.int .i64 ((m + 1 : Nat) : Int)) ?_; go_frame; refine fg 6 20 (.bool true) ?_; go_frame; refine fg 7 21 (.bool true) ?_; go_frame; refine fg 8 22 (.slice (some A) n c) ?_; go_frame; refine fg 9 23 (.int .i64 ((m + 1 : Nat) : Int)) ?_; go_frame; refine fg 10 24 (.int .i64 m) ?_; go_frame; refine fg 11 25 (.pointer (some (A.add (m * 7)))) ?_; go_frame; refine fg 12 26 (.pointer (some (A.add (m * 7)))) ?_; go_frame; refine fh 13 27 (.int .i64 a) rfl (fx_read (fun u hu => by have c0 := hpc.out u hu; go_simp)) ?_; go_frame
          refine fg 14 28 (.pointer (some ⟨wr.heap.size, 0, none⟩)) ?_; go_frame; refine fh 15 29 (.int .i64 p) rfl (fx_read (fun u hu => by have c0 := (hbk.out.2.1.below hu (Nat.le_refl _)).cell 0 rfl; go_simp)) ?_; go_frame; refine fg 16 30 (.bool true) ?_; go_frame; refine fg 17 31 (.bool true) ?_; go_frame; refine fg 18 32 (.bool true) ?_; go_frame; refine fg 19 33 (.bool true) ?_; go_frame; refine fu 20 34 ?_; go_frame; refine fu 21 35 ?_; go_frame; refine fu 22 36 ?_; go_frame; refine fu 23 37 ?_; go_frame; refine fg 24 38 (.bool true) ?_; go_frame; refine fg 25 39 (.bool true) ?_; go_frame; refine fu 26 40 ?_; go_frame; refine fu 27 41 ?_; go_frame; refine fu 28 42 ?_; go_frame; refine fu 29 43 ?_; go_frame; refine fg 30 44 (.bool true) ?_; go_frame; refine fg 31 45 (.bool true) ?_; go_frame; refine fu 32 46 ?_; go_frame; refine fu 33 47 ?_; go_frame; refine fu 34 48 ?_; go_frame; refine fu 35 49 ?_; go_frame
          refine fu 36 50 ?_; go_frame; refine fu 37 51 ?_; go_frame; refine fu 38 52 ?_; go_frame; refine fu 39 53 ?_; go_frame; refine fg 40 54 (.bool true) ?_; go_frame; refine fx_done ?_ (by kernel_rfl) _; intro w9 h9; have hE := lh (below_step h9 hde.out); clear h9
          go_wp2_with fail
          go_ret; exact ⟨false, rfl, ⟨fun h => (by cases h), fun h => absurd h hno.out⟩, hE.out⟩
        have hdg : decide (p ≤ a) = false := decide_eq_false hge; have hr2 : Hid (∃ a : Int, -1 ≤ a ∧ ((m + 1) + 1 = 0 → a = -1) ∧ (∀ m2 d, (m + 1) + 1 = m2 + 1 → L[m2]? = some d → a = d.page) ∧ riseF (-1) (L.map (·.page)) = riseF a ((L.map (·.page)).drop ((m + 1) + 1))) := ⟨p, by omega, fun h => by omega, fun m2 d' h1 h2 => (by have hm : m2 = (m + 1) := (by omega); subst hm; rw [hdx.out] at h2; cases h2; exact hpg.out), by rw [har.out, if_neg (by omega)]⟩; cases G3 with
        | false =>
          have hno : Hid (¬ imgsD b L) := fun h => by have h1 := hG3'.out.2 (h.1.2 d (List.mem_of_getElem? hdx.out)).2; cases h1
          go_wp2_with (first
           | (with_reducible refine wpList_load_at rfl 62 (.tmp 12) rfl Tryz.underlying62 rfl hs rfl hcA.out ?_))
          refine wp_region_held (S := fun u => Below we.heap.size we u) (by kernel_rfl) ?_
          try rw [hwe]
          change wpAnyH _ _ _ _ _ _ _ _ (World.drew we); refine wpF.held _ _ _ ?_ _ hS0; refine fg 0 14 (.pointer (some ⟨wr.heap.size, 0, none⟩)) ?_; go_frame; refine fh 1 15 (.int .i64 p) rfl (fx_read (fun u hu => by have c0 := (hbk.out.2.1.below hu (Nat.le_refl _)).cell 0 rfl; go_simp)) ?_; go_frame; refine fh 2 16 (.bool true) rfl (fx_call hpd.out) ?_; go_frame; refine fg 3 17 (.bool false) ?_; go_frame; refine fg 4 18 (.bool false) ?_; go_frame; refine fg 5 19 (.int .i64 ((m + 1 : Nat) : Int)) ?_; go_frame; refine fg 6 20 (.bool true) ?_; go_frame; refine fg 7 21 (.bool true) ?_; go_frame; refine fg 8 22 (.slice (some A) n c) ?_; go_frame; refine fg 9 23 (.int .i64 ((m + 1 : Nat) : Int)) ?_; go_frame; refine fg 10 24 (.int .i64 m) ?_; go_frame; refine fg 11 25 (.pointer (some (A.add (m * 7)))) ?_; go_frame; refine fg 12 26 (.pointer (some (A.add (m * 7)))) ?_; go_frame; refine fh 13 27 (.int .i64 a) rfl (fx_read (fun u hu => by have c0 := hpc.out u hu; go_simp)) ?_; go_frame
          refine fg 14 28 (.pointer (some ⟨wr.heap.size, 0, none⟩)) ?_; go_frame; refine fh 15 29 (.int .i64 p) rfl (fx_read (fun u hu => by have c0 := (hbk.out.2.1.below hu (Nat.le_refl _)).cell 0 rfl; go_simp)) ?_; go_frame; refine fg 16 30 (.bool false) ?_; go_frame; refine fg 17 31 (.bool false) ?_; go_frame; refine fg 18 32 (.bool false) ?_; go_frame; refine fg 19 33 (.bool false) ?_; go_frame; refine fg 20 34 (.pointer (some ⟨wr.heap.size, 4, none⟩)) ?_; go_frame; refine fh 21 35 (.agg #[.int .i64 k3, .slice q3 n3 c3, .slice q4 n4 c4]) rfl (fx_load 55 (.tmp 34) (fun u hu => run_loadVar_at Tryz.underlying55 rfl z3 _ (f4.out u hu))) ?_; go_frame; refine fh 22 36 (.bool false) rfl (fx_call r3.out) ?_; go_frame; refine fg 23 37 (.bool true) ?_; go_frame; refine fg 24 38 (.bool true) ?_; go_frame; refine fg 25 39 (.bool true) ?_; go_frame; refine fu 26 40 ?_; go_frame; refine fu 27 41 ?_; go_frame
          refine fu 28 42 ?_; go_frame; refine fu 29 43 ?_; go_frame; refine fg 30 44 (.bool true) ?_; go_frame; refine fg 31 45 (.bool true) ?_; go_frame; refine fu 32 46 ?_; go_frame; refine fu 33 47 ?_; go_frame; refine fu 34 48 ?_; go_frame; refine fu 35 49 ?_; go_frame; refine fu 36 50 ?_; go_frame; refine fu 37 51 ?_; go_frame; refine fu 38 52 ?_; go_frame; refine fu 39 53 ?_; go_frame; refine fg 40 54 (.bool true) ?_; go_frame; refine fx_done ?_ (by kernel_rfl) _; intro w9 h9; have hE := lh (below_step h9 hde.out); clear h9
          go_wp2_with fail
          go_ret; exact ⟨false, rfl, ⟨fun h => (by cases h), fun h => absurd h hno.out⟩, hE.out⟩
        | true =>
          cases G1 with
          | false =>
            have hno : Hid (¬ imgsD b L) := fun h => by have h1 := hG1'.out.2 (h.1.2 d (List.mem_of_getElem? hdx.out)).1; cases h1
            go_wp2_with (first
             | (with_reducible refine wpList_load_at rfl 62 (.tmp 12) rfl Tryz.underlying62 rfl hs rfl hcA.out ?_))
            refine wp_region_held (S := fun u => Below we.heap.size we u) (by kernel_rfl) ?_
            try rw [hwe]
            change wpAnyH _ _ _ _ _ _ _ _ (World.drew we); refine wpF.held _ _ _ ?_ _ hS0; refine fg 0 14 (.pointer (some ⟨wr.heap.size, 0, none⟩)) ?_; go_frame; refine fh 1 15 (.int .i64 p) rfl (fx_read (fun u hu => by have c0 := (hbk.out.2.1.below hu (Nat.le_refl _)).cell 0 rfl; go_simp)) ?_; go_frame; refine fh 2 16 (.bool true) rfl (fx_call hpd.out) ?_; go_frame; refine fg 3 17 (.bool false) ?_; go_frame; refine fg 4 18 (.bool false) ?_; go_frame; refine fg 5 19 (.int .i64 ((m + 1 : Nat) : Int)) ?_; go_frame; refine fg 6 20 (.bool true) ?_; go_frame; refine fg 7 21 (.bool true) ?_; go_frame; refine fg 8 22 (.slice (some A) n c) ?_; go_frame; refine fg 9 23 (.int .i64 ((m + 1 : Nat) : Int)) ?_; go_frame; refine fg 10 24 (.int .i64 m) ?_; go_frame; refine fg 11 25 (.pointer (some (A.add (m * 7)))) ?_; go_frame; refine fg 12 26 (.pointer (some (A.add (m * 7)))) ?_; go_frame; refine fh 13 27 (.int .i64 a) rfl (fx_read (fun u hu => by have c0 := hpc.out u hu; go_simp)) ?_; go_frame
            refine fg 14 28 (.pointer (some ⟨wr.heap.size, 0, none⟩)) ?_; go_frame; refine fh 15 29 (.int .i64 p) rfl (fx_read (fun u hu => by have c0 := (hbk.out.2.1.below hu (Nat.le_refl _)).cell 0 rfl; go_simp)) ?_; go_frame; refine fg 16 30 (.bool false) ?_; go_frame; refine fg 17 31 (.bool false) ?_; go_frame; refine fg 18 32 (.bool false) ?_; go_frame; refine fg 19 33 (.bool false) ?_; go_frame; refine fg 20 34 (.pointer (some ⟨wr.heap.size, 4, none⟩)) ?_; go_frame; refine fh 21 35 (.agg #[.int .i64 k3, .slice q3 n3 c3, .slice q4 n4 c4]) rfl (fx_load 55 (.tmp 34) (fun u hu => run_loadVar_at Tryz.underlying55 rfl z3 _ (f4.out u hu))) ?_; go_frame; refine fh 22 36 (.bool true) rfl (fx_call r3.out) ?_; go_frame; refine fg 23 37 (.bool false) ?_; go_frame; refine fg 24 38 (.bool false) ?_; go_frame; refine fg 25 39 (.bool false) ?_; go_frame; refine fg 26 40 (.pointer (some ⟨wr.heap.size, 1, none⟩)) ?_; go_frame
            refine fh 27 41 (.agg #[.int .i64 k1, .slice q1 n1 c1, .slice q2 n2 c2]) rfl (fx_load 55 (.tmp 40) (fun u hu => run_loadVar_at Tryz.underlying55 rfl z1 _ (f1.out u hu))) ?_; go_frame; refine fh 28 42 (.bool false) rfl (fx_call r1.out) ?_; go_frame; refine fg 29 43 (.bool true) ?_; go_frame; refine fg 30 44 (.bool true) ?_; go_frame; refine fg 31 45 (.bool true) ?_; go_frame; refine fu 32 46 ?_; go_frame; refine fu 33 47 ?_; go_frame; refine fu 34 48 ?_; go_frame; refine fu 35 49 ?_; go_frame; refine fu 36 50 ?_; go_frame; refine fu 37 51 ?_; go_frame; refine fu 38 52 ?_; go_frame; refine fu 39 53 ?_; go_frame; refine fg 40 54 (.bool true) ?_; go_frame; refine fx_done ?_ (by kernel_rfl) _; intro w9 h9; have hE := lh (below_step h9 hde.out); clear h9
            go_wp2_with fail
            go_ret; exact ⟨false, rfl, ⟨fun h => (by cases h), fun h => absurd h hno.out⟩, hE.out⟩
          | true =>
            cases b with
            | false =>
              by_cases hk0 : k1 = 0
              rotate_left
              · have hkb : (k1 != 0) = true := by simpa using hk0
                have hno : Hid (¬ imgsD false L) := fun h => hk0 (by rw [hkd.out]; exact h.2 rfl d (List.mem_of_getElem? hdx.out))
                replace hk0 := lh hk0
                go_wp2_with (first
                 | (with_reducible refine wpList_load_at rfl 62 (.tmp 12) rfl Tryz.underlying62 rfl hs rfl hcA.out ?_))
                refine wp_region_held (S := fun u => Below we.heap.size we u) (by kernel_rfl) ?_
                try rw [hwe]
                change wpAnyH _ _ _ _ _ _ _ _ (World.drew we); refine wpF.held _ _ _ ?_ _ hS0; refine fg 0 14 (.pointer (some ⟨wr.heap.size, 0, none⟩)) ?_; go_frame; refine fh 1 15 (.int .i64 p) rfl (fx_read (fun u hu => by have c0 := (hbk.out.2.1.below hu (Nat.le_refl _)).cell 0 rfl; go_simp)) ?_; go_frame; refine fh 2 16 (.bool true) rfl (fx_call hpd.out) ?_; go_frame; refine fg 3 17 (.bool false) ?_; go_frame; refine fg 4 18 (.bool false) ?_; go_frame; refine fg 5 19 (.int .i64 ((m + 1 : Nat) : Int)) ?_; go_frame; refine fg 6 20 (.bool true) ?_; go_frame; refine fg 7 21 (.bool true) ?_; go_frame; refine fg 8 22 (.slice (some A) n c) ?_; go_frame; refine fg 9 23 (.int .i64 ((m + 1 : Nat) : Int)) ?_; go_frame; refine fg 10 24 (.int .i64 m) ?_; go_frame; refine fg 11 25 (.pointer (some (A.add (m * 7)))) ?_; go_frame; refine fg 12 26 (.pointer (some (A.add (m * 7)))) ?_; go_frame; refine fh 13 27 (.int .i64 a) rfl (fx_read (fun u hu => by have c0 := hpc.out u hu; go_simp)) ?_; go_frame
                refine fg 14 28 (.pointer (some ⟨wr.heap.size, 0, none⟩)) ?_; go_frame; refine fh 15 29 (.int .i64 p) rfl (fx_read (fun u hu => by have c0 := (hbk.out.2.1.below hu (Nat.le_refl _)).cell 0 rfl; go_simp)) ?_; go_frame; refine fg 16 30 (.bool false) ?_; go_frame; refine fg 17 31 (.bool false) ?_; go_frame; refine fg 18 32 (.bool false) ?_; go_frame; refine fg 19 33 (.bool false) ?_; go_frame; refine fg 20 34 (.pointer (some ⟨wr.heap.size, 4, none⟩)) ?_; go_frame; refine fh 21 35 (.agg #[.int .i64 k3, .slice q3 n3 c3, .slice q4 n4 c4]) rfl (fx_load 55 (.tmp 34) (fun u hu => run_loadVar_at Tryz.underlying55 rfl z3 _ (f4.out u hu))) ?_; go_frame; refine fh 22 36 (.bool true) rfl (fx_call r3.out) ?_; go_frame; refine fg 23 37 (.bool false) ?_; go_frame; refine fg 24 38 (.bool false) ?_; go_frame; refine fg 25 39 (.bool false) ?_; go_frame; refine fg 26 40 (.pointer (some ⟨wr.heap.size, 1, none⟩)) ?_; go_frame
                refine fh 27 41 (.agg #[.int .i64 k1, .slice q1 n1 c1, .slice q2 n2 c2]) rfl (fx_load 55 (.tmp 40) (fun u hu => run_loadVar_at Tryz.underlying55 rfl z1 _ (f1.out u hu))) ?_; go_frame; refine fh 28 42 (.bool true) rfl (fx_call r1.out) ?_; go_frame; refine fg 29 43 (.bool false) ?_; go_frame; refine fg 30 44 (.bool false) ?_; go_frame; refine fg 31 45 (.bool false) ?_; go_frame; refine fg 32 46 (.bool false) ?_; go_frame; refine fg 33 47 (.bool true) ?_; go_frame; refine fg 34 48 (.bool true) ?_; go_frame; refine fg 35 49 (.pointer (some ⟨wr.heap.size, 1, none⟩)) ?_; go_frame; refine fg 36 50 (.pointer (some ⟨wr.heap.size, 1, none⟩)) ?_; go_frame; refine fh 37 51 (.int .i64 k1) rfl (fx_read (fun u hu => by have c0 := (hbk.out.2.1.below hu (Nat.le_refl _)).cell 1 rfl; go_simp)) ?_; go_frame; refine fg 38 52 (.bool true) ?_; go_frame; refine fg 39 53 (.bool true) ?_; go_frame
                refine fg 40 54 (.bool true) ?_; go_frame; refine fx_done ?_ (by kernel_rfl) _; intro w9 h9; have hE := lh (below_step h9 hde.out); clear h9
                go_wp2_with fail
                go_ret; exact ⟨false, rfl, ⟨fun h => (by cases h), fun h => absurd h hno.out⟩, hE.out⟩
              have hkb : (k1 != 0) = false := by simpa using hk0
              have hq2 : Hid (∀ (i : Nat) d, i < (m + 1) + 1 → L[i]? = some d → imD false d) := fun i x hi hxi => by
               rcases Nat.lt_or_ge i (m + 1) with h | h
               · exact hq.out i x h hxi
               · obtain rfl : i = (m + 1) := by omega
                 rw [hdx.out] at hxi; cases hxi; exact ⟨hG1'.out.1 rfl, hG3'.out.1 rfl, fun _ => by rw [← hkd.out]; exact hk0⟩
              replace hk0 := lh hk0
              go_wp2_with (first
               | (with_reducible refine wpList_load_at rfl 62 (.tmp 12) rfl Tryz.underlying62 rfl hs rfl hcA.out ?_))
              refine wp_region_held (S := fun u => Below we.heap.size we u) (by kernel_rfl) ?_
              try rw [hwe]
              change wpAnyH _ _ _ _ _ _ _ _ (World.drew we); refine wpF.held _ _ _ ?_ _ hS0; refine fg 0 14 (.pointer (some ⟨wr.heap.size, 0, none⟩)) ?_; go_frame; refine fh 1 15 (.int .i64 p) rfl (fx_read (fun u hu => by have c0 := (hbk.out.2.1.below hu (Nat.le_refl _)).cell 0 rfl; go_simp)) ?_; go_frame; refine fh 2 16 (.bool true) rfl (fx_call hpd.out) ?_; go_frame; refine fg 3 17 (.bool false) ?_; go_frame; refine fg 4 18 (.bool false) ?_; go_frame; refine fg 5 19 (.int .i64 ((m + 1 : Nat) : Int)) ?_; go_frame; refine fg 6 20 (.bool true) ?_; go_frame; refine fg 7 21 (.bool true) ?_; go_frame; refine fg 8 22 (.slice (some A) n c) ?_; go_frame; refine fg 9 23 (.int .i64 ((m + 1 : Nat) : Int)) ?_; go_frame; refine fg 10 24 (.int .i64 m) ?_; go_frame; refine fg 11 25 (.pointer (some (A.add (m * 7)))) ?_; go_frame; refine fg 12 26 (.pointer (some (A.add (m * 7)))) ?_; go_frame; refine fh 13 27 (.int .i64 a) rfl (fx_read (fun u hu => by have c0 := hpc.out u hu; go_simp)) ?_; go_frame
              refine fg 14 28 (.pointer (some ⟨wr.heap.size, 0, none⟩)) ?_; go_frame; refine fh 15 29 (.int .i64 p) rfl (fx_read (fun u hu => by have c0 := (hbk.out.2.1.below hu (Nat.le_refl _)).cell 0 rfl; go_simp)) ?_; go_frame; refine fg 16 30 (.bool false) ?_; go_frame; refine fg 17 31 (.bool false) ?_; go_frame; refine fg 18 32 (.bool false) ?_; go_frame; refine fg 19 33 (.bool false) ?_; go_frame; refine fg 20 34 (.pointer (some ⟨wr.heap.size, 4, none⟩)) ?_; go_frame; refine fh 21 35 (.agg #[.int .i64 k3, .slice q3 n3 c3, .slice q4 n4 c4]) rfl (fx_load 55 (.tmp 34) (fun u hu => run_loadVar_at Tryz.underlying55 rfl z3 _ (f4.out u hu))) ?_; go_frame; refine fh 22 36 (.bool true) rfl (fx_call r3.out) ?_; go_frame; refine fg 23 37 (.bool false) ?_; go_frame; refine fg 24 38 (.bool false) ?_; go_frame; refine fg 25 39 (.bool false) ?_; go_frame; refine fg 26 40 (.pointer (some ⟨wr.heap.size, 1, none⟩)) ?_; go_frame
              refine fh 27 41 (.agg #[.int .i64 k1, .slice q1 n1 c1, .slice q2 n2 c2]) rfl (fx_load 55 (.tmp 40) (fun u hu => run_loadVar_at Tryz.underlying55 rfl z1 _ (f1.out u hu))) ?_; go_frame; refine fh 28 42 (.bool true) rfl (fx_call r1.out) ?_; go_frame; refine fg 29 43 (.bool false) ?_; go_frame; refine fg 30 44 (.bool false) ?_; go_frame; refine fg 31 45 (.bool false) ?_; go_frame; refine fg 32 46 (.bool false) ?_; go_frame; refine fg 33 47 (.bool true) ?_; go_frame; refine fg 34 48 (.bool true) ?_; go_frame; refine fg 35 49 (.pointer (some ⟨wr.heap.size, 1, none⟩)) ?_; go_frame; refine fg 36 50 (.pointer (some ⟨wr.heap.size, 1, none⟩)) ?_; go_frame; refine fh 37 51 (.int .i64 k1) rfl (fx_read (fun u hu => by have c0 := (hbk.out.2.1.below hu (Nat.le_refl _)).cell 1 rfl; go_simp)) ?_; go_frame; refine fg 38 52 (.bool false) ?_; go_frame; refine fg 39 53 (.bool false) ?_; go_frame
              refine fg 40 54 (.bool false) ?_; go_frame; refine fx_done ?_ (by kernel_rfl) _; intro w9 h9; have hE := lh (below_step h9 hde.out); clear h9
              go_wp2_with fail
              go_roundw
              case rel => exact ⟨m + 1 + 1, by omega, by go_num, hE, hr2, hq2⟩
              case measure => simp [RowKit.intOf]; omega
            | true =>
              have hq2 : Hid (∀ (i : Nat) d, i < (m + 1) + 1 → L[i]? = some d → imD true d) := fun i x hi hxi => by
               rcases Nat.lt_or_ge i (m + 1) with h | h
               · exact hq.out i x h hxi
               · obtain rfl : i = (m + 1) := by omega
                 rw [hdx.out] at hxi; cases hxi; exact ⟨hG1'.out.1 rfl, hG3'.out.1 rfl, fun h => by cases h⟩
              go_wp2_with (first
               | (with_reducible refine wpList_load_at rfl 62 (.tmp 12) rfl Tryz.underlying62 rfl hs rfl hcA.out ?_))
              refine wp_region_held (S := fun u => Below we.heap.size we u) (by kernel_rfl) ?_
              try rw [hwe]
              change wpAnyH _ _ _ _ _ _ _ _ (World.drew we); refine wpF.held _ _ _ ?_ _ hS0; refine fg 0 14 (.pointer (some ⟨wr.heap.size, 0, none⟩)) ?_; go_frame; refine fh 1 15 (.int .i64 p) rfl (fx_read (fun u hu => by have c0 := (hbk.out.2.1.below hu (Nat.le_refl _)).cell 0 rfl; go_simp)) ?_; go_frame; refine fh 2 16 (.bool true) rfl (fx_call hpd.out) ?_; go_frame; refine fg 3 17 (.bool false) ?_; go_frame; refine fg 4 18 (.bool false) ?_; go_frame; refine fg 5 19 (.int .i64 ((m + 1 : Nat) : Int)) ?_; go_frame; refine fg 6 20 (.bool true) ?_; go_frame; refine fg 7 21 (.bool true) ?_; go_frame; refine fg 8 22 (.slice (some A) n c) ?_; go_frame; refine fg 9 23 (.int .i64 ((m + 1 : Nat) : Int)) ?_; go_frame; refine fg 10 24 (.int .i64 m) ?_; go_frame; refine fg 11 25 (.pointer (some (A.add (m * 7)))) ?_; go_frame; refine fg 12 26 (.pointer (some (A.add (m * 7)))) ?_; go_frame; refine fh 13 27 (.int .i64 a) rfl (fx_read (fun u hu => by have c0 := hpc.out u hu; go_simp)) ?_; go_frame
              refine fg 14 28 (.pointer (some ⟨wr.heap.size, 0, none⟩)) ?_; go_frame; refine fh 15 29 (.int .i64 p) rfl (fx_read (fun u hu => by have c0 := (hbk.out.2.1.below hu (Nat.le_refl _)).cell 0 rfl; go_simp)) ?_; go_frame; refine fg 16 30 (.bool false) ?_; go_frame; refine fg 17 31 (.bool false) ?_; go_frame; refine fg 18 32 (.bool false) ?_; go_frame; refine fg 19 33 (.bool false) ?_; go_frame; refine fg 20 34 (.pointer (some ⟨wr.heap.size, 4, none⟩)) ?_; go_frame; refine fh 21 35 (.agg #[.int .i64 k3, .slice q3 n3 c3, .slice q4 n4 c4]) rfl (fx_load 55 (.tmp 34) (fun u hu => run_loadVar_at Tryz.underlying55 rfl z3 _ (f4.out u hu))) ?_; go_frame; refine fh 22 36 (.bool true) rfl (fx_call r3.out) ?_; go_frame; refine fg 23 37 (.bool false) ?_; go_frame; refine fg 24 38 (.bool false) ?_; go_frame; refine fg 25 39 (.bool false) ?_; go_frame; refine fg 26 40 (.pointer (some ⟨wr.heap.size, 1, none⟩)) ?_; go_frame
              refine fh 27 41 (.agg #[.int .i64 k1, .slice q1 n1 c1, .slice q2 n2 c2]) rfl (fx_load 55 (.tmp 40) (fun u hu => run_loadVar_at Tryz.underlying55 rfl z1 _ (f1.out u hu))) ?_; go_frame; refine fh 28 42 (.bool true) rfl (fx_call r1.out) ?_; go_frame; refine fg 29 43 (.bool false) ?_; go_frame; refine fg 30 44 (.bool false) ?_; go_frame; refine fg 31 45 (.bool false) ?_; go_frame; refine fg 32 46 (.bool true) ?_; go_frame; refine fg 33 47 (.bool false) ?_; go_frame; refine fg 34 48 (.bool false) ?_; go_frame; refine fu 35 49 ?_; go_frame; refine fu 36 50 ?_; go_frame; refine fu 37 51 ?_; go_frame; refine fu 38 52 ?_; go_frame; refine fg 39 53 (.bool false) ?_; go_frame; refine fg 40 54 (.bool false) ?_; go_frame; refine fx_done ?_ (by kernel_rfl) _; intro w9 h9; have hE := lh (below_step h9 hde.out); clear h9
              go_wp2_with fail
              go_roundw
              case rel => exact ⟨m + 1 + 1, by omega, by go_num, hE, hr2, hq2⟩
              case measure => simp [RowKit.intOf]; omega
  · obtain rfl : n = j := by omega
    obtain ⟨a, _, _, _, har⟩ := hri.out
    have hend : riseF (-1) (L.map (·.page)) = true := by rw [har, show n = (L.map (·.page)).length by rw [List.length_map]; exact hLl.out.symm]; exact riseF_end
    have hend := lh hend
    have hall : Hid (∀ d ∈ L, imD b d) := fun d hd => by obtain ⟨i, hi⟩ := List.mem_iff_getElem?.1 hd; exact hq.out i d (by have h1 := (List.getElem?_eq_some_iff.1 hi).1; have h2 := hLl.out; omega) hi
    clear har
    by_cases h16 : n ≤ 16
    · have d16 : decide ((n : Int) ≤ 16) = true := decide_eq_true (by omega)
      go_wp2; go_ret; exact ⟨true, rfl, ⟨fun _ => ⟨⟨⟨by rw [hLl.out]; exact h16, hend.out⟩, fun d hd => ⟨(hall.out d hd).1, (hall.out d hd).2.1⟩⟩, fun hb d hd => (hall.out d hd).2.2 hb⟩, fun _ => rfl⟩, hd.out⟩
    · have d16 : decide ((n : Int) ≤ 16) = false := decide_eq_false (by omega)
      go_wp2; go_ret; exact ⟨false, rfl, ⟨fun h => (by cases h), fun h => absurd h.1.1.1 (by rw [hLl.out]; exact h16)⟩, hd.out⟩
end Go.Proofs.YtocekhckmpkbmaaGreat
