/- kids of the document: which kids may be an inner page's. -/
import Derived.Test.YtocekhckmpkbmaaGreatU14
import Derived.Test.YtocekhckmpkbmaaGreatU01
namespace Go.Proofs.YtocekhckmpkbmaaGreat
open Go.RowKit
theorem neq_key (w : World) (a b c d : Int) : (binOp .neq 66 (.agg #[.int .i64 a, .int .u16 b]) (.agg #[.int .i64 c, .int .u16 d])).run Tryz.prog w = .ok (.bool (!eqK ⟨a, b⟩ ⟨c, d⟩)) w := by
 rw [run_neq_struct]; have hS : Tryz.prog.underlying 66 = some (.struct (Tryz.prog.fieldsOf 66)) := by kernel_rfl
 have hp : Tryz.prog.stoodInHeld 66 = false := by kernel_rfl
 have u3 := Tryz.underlying3; have u4 := Tryz.underlying64; have a3 := Tryz.isAgg3; have a4 := Tryz.isAgg64; have z3 := Tryz.sizeOf3; have z4 := Tryz.sizeOf64; rw [show (10000 : Nat) = 9999 + 1 from rfl, run_equalIn_agg w 9999 66 _ _ hS hp]; simp only [Program.fieldsOf, Tryz.underlying66]; clear hS hp; unfold eqK
 go_simp
 by_cases h1 : a = c <;> by_cases h2 : b = d <;> simp [h1, h2]
def pageK (p : Int) : Bool := decide (1 ≤ p) && decide (p < 64)
theorem fitsK_first {L : List KidD} {r : KidD} : fitsK (L.take 0) r = ((tabB r.least.t && pageK r.page) && eqK r.least ⟨0, 0⟩) := by
 unfold fitsK lastK; rw [List.take_zero]; rfl
theorem fitsK_next {L : List KidD} {p r : KidD} {m : Nat} (hp : L[m]? = some p) (hr : L[m + 1]? = some r) (ip : 0 ≤ p.least.id ∧ p.least.id < 65536) (ir : 0 ≤ r.least.id ∧ r.least.id < 65536) : fitsK (L.take (m + 1)) r = ((tabB r.least.t && pageK r.page) && (decide (ordK p.least < ordK r.least) && !hasP (L.take (m + 1)) r.page)) := by
 have hl : m + 1 < L.length := (List.getElem?_eq_some_iff.1 hr).1; have e1 : (L.take (m + 1)).length - 1 = m := by rw [List.length_take]; omega
 have e2 : (L.take (m + 1))[m]? = some p := by rw [List.getElem?_take, if_pos (by omega)]; exact hp
 unfold fitsK lastK; rw [e1, e2]; have e3 : decide (cmpK p.least r.least < 0) = decide (ordK p.least < ordK r.least) := by rw [decide_eq_decide]; exact ord_lt ip ir
 rw [← e3]; rfl
theorem fitsK_base {L : List KidD} {r : KidD} (h : fitsK L r = true) : tabB r.least.t = true ∧ pageK r.page = true := by
 unfold fitsK at h; simp only [Bool.and_eq_true] at h; exact ⟨h.1.1, by unfold pageK; rw [Bool.and_eq_true]; exact h.1.2⟩
theorem tab_of {n : Int} (h : tabB n = true) : 0 ≤ n ∧ n < 3 := by
 unfold tabB at h; simpa using h
set_option maxRecDepth 100000 in
set_option maxHeartbeats 8000000 in
theorem kids_doc (q : Option Addr) (n c : Nat) (L : List KidD) (w : World) (hr : KidsOn w q n c L) :
 Calls Tryz.prog 85 #[.slice q n c] w (YesNo (GoodK L) w) := by
 have hrr := lh hr; have hrl := lh hr.len; have hm := Nat.le_trans hr.le hr.cap; unfold maxLen at hm; clear hr
 go_enter Tryz.func85, Tryz.ntmps85
 go_wp2
 go_loopw [9] (fun v9 wr => ∃ k : Nat, k ≤ n ∧ v9 = .int .i64 k ∧ Hid (Below w.heap.size w wr) ∧ Hid (∀ (i : Nat) (r : KidD), i < k → L[i]? = some r → fitsK (L.take i) r = true)) (fun v9 _ => n - (RowKit.intOf v9).toNat)
 case atStart => exact ⟨0, Nat.zero_le _, rfl, (show Below _ _ _ from Below.refl _ _), fun i r hi => by omega⟩
 case round =>
  obtain ⟨k, hk, rfl, hrl2, hp⟩ := hrel
  by_cases hlt : k < n
  · obtain ⟨A, ⟨⟨t, id⟩, p⟩, hqA, hx, hok, hcA⟩ := (hrr.out.below hrl2.out (Nat.le_refl _)).at hlt; subst hqA; have hcell : Hid (∀ j x, ([.int .i64 t, .int .u16 id, .int .i64 p] : List Value)[j]? = some x → wr.cell? ((A.add (k * 3)).add j) = some x) := hcA; have hs2 := sizeKid t id p; have hs3 := sizeKey t id; have hx' := lh hx; have hid := hok.key.id; have i0 : (0 : Int) ≤ k := by omega
    have i1 : (k : Int) < n := by omega
    obtain ⟨WA, hWA⟩ : ∃ W', wr.alloc (.cells #[.int .i64 t, .int .u16 id, .int .i64 p] 100) = W' := ⟨_, rfl⟩; have hbA := lh (one_box hWA); have hwA := lh (hrl2.out.trans (hbA.out.1.mono hrl2.out.size)); have hrA := lh (hrr.out.below hwA.out (Nat.le_refl _))
    have hkey : Hid (∀ u, Below WA.heap.size WA u → ∀ j x, ([.int .i64 t, .int .u16 id] : List Value)[j]? = some x → u.cell? ((⟨wr.heap.size, 0, none⟩ : Addr).add j) = some x) := fun u hu j x hj => (hbA.out.2.1.below hu (Nat.le_refl _)) j x (by
     match j, hj with
     | 0, hj => exact hj
     | 1, hj => exact hj
     | j + 2, hj => simp at hj)
    have htab := lh (fun u => table_any t u); have hS0 : Below WA.heap.size WA WA.drew := below_drew WA; clear hx hok hcA
    by_cases hp1 : p < 1
    · have d1 : decide (p < 1) = true := decide_eq_true hp1; have hno : Hid (¬ GoodK L) := fun h => by have h1 := (fitsK_base (h.fits k _ hx'.out)).2; unfold pageK at h1; simp at h1; omega
      go_wp2_with (first
       | (with_reducible refine wpList_load_at rfl 100 (.tmp 12) rfl Tryz.underlying100 rfl hs2 rfl hcell.out ?_))
      refine wp_region_held (S := fun u => Below WA.heap.size WA u) (by kernel_rfl) ?_
      try rw [hWA]
      change wpAnyH _ _ _ _ _ _ _ _ (World.drew WA); refine tg 0 14 (.pointer (some ⟨wr.heap.size, 2, none⟩)) hS0 ?_; go_frame; refine held_tk (i := 1) (dst := some 15) (v := .int .i64 p) rfl rfl (.inl ⟨rfl, fun u hu => by have c9 := (hbA.out.2.1.below hu (Nat.le_refl _)).cell 2 rfl; go_simp⟩) hS0 ?_; go_frame; refine tg 2 16 (.bool true) hS0 ?_; go_frame; refine tg 3 17 (.bool true) hS0 ?_; go_frame; refine tu 4 18 hS0 ?_; go_frame; refine tu 5 19 hS0 ?_; go_frame; refine tu 6 20 hS0 ?_; go_frame; refine tg 7 21 (.bool true) hS0 ?_; go_frame; refine tg 8 22 (.bool true) hS0 ?_; go_frame; refine tu 9 23 hS0 ?_; go_frame; refine tu 10 24 hS0 ?_; go_frame; refine tu 11 25 hS0 ?_; go_frame; refine tu 12 26 hS0 ?_; go_frame; refine tu 13 27 hS0 ?_; go_frame; refine tg 14 28 (.bool true) hS0 ?_; go_frame; refine tg 15 29 (.bool true) hS0 ?_; go_frame; refine tu 16 30 hS0 ?_; go_frame; refine tu 17 31 hS0 ?_
      go_frame; refine tu 18 32 hS0 ?_; go_frame; refine tu 19 33 hS0 ?_; go_frame; refine tu 20 34 hS0 ?_; go_frame; refine tu 21 35 hS0 ?_; go_frame; refine tu 22 36 hS0 ?_; go_frame; refine tu 23 37 hS0 ?_; go_frame; refine tg 24 38 (.bool true) hS0 ?_; go_frame; refine tg 25 39 (.bool true) hS0 ?_; go_frame; refine tu 26 40 hS0 ?_; go_frame; refine tu 27 41 hS0 ?_; go_frame; refine tu 28 42 hS0 ?_; go_frame; refine tu 29 43 hS0 ?_; go_frame; refine tu 30 44 hS0 ?_; go_frame; refine tu 31 45 hS0 ?_; go_frame; refine tu 32 46 hS0 ?_; go_frame; refine tu 33 47 hS0 ?_; go_frame; refine tu 34 48 hS0 ?_; go_frame; refine tu 35 49 hS0 ?_; go_frame; refine tu 36 50 hS0 ?_; go_frame; refine tu 37 51 hS0 ?_; go_frame; refine tu 38 52 hS0 ?_; go_frame; refine tu 39 53 hS0 ?_; go_frame; refine tu 40 54 hS0 ?_; go_frame; refine tg 41 55 (.bool true) hS0 ?_; go_frame; refine wpAnyH_done (by kernel_rfl) ?_ _
      go_wp2; go_ret; exact ⟨false, rfl, ⟨fun h => (by cases h), fun h => absurd h hno.out⟩, hwA.out.trans (hS0.mono hwA.out.size)⟩
    · have d1 : decide (p < 1) = false := decide_eq_false hp1
      by_cases hp2 : 64 ≤ p
      · have d2 : decide (64 ≤ p) = true := decide_eq_true hp2; have hno : Hid (¬ GoodK L) := fun h => by have h1 := (fitsK_base (h.fits k _ hx'.out)).2; unfold pageK at h1; simp at h1; omega
        go_wp2_with (first
         | (with_reducible refine wpList_load_at rfl 100 (.tmp 12) rfl Tryz.underlying100 rfl hs2 rfl hcell.out ?_))
        refine wp_region_held (S := fun u => Below WA.heap.size WA u) (by kernel_rfl) ?_
        try rw [hWA]
        change wpAnyH _ _ _ _ _ _ _ _ (World.drew WA); refine tg 0 14 (.pointer (some ⟨wr.heap.size, 2, none⟩)) hS0 ?_; go_frame; refine held_tk (i := 1) (dst := some 15) (v := .int .i64 p) rfl rfl (.inl ⟨rfl, fun u hu => by have c9 := (hbA.out.2.1.below hu (Nat.le_refl _)).cell 2 rfl; go_simp⟩) hS0 ?_; go_frame; refine tg 2 16 (.bool false) hS0 ?_; go_frame; refine tg 3 17 (.bool false) hS0 ?_; go_frame; refine tg 4 18 (.pointer (some ⟨wr.heap.size, 2, none⟩)) hS0 ?_; go_frame; refine held_tk (i := 5) (dst := some 19) (v := .int .i64 p) rfl rfl (.inl ⟨rfl, fun u hu => by have c9 := (hbA.out.2.1.below hu (Nat.le_refl _)).cell 2 rfl; go_simp⟩) hS0 ?_; go_frame; refine tg 6 20 (.bool true) hS0 ?_; go_frame; refine tg 7 21 (.bool true) hS0 ?_; go_frame; refine tg 8 22 (.bool true) hS0 ?_; go_frame; refine tu 9 23 hS0 ?_; go_frame; refine tu 10 24 hS0 ?_; go_frame; refine tu 11 25 hS0 ?_; go_frame
        refine tu 12 26 hS0 ?_; go_frame; refine tu 13 27 hS0 ?_; go_frame; refine tg 14 28 (.bool true) hS0 ?_; go_frame; refine tg 15 29 (.bool true) hS0 ?_; go_frame; refine tu 16 30 hS0 ?_; go_frame; refine tu 17 31 hS0 ?_; go_frame; refine tu 18 32 hS0 ?_; go_frame; refine tu 19 33 hS0 ?_; go_frame; refine tu 20 34 hS0 ?_; go_frame; refine tu 21 35 hS0 ?_; go_frame; refine tu 22 36 hS0 ?_; go_frame; refine tu 23 37 hS0 ?_; go_frame; refine tg 24 38 (.bool true) hS0 ?_; go_frame; refine tg 25 39 (.bool true) hS0 ?_; go_frame; refine tu 26 40 hS0 ?_; go_frame; refine tu 27 41 hS0 ?_; go_frame; refine tu 28 42 hS0 ?_; go_frame; refine tu 29 43 hS0 ?_; go_frame; refine tu 30 44 hS0 ?_; go_frame; refine tu 31 45 hS0 ?_; go_frame; refine tu 32 46 hS0 ?_; go_frame; refine tu 33 47 hS0 ?_; go_frame; refine tu 34 48 hS0 ?_; go_frame; refine tu 35 49 hS0 ?_; go_frame; refine tu 36 50 hS0 ?_; go_frame
        refine tu 37 51 hS0 ?_; go_frame; refine tu 38 52 hS0 ?_; go_frame; refine tu 39 53 hS0 ?_; go_frame; refine tu 40 54 hS0 ?_; go_frame; refine tg 41 55 (.bool true) hS0 ?_; go_frame; refine wpAnyH_done (by kernel_rfl) ?_ _; go_wp2; go_ret; exact ⟨false, rfl, ⟨fun h => (by cases h), fun h => absurd h hno.out⟩, hwA.out.trans (hS0.mono hwA.out.size)⟩
      · have d2 : decide (64 ≤ p) = false := decide_eq_false hp2; have hpg : Hid (pageK p = true) := by show _ = _; unfold pageK; rw [decide_eq_true (show 1 ≤ p by omega), decide_eq_true (show p < 64 by omega)]; rfl
        obtain ⟨B, hB⟩ : ∃ B, tabB t = B := ⟨_, rfl⟩; rw [hB] at htab; have hB' := lh hB; clear hB; cases B with
        | false =>
          have hno : Hid (¬ GoodK L) := fun h => by have h1 := (fitsK_base (h.fits k _ hx'.out)).1; rw [hB'.out] at h1; cases h1
          go_wp2_with (first
           | (with_reducible refine wpList_load_at rfl 100 (.tmp 12) rfl Tryz.underlying100 rfl hs2 rfl hcell.out ?_))
          refine wp_region_held (S := fun u => Below WA.heap.size WA u) (by kernel_rfl) ?_
          try rw [hWA]
          change wpAnyH _ _ _ _ _ _ _ _ (World.drew WA); refine tg 0 14 (.pointer (some ⟨wr.heap.size, 2, none⟩)) hS0 ?_; go_frame; refine held_tk (i := 1) (dst := some 15) (v := .int .i64 p) rfl rfl (.inl ⟨rfl, fun u hu => by have c9 := (hbA.out.2.1.below hu (Nat.le_refl _)).cell 2 rfl; go_simp⟩) hS0 ?_; go_frame; refine tg 2 16 (.bool false) hS0 ?_; go_frame; refine tg 3 17 (.bool false) hS0 ?_; go_frame; refine tg 4 18 (.pointer (some ⟨wr.heap.size, 2, none⟩)) hS0 ?_; go_frame; refine held_tk (i := 5) (dst := some 19) (v := .int .i64 p) rfl rfl (.inl ⟨rfl, fun u hu => by have c9 := (hbA.out.2.1.below hu (Nat.le_refl _)).cell 2 rfl; go_simp⟩) hS0 ?_; go_frame; refine tg 6 20 (.bool false) hS0 ?_; go_frame; refine tg 7 21 (.bool false) hS0 ?_; go_frame; refine tg 8 22 (.bool false) hS0 ?_; go_frame; refine tg 9 23 (.pointer (some ⟨wr.heap.size, 0, none⟩)) hS0 ?_; go_frame; refine tg 10 24 (.pointer (some ⟨wr.heap.size, 0, none⟩)) hS0 ?_
          go_frame; refine held_tk (i := 11) (dst := some 25) (v := .int .i64 t) rfl rfl (.inl ⟨rfl, fun u hu => by have c9 := (hbA.out.2.1.below hu (Nat.le_refl _)).cell 0 rfl; go_simp⟩) hS0 ?_; go_frame; refine held_call (i := 12) (dst := some 26) rfl rfl (by kernel_rfl) rfl (by go_simp) (htab.out _) ?_; rintro e u1 ⟨rfl, rfl⟩; refine ⟨_, rfl, hS0, ?_⟩; go_frame; refine tg 13 27 (.bool true) hS0 ?_; go_frame; refine tg 14 28 (.bool true) hS0 ?_; go_frame; refine tg 15 29 (.bool true) hS0 ?_; go_frame; refine tu 16 30 hS0 ?_; go_frame; refine tu 17 31 hS0 ?_; go_frame; refine tu 18 32 hS0 ?_; go_frame; refine tu 19 33 hS0 ?_; go_frame; refine tu 20 34 hS0 ?_; go_frame; refine tu 21 35 hS0 ?_; go_frame; refine tu 22 36 hS0 ?_; go_frame; refine tu 23 37 hS0 ?_; go_frame; refine tg 24 38 (.bool true) hS0 ?_; go_frame; refine tg 25 39 (.bool true) hS0 ?_; go_frame; refine tu 26 40 hS0 ?_; go_frame
          refine tu 27 41 hS0 ?_; go_frame; refine tu 28 42 hS0 ?_; go_frame; refine tu 29 43 hS0 ?_; go_frame; refine tu 30 44 hS0 ?_; go_frame; refine tu 31 45 hS0 ?_; go_frame; refine tu 32 46 hS0 ?_; go_frame; refine tu 33 47 hS0 ?_; go_frame; refine tu 34 48 hS0 ?_; go_frame; refine tu 35 49 hS0 ?_; go_frame; refine tu 36 50 hS0 ?_; go_frame; refine tu 37 51 hS0 ?_; go_frame; refine tu 38 52 hS0 ?_; go_frame; refine tu 39 53 hS0 ?_; go_frame; refine tu 40 54 hS0 ?_; go_frame; refine tg 41 55 (.bool true) hS0 ?_; go_frame; refine wpAnyH_done (by kernel_rfl) ?_ _; go_wp2; go_ret; exact ⟨false, rfl, ⟨fun h => (by cases h), fun h => absurd h hno.out⟩, hwA.out.trans (hS0.mono hwA.out.size)⟩
        | true =>
          have ht3 := tab_of hB'.out; cases k with
          | zero =>
            have hnk := fun u => neq_key u t id 0 0
            obtain ⟨E, hE⟩ : ∃ E, eqK ⟨t, id⟩ ⟨0, 0⟩ = E := ⟨_, rfl⟩; rw [hE] at hnk; have hft : Hid (fitsK (L.take 0) ⟨⟨t, id⟩, p⟩ = E) := by show _ = _; rw [fitsK_first, hB'.out, hpg.out]; exact hE
            clear hE; cases E with
            | false =>
              have hno : Hid (¬ GoodK L) := fun h => by have h1 := h.fits 0 _ hx'.out; rw [hft.out] at h1; cases h1
              go_wp2_with (first
               | (with_reducible refine wpList_load_at rfl 100 (.tmp 12) rfl Tryz.underlying100 rfl hs2 rfl hcell.out ?_))
              refine wp_region_held (S := fun u => Below WA.heap.size WA u) (by kernel_rfl) ?_
              try rw [hWA]
              change wpAnyH _ _ _ _ _ _ _ _ (World.drew WA); refine tg 0 14 (.pointer (some ⟨wr.heap.size, 2, none⟩)) hS0 ?_; go_frame; refine held_tk (i := 1) (dst := some 15) (v := .int .i64 p) rfl rfl (.inl ⟨rfl, fun u hu => by have c9 := (hbA.out.2.1.below hu (Nat.le_refl _)).cell 2 rfl; go_simp⟩) hS0 ?_; go_frame; refine tg 2 16 (.bool false) hS0 ?_; go_frame; refine tg 3 17 (.bool false) hS0 ?_; go_frame; refine tg 4 18 (.pointer (some ⟨wr.heap.size, 2, none⟩)) hS0 ?_; go_frame; refine held_tk (i := 5) (dst := some 19) (v := .int .i64 p) rfl rfl (.inl ⟨rfl, fun u hu => by have c9 := (hbA.out.2.1.below hu (Nat.le_refl _)).cell 2 rfl; go_simp⟩) hS0 ?_; go_frame; refine tg 6 20 (.bool false) hS0 ?_; go_frame; refine tg 7 21 (.bool false) hS0 ?_; go_frame; refine tg 8 22 (.bool false) hS0 ?_; go_frame; refine tg 9 23 (.pointer (some ⟨wr.heap.size, 0, none⟩)) hS0 ?_; go_frame; refine tg 10 24 (.pointer (some ⟨wr.heap.size, 0, none⟩)) hS0 ?_
              go_frame; refine held_tk (i := 11) (dst := some 25) (v := .int .i64 t) rfl rfl (.inl ⟨rfl, fun u hu => by have c9 := (hbA.out.2.1.below hu (Nat.le_refl _)).cell 0 rfl; go_simp⟩) hS0 ?_; go_frame; refine held_call (i := 12) (dst := some 26) rfl rfl (by kernel_rfl) rfl (by go_simp) (htab.out _) ?_; rintro e u1 ⟨rfl, rfl⟩; refine ⟨_, rfl, hS0, ?_⟩; go_frame; refine tg 13 27 (.bool false) hS0 ?_; go_frame; refine tg 14 28 (.bool false) hS0 ?_; go_frame; refine tg 15 29 (.bool false) hS0 ?_; go_frame; refine tg 16 30 (.int .i64 0) hS0 ?_; go_frame; refine tg 17 31 (.bool true) hS0 ?_; go_frame; refine tg 18 32 (.bool true) hS0 ?_; go_frame; refine tg 19 33 (.pointer (some ⟨wr.heap.size, 0, none⟩)) hS0 ?_; go_frame; refine held_tk (i := 20) (dst := some 34) rfl rfl (y_load_agg 66 (.tmp 33) rfl rfl rfl (fun u hu => run_loadVar_at Tryz.underlying66 rfl hs3 _ (hkey.out u hu))) hS0 ?_
              go_frame; refine tg 21 35 (.agg #[.int .i64 0, .int .u16 0]) hS0 ?_; go_frame; refine tg 22 36 (.bool true) hS0 ?_; go_frame; refine tg 23 37 (.bool true) hS0 ?_; go_frame; refine tg 24 38 (.bool true) hS0 ?_; go_frame; refine tg 25 39 (.bool true) hS0 ?_; go_frame; refine tu 26 40 hS0 ?_; go_frame; refine tu 27 41 hS0 ?_; go_frame; refine tu 28 42 hS0 ?_; go_frame; refine tu 29 43 hS0 ?_; go_frame; refine tu 30 44 hS0 ?_; go_frame; refine tu 31 45 hS0 ?_; go_frame; refine tu 32 46 hS0 ?_; go_frame; refine tu 33 47 hS0 ?_; go_frame; refine tu 34 48 hS0 ?_; go_frame; refine tu 35 49 hS0 ?_; go_frame; refine tu 36 50 hS0 ?_; go_frame; refine tu 37 51 hS0 ?_; go_frame; refine tu 38 52 hS0 ?_; go_frame; refine tu 39 53 hS0 ?_; go_frame; refine tu 40 54 hS0 ?_; go_frame; refine tg 41 55 (.bool true) hS0 ?_; go_frame; refine wpAnyH_done (by kernel_rfl) ?_ _; go_wp2; go_ret; exact ⟨false, rfl, ⟨fun h => (by cases h), fun h => absurd h hno.out⟩, hwA.out.trans (hS0.mono hwA.out.size)⟩
            | true =>
              go_wp2_with (first
               | (with_reducible refine wpList_load_at rfl 100 (.tmp 12) rfl Tryz.underlying100 rfl hs2 rfl hcell.out ?_))
              refine wp_region_held (S := fun u => Below WA.heap.size WA u) (by kernel_rfl) ?_
              try rw [hWA]
              change wpAnyH _ _ _ _ _ _ _ _ (World.drew WA); refine tg 0 14 (.pointer (some ⟨wr.heap.size, 2, none⟩)) hS0 ?_; go_frame; refine held_tk (i := 1) (dst := some 15) (v := .int .i64 p) rfl rfl (.inl ⟨rfl, fun u hu => by have c9 := (hbA.out.2.1.below hu (Nat.le_refl _)).cell 2 rfl; go_simp⟩) hS0 ?_; go_frame; refine tg 2 16 (.bool false) hS0 ?_; go_frame; refine tg 3 17 (.bool false) hS0 ?_; go_frame; refine tg 4 18 (.pointer (some ⟨wr.heap.size, 2, none⟩)) hS0 ?_; go_frame; refine held_tk (i := 5) (dst := some 19) (v := .int .i64 p) rfl rfl (.inl ⟨rfl, fun u hu => by have c9 := (hbA.out.2.1.below hu (Nat.le_refl _)).cell 2 rfl; go_simp⟩) hS0 ?_; go_frame; refine tg 6 20 (.bool false) hS0 ?_; go_frame; refine tg 7 21 (.bool false) hS0 ?_; go_frame; refine tg 8 22 (.bool false) hS0 ?_; go_frame; refine tg 9 23 (.pointer (some ⟨wr.heap.size, 0, none⟩)) hS0 ?_; go_frame; refine tg 10 24 (.pointer (some ⟨wr.heap.size, 0, none⟩)) hS0 ?_
              go_frame; refine held_tk (i := 11) (dst := some 25) (v := .int .i64 t) rfl rfl (.inl ⟨rfl, fun u hu => by have c9 := (hbA.out.2.1.below hu (Nat.le_refl _)).cell 0 rfl; go_simp⟩) hS0 ?_; go_frame; refine held_call (i := 12) (dst := some 26) rfl rfl (by kernel_rfl) rfl (by go_simp) (htab.out _) ?_; rintro e u1 ⟨rfl, rfl⟩; refine ⟨_, rfl, hS0, ?_⟩; go_frame; refine tg 13 27 (.bool false) hS0 ?_; go_frame; refine tg 14 28 (.bool false) hS0 ?_; go_frame; refine tg 15 29 (.bool false) hS0 ?_; go_frame; refine tg 16 30 (.int .i64 0) hS0 ?_; go_frame; refine tg 17 31 (.bool true) hS0 ?_; go_frame; refine tg 18 32 (.bool true) hS0 ?_; go_frame; refine tg 19 33 (.pointer (some ⟨wr.heap.size, 0, none⟩)) hS0 ?_; go_frame; refine held_tk (i := 20) (dst := some 34) rfl rfl (y_load_agg 66 (.tmp 33) rfl rfl rfl (fun u hu => run_loadVar_at Tryz.underlying66 rfl hs3 _ (hkey.out u hu))) hS0 ?_
              go_frame; refine tg 21 35 (.agg #[.int .i64 0, .int .u16 0]) hS0 ?_; go_frame; refine tg 22 36 (.bool false) hS0 ?_; go_frame; refine tg 23 37 (.bool false) hS0 ?_; go_frame; refine tg 24 38 (.bool false) hS0 ?_; go_frame; refine tg 25 39 (.bool false) hS0 ?_; go_frame; refine tg 26 40 (.int .i64 0) hS0 ?_; go_frame; refine tg 27 41 (.bool false) hS0 ?_; go_frame; refine tg 28 42 (.bool false) hS0 ?_; go_frame; refine tu 29 43 hS0 ?_; go_frame; refine tu 30 44 hS0 ?_; go_frame; refine tu 31 45 hS0 ?_; go_frame; refine tu 32 46 hS0 ?_; go_frame; refine tu 33 47 hS0 ?_; go_frame; refine tu 34 48 hS0 ?_; go_frame; refine tu 35 49 hS0 ?_; go_frame; refine tu 36 50 hS0 ?_; go_frame; refine tu 37 51 hS0 ?_; go_frame; refine tu 38 52 hS0 ?_; go_frame; refine tu 39 53 hS0 ?_; go_frame; refine tg 40 54 (.bool false) hS0 ?_; go_frame; refine tg 41 55 (.bool false) hS0 ?_; go_frame; refine wpAnyH_done (by kernel_rfl) ?_ _
              have hbD := lh (hwA.out.trans (hS0.mono hwA.out.size)); have hbE := lh hS0; have hsl := fun u => slice_kids (some A) n c 0 (by omega) hrr.out.le u
              clear hnk htab; go_wp2
              go_loopw [60] (fun v60 wj => v60 = .int .i64 0 ∧ Hid (Below w.heap.size w wj)) (fun _ _ => 0)
              case atStart => exact ⟨rfl, hbD⟩
              case round =>
               obtain ⟨rfl, hj1⟩ := hrel; go_wp2
               go_roundw
               case rel =>
                refine ⟨1, by omega, by go_num, hj1, fun i r hi hr => ?_⟩; obtain rfl : i = 0 := by omega
                rw [hx'.out] at hr; cases hr; exact hft.out
               case measure => simp [RowKit.intOf]; omega
          | succ m =>
            rw [show ((m + 1 : Nat) : Int) = (m : Int) + 1 from rfl]; obtain ⟨A', ⟨⟨pt, pid⟩, pv⟩, hqA', hpx, hpok, hpc⟩ := hrA.out.at (show m < n by omega); cases hqA'; have hpid := hpok.key.id; have hp3 := tab_of (fitsK_base (hp.out m _ (by omega) hpx)).1; have hft := fitsK_next hpx hx'.out hpid hid; rw [hB'.out, hpg.out, Bool.true_and, Bool.true_and] at hft
            have hpk : Hid (∀ u, Below WA.heap.size WA u → ∀ j x, ([.int .i64 pt, .int .u16 pid] : List Value)[j]? = some x → u.cell? ((A.add (m * 3)).add j) = some x) := fun u hu j x hj => cell_keeps hu (Nat.le_refl _) (hpc j x (by
             match j, hj with
             | 0, hj => exact hj
             | 1, hj => exact hj
             | j + 2, hj => simp at hj))
            have hsp := sizeKey pt pid; have ho1 := lh (fun u => order_any pt pid u hp3.1 hp3.2 hpid.1 hpid.2); have ho2 := lh (fun u => order_any t id u ht3.1 ht3.2 hid.1 hid.2); obtain ⟨x1, hx1⟩ : ∃ x, ordK ⟨pt, pid⟩ = x := ⟨_, rfl⟩; obtain ⟨x2, hx2⟩ : ∃ x, ordK ⟨t, id⟩ = x := ⟨_, rfl⟩; rw [hx1] at ho1; rw [hx2] at ho2; have hft2 : fitsK (L.take (m + 1)) ⟨⟨t, id⟩, p⟩ = (decide (x1 < x2) && !hasP (L.take (m + 1)) p) := by rw [hft, ← hx1, ← hx2]
            have hft' := lh hft2; have w0' : IntKind.i64.wrap ((m : Int) + 1 - 1) = m := by rw [Int.add_sub_cancel]; exact IntWalk.i64_in (m : Int) (by omega)
            have w1' : IntKind.i64.wrap (m : Int) = m := IntWalk.i64_in (m : Int) (by omega); have j0 : (0 : Int) ≤ m := by omega
            have j1 : (m : Int) < n := by omega
            have j2 : (0 : Int) < (m : Int) + 1 := by omega
            have j3 : decide ((0 : Int) < (m : Int) + 1) = true := decide_eq_true j2; have j4 : ((m : Int) + 1 == 0) = false := by rw [beq_eq_false_iff_ne]; omega
            clear hpx hpc hpok hft hft2 hx1 hx2 hp3
            by_cases hge : x2 ≤ x1
            · have hd : decide (x2 ≤ x1) = true := decide_eq_true hge; have hno : Hid (¬ GoodK L) := fun h => by have h1 := h.fits (m + 1) _ hx'.out; rw [hft'.out, Bool.and_eq_true] at h1; have := of_decide_eq_true h1.1; omega
              go_wp2_with (first
               | (with_reducible refine wpList_load_at rfl 100 (.tmp 12) rfl Tryz.underlying100 rfl hs2 rfl hcell.out ?_))
              refine wp_region_held (S := fun u => Below WA.heap.size WA u) (by kernel_rfl) ?_
              try rw [hWA]
              change wpAnyH _ _ _ _ _ _ _ _ (World.drew WA); refine tg 0 14 (.pointer (some ⟨wr.heap.size, 2, none⟩)) hS0 ?_; go_frame; refine held_tk (i := 1) (dst := some 15) (v := .int .i64 p) rfl rfl (.inl ⟨rfl, fun u hu => by have c9 := (hbA.out.2.1.below hu (Nat.le_refl _)).cell 2 rfl; go_simp⟩) hS0 ?_; go_frame; refine tg 2 16 (.bool false) hS0 ?_; go_frame; refine tg 3 17 (.bool false) hS0 ?_; go_frame; refine tg 4 18 (.pointer (some ⟨wr.heap.size, 2, none⟩)) hS0 ?_; go_frame; refine held_tk (i := 5) (dst := some 19) (v := .int .i64 p) rfl rfl (.inl ⟨rfl, fun u hu => by have c9 := (hbA.out.2.1.below hu (Nat.le_refl _)).cell 2 rfl; go_simp⟩) hS0 ?_; go_frame; refine tg 6 20 (.bool false) hS0 ?_; go_frame; refine tg 7 21 (.bool false) hS0 ?_; go_frame; refine tg 8 22 (.bool false) hS0 ?_; go_frame; refine tg 9 23 (.pointer (some ⟨wr.heap.size, 0, none⟩)) hS0 ?_; go_frame; refine tg 10 24 (.pointer (some ⟨wr.heap.size, 0, none⟩)) hS0 ?_
              go_frame; refine held_tk (i := 11) (dst := some 25) (v := .int .i64 t) rfl rfl (.inl ⟨rfl, fun u hu => by have c9 := (hbA.out.2.1.below hu (Nat.le_refl _)).cell 0 rfl; go_simp⟩) hS0 ?_; go_frame; refine held_call (i := 12) (dst := some 26) rfl rfl (by kernel_rfl) rfl (by go_simp) (htab.out _) ?_; rintro e u1 ⟨rfl, rfl⟩; refine ⟨_, rfl, hS0, ?_⟩; go_frame; refine tg 13 27 (.bool false) hS0 ?_; go_frame; refine tg 14 28 (.bool false) hS0 ?_; go_frame; refine tg 15 29 (.bool false) hS0 ?_; go_frame; refine tg 16 30 (.int .i64 ((m : Int) + 1)) hS0 ?_; go_frame; refine tg 17 31 (.bool false) hS0 ?_; go_frame; refine tg 18 32 (.bool false) hS0 ?_; go_frame; refine tu 19 33 hS0 ?_; go_frame; refine tu 20 34 hS0 ?_; go_frame; refine tu 21 35 hS0 ?_; go_frame; refine tu 22 36 hS0 ?_; go_frame; refine tg 23 37 (.bool false) hS0 ?_; go_frame; refine tg 24 38 (.bool false) hS0 ?_; go_frame
              refine tg 25 39 (.bool false) hS0 ?_; go_frame; refine tg 26 40 (.int .i64 ((m : Int) + 1)) hS0 ?_; go_frame; refine tg 27 41 (.bool true) hS0 ?_; go_frame; refine tg 28 42 (.bool true) hS0 ?_; go_frame; refine tg 29 43 (.slice (some A) n c) hS0 ?_; go_frame; refine tg 30 44 (.int .i64 ((m : Int) + 1)) hS0 ?_; go_frame; refine tg 31 45 (.int .i64 m) hS0 ?_; go_frame; refine tg 32 46 (.pointer (some (A.add (m * 3)))) hS0 ?_; go_frame; refine tg 33 47 (.pointer (some (A.add (m * 3)))) hS0 ?_; go_frame; refine held_tk (i := 34) (dst := some 48) rfl rfl (y_load_agg 66 (.tmp 47) rfl rfl rfl (fun u hu => run_loadVar_at Tryz.underlying66 rfl hsp _ (hpk.out u hu))) hS0 ?_; go_frame; refine tg 36 50 (.pointer (some ⟨wr.heap.size, 0, none⟩)) hS0 ?_; go_frame; refine held_tk (i := 37) (dst := some 51) rfl rfl (y_load_agg 66 (.tmp 50) rfl rfl rfl (fun u hu => run_loadVar_at Tryz.underlying66 rfl hs3 _ (hkey.out u hu))) hS0 ?_
              go_frame; refine held_call (i := 35) (dst := some 49) rfl rfl (by kernel_rfl) rfl (by go_simp) (ho1.out _) ?_; rintro e u2 ⟨rfl, hb2⟩; have hS2 := below_step hb2 hS0; refine ⟨_, rfl, hS2, ?_⟩; go_frame; refine held_call (i := 38) (dst := some 52) rfl rfl (by kernel_rfl) rfl (by go_simp) (ho2.out _) ?_; rintro e u3 ⟨rfl, hb3⟩; have hS3 := below_step hb3 hS2; refine ⟨_, rfl, hS3, ?_⟩; go_frame; refine tg 39 53 (.bool true) hS3 ?_; go_frame; refine tg 40 54 (.bool true) hS3 ?_; go_frame; refine tg 41 55 (.bool true) hS3 ?_; go_frame; refine wpAnyH_done (by kernel_rfl) ?_ _; go_wp2; go_ret; exact ⟨false, rfl, ⟨fun h => (by cases h), fun h => absurd h hno.out⟩, hwA.out.trans (hS3.mono hwA.out.size)⟩
            · have hd : decide (x2 ≤ x1) = false := decide_eq_false hge; have hft3 : Hid (fitsK (L.take (m + 1)) ⟨⟨t, id⟩, p⟩ = !hasP (L.take (m + 1)) p) := by show _ = _; rw [hft'.out, decide_eq_true (show x1 < x2 by omega)]; rfl
              go_wp2_with (first
               | (with_reducible refine wpList_load_at rfl 100 (.tmp 12) rfl Tryz.underlying100 rfl hs2 rfl hcell.out ?_))
              refine wp_region_held (S := fun u => Below WA.heap.size WA u) (by kernel_rfl) ?_
              try rw [hWA]
              change wpAnyH _ _ _ _ _ _ _ _ (World.drew WA); refine tg 0 14 (.pointer (some ⟨wr.heap.size, 2, none⟩)) hS0 ?_; go_frame; refine held_tk (i := 1) (dst := some 15) (v := .int .i64 p) rfl rfl (.inl ⟨rfl, fun u hu => by have c9 := (hbA.out.2.1.below hu (Nat.le_refl _)).cell 2 rfl; go_simp⟩) hS0 ?_; go_frame; refine tg 2 16 (.bool false) hS0 ?_; go_frame; refine tg 3 17 (.bool false) hS0 ?_; go_frame; refine tg 4 18 (.pointer (some ⟨wr.heap.size, 2, none⟩)) hS0 ?_; go_frame; refine held_tk (i := 5) (dst := some 19) (v := .int .i64 p) rfl rfl (.inl ⟨rfl, fun u hu => by have c9 := (hbA.out.2.1.below hu (Nat.le_refl _)).cell 2 rfl; go_simp⟩) hS0 ?_; go_frame; refine tg 6 20 (.bool false) hS0 ?_; go_frame; refine tg 7 21 (.bool false) hS0 ?_; go_frame; refine tg 8 22 (.bool false) hS0 ?_; go_frame; refine tg 9 23 (.pointer (some ⟨wr.heap.size, 0, none⟩)) hS0 ?_; go_frame; refine tg 10 24 (.pointer (some ⟨wr.heap.size, 0, none⟩)) hS0 ?_
              go_frame; refine held_tk (i := 11) (dst := some 25) (v := .int .i64 t) rfl rfl (.inl ⟨rfl, fun u hu => by have c9 := (hbA.out.2.1.below hu (Nat.le_refl _)).cell 0 rfl; go_simp⟩) hS0 ?_; go_frame; refine held_call (i := 12) (dst := some 26) rfl rfl (by kernel_rfl) rfl (by go_simp) (htab.out _) ?_; rintro e u1 ⟨rfl, rfl⟩; refine ⟨_, rfl, hS0, ?_⟩; go_frame; refine tg 13 27 (.bool false) hS0 ?_; go_frame; refine tg 14 28 (.bool false) hS0 ?_; go_frame; refine tg 15 29 (.bool false) hS0 ?_; go_frame; refine tg 16 30 (.int .i64 ((m : Int) + 1)) hS0 ?_; go_frame; refine tg 17 31 (.bool false) hS0 ?_; go_frame; refine tg 18 32 (.bool false) hS0 ?_; go_frame; refine tu 19 33 hS0 ?_; go_frame; refine tu 20 34 hS0 ?_; go_frame; refine tu 21 35 hS0 ?_; go_frame; refine tu 22 36 hS0 ?_; go_frame; refine tg 23 37 (.bool false) hS0 ?_; go_frame; refine tg 24 38 (.bool false) hS0 ?_; go_frame
              refine tg 25 39 (.bool false) hS0 ?_; go_frame; refine tg 26 40 (.int .i64 ((m : Int) + 1)) hS0 ?_; go_frame; refine tg 27 41 (.bool true) hS0 ?_; go_frame; refine tg 28 42 (.bool true) hS0 ?_; go_frame; refine tg 29 43 (.slice (some A) n c) hS0 ?_; go_frame; refine tg 30 44 (.int .i64 ((m : Int) + 1)) hS0 ?_; go_frame; refine tg 31 45 (.int .i64 m) hS0 ?_; go_frame; refine tg 32 46 (.pointer (some (A.add (m * 3)))) hS0 ?_; go_frame; refine tg 33 47 (.pointer (some (A.add (m * 3)))) hS0 ?_; go_frame; refine held_tk (i := 34) (dst := some 48) rfl rfl (y_load_agg 66 (.tmp 47) rfl rfl rfl (fun u hu => run_loadVar_at Tryz.underlying66 rfl hsp _ (hpk.out u hu))) hS0 ?_; go_frame; refine tg 36 50 (.pointer (some ⟨wr.heap.size, 0, none⟩)) hS0 ?_; go_frame; refine held_tk (i := 37) (dst := some 51) rfl rfl (y_load_agg 66 (.tmp 50) rfl rfl rfl (fun u hu => run_loadVar_at Tryz.underlying66 rfl hs3 _ (hkey.out u hu))) hS0 ?_
              go_frame; refine held_call (i := 35) (dst := some 49) rfl rfl (by kernel_rfl) rfl (by go_simp) (ho1.out _) ?_; rintro e u2 ⟨rfl, hb2⟩; have hS2 := below_step hb2 hS0; refine ⟨_, rfl, hS2, ?_⟩; go_frame; refine held_call (i := 38) (dst := some 52) rfl rfl (by kernel_rfl) rfl (by go_simp) (ho2.out _) ?_; rintro e u3 ⟨rfl, hb3⟩; have hS3 := below_step hb3 hS2; refine ⟨_, rfl, hS3, ?_⟩; go_frame; refine tg 39 53 (.bool false) hS3 ?_; go_frame; refine tg 40 54 (.bool false) hS3 ?_; go_frame; refine tg 41 55 (.bool false) hS3 ?_; go_frame; refine wpAnyH_done (by kernel_rfl) ?_ _; have hbD := lh (hwA.out.trans (hS3.mono hwA.out.size)); have hbE := lh hS3; have hsl : ∀ u, (Instr.slice 53 (.slice (some A) n c) none (some (.int .i64 ((m : Int) + 1))) none).run Tryz.prog u = .ok (.slice (some A) (m + 1) c) u := fun u => slice_kids (some A) n c (m + 1) (by omega) hrr.out.le u
              clear w0' w1' ho1 ho2 htab j3 j4; go_wp2
              go_loopw [60] (fun v60 wj => ∃ j : Nat, j ≤ (m + 1) ∧ v60 = .int .i64 j ∧ Hid (Below w.heap.size w wj) ∧ Hid (Below WA.heap.size WA wj) ∧ Hid (∀ (i : Nat) (r : KidD), i < j → L[i]? = some r → r.page ≠ p)) (fun v60 _ => (m + 1) - (RowKit.intOf v60).toNat)
              case atStart => exact ⟨0, Nat.zero_le _, rfl, hbD, hbE, fun i r hi => by omega⟩
              case round =>
               obtain ⟨j, hj, rfl, hj1, hj2, hj3⟩ := hrel; obtain ⟨wo, rfl⟩ : ∃ x, x = wr := ⟨_, rfl⟩
               by_cases hjl : j < (m + 1)
               · obtain ⟨A'', ⟨⟨yt, yid⟩, yp⟩, hqy, hy, hyok, hyc⟩ := (hrr.out.below hj1.out (Nat.le_refl _)).at (show j < n by omega); cases hqy; have hycell : Hid (∀ jj x, ([.int .i64 yt, .int .u16 yid, .int .i64 yp] : List Value)[jj]? = some x → wo.cell? ((A.add (j * 3)).add jj) = some x) := hyc; have hsy := sizeKid yt yid yp; have hy' := lh hy; obtain ⟨WB, hWB⟩ : ∃ W', wo.alloc (.cells #[.int .i64 yt, .int .u16 yid, .int .i64 yp] 100) = W' := ⟨_, rfl⟩; have hbB := lh (one_box hWB); have hwB := lh (below_step hbB.out.1 hj2.out); have hwC := lh (below_step hbB.out.1 hj1.out); have e1 := hbB.out.2.1.cell 2 rfl; have e2 := (hbA.out.2.1.below hwB.out (Nat.le_refl _)).cell 2 rfl; have l0 : (0 : Int) ≤ j := by omega
                 have l1 : (j : Int) < (m : Int) + 1 := by omega
                 clear hy hyok hyc
                 by_cases hyp : yp = p
                 · have hyb : (yp == p) = true := by rw [beq_iff_eq]; exact hyp
                   have hno : Hid (¬ GoodK L) := fun h => by have h1 := h.fits (m + 1) _ hx'.out; rw [hft3.out] at h1; have h2 : hasP (L.take (m + 1)) p = true := hasP_true (i := j) (by rw [List.getElem?_take, if_pos hjl]; exact hy'.out) hyp; rw [h2] at h1; cases h1
                   clear hyp
                   go_wp2_with (first
                    | (with_reducible refine wpList_load_at rfl 100 (.tmp 62) rfl Tryz.underlying100 rfl hsy rfl hycell.out ?_))
                   clear hWB; go_ret; exact ⟨false, rfl, ⟨fun h => (by cases h), fun h => absurd h hno.out⟩, hwC.out⟩
                 · have hyb : (yp == p) = false := by rw [beq_eq_false_iff_ne]; exact hyp
                   have hyp' := lh hyp; clear hyp
                   go_wp2_with (first
                    | (with_reducible refine wpList_load_at rfl 100 (.tmp 62) rfl Tryz.underlying100 rfl hsy rfl hycell.out ?_))
                   clear hWB
                   go_roundw
                   case rel =>
                    refine ⟨j + 1, by omega, by go_num, hwC, hwB, fun i r hi hr => ?_⟩; rcases Nat.lt_or_ge i j with h | h
                    · exact hj3.out i r h hr
                    · obtain rfl : i = j := by omega
                      rw [hy'.out] at hr; cases hr; exact hyp'.out
                   case measure => simp [RowKit.intOf]; omega
               · obtain rfl : j = (m + 1) := by omega
                 have hall : Hid (fitsK (L.take (m + 1)) ⟨⟨t, id⟩, p⟩ = true) := by show _ = _; rw [hft3.out]; rw [hasP_false (fun i x hi => hj3.out i x (by have := (List.getElem?_eq_some_iff.1 hi).1; rw [List.length_take] at this; omega) (by rw [List.getElem?_take] at hi; split at hi; exact hi; cases hi))]; rfl
                 go_wp2
                 go_roundw
                 case rel =>
                  refine ⟨(m + 1) + 1, by omega, by go_num, hj1, fun i r hi hr => ?_⟩; rcases Nat.lt_or_ge i (m + 1) with h | h
                  · exact hp.out i r h hr
                  · obtain rfl : i = (m + 1) := by omega
                    rw [hx'.out] at hr; cases hr; exact hall.out
                 case measure => simp [RowKit.intOf]; omega
  · obtain rfl : n = k := by omega
    by_cases h2 : 2 ≤ n
    · have d2 : decide (2 ≤ (n : Int)) = true := decide_eq_true (by omega)
      by_cases h4 : n ≤ 4
      · have d4 : decide ((n : Int) ≤ 4) = true := decide_eq_true (by omega)
        go_wp2; go_ret; exact ⟨true, rfl, ⟨fun _ => ⟨by rw [hrl.out]; exact h2, by rw [hrl.out]; exact h4, fun i r hi => hp.out i r (by have := (List.getElem?_eq_some_iff.1 hi).1; rw [hrl.out] at this; exact this) hi⟩, fun _ => rfl⟩, hrl2.out⟩
      · have d4 : decide ((n : Int) ≤ 4) = false := decide_eq_false (by omega)
        go_wp2; go_ret; exact ⟨false, rfl, ⟨fun h => (by cases h), fun h => absurd h.len (by rw [hrl.out]; exact h4)⟩, hrl2.out⟩
    · have d2 : decide (2 ≤ (n : Int)) = false := decide_eq_false (by omega)
      go_wp2; go_ret; exact ⟨false, rfl, ⟨fun h => (by cases h), fun h => absurd h.few (by rw [hrl.out]; exact h2)⟩, hrl2.out⟩
end Go.Proofs.YtocekhckmpkbmaaGreat
