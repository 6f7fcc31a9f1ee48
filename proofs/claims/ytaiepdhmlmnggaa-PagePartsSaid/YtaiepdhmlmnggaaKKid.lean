/- Which kid may stand behind others; kids compared. -/
import Derived.Test.YtaiepdhmlmnggaaKFit
namespace Go.Proofs.Ytaiepdhmlmnggaa
open Go.RowKit

def hasP (L : List KidD) (p : Int) : Bool := L.any fun x => x.page == p
theorem hasP_true {L : List KidD} {p : Int} {i : Nat} {x : KidD} (hx : L[i]? = some x) (h : x.page = p) : hasP L p = true := by
  unfold hasP
  rw [List.any_eq_true]
  exact ⟨x, List.mem_of_getElem? hx, by simpa using h⟩
theorem hasP_false {L : List KidD} {p : Int} (h : ∀ (i : Nat) (x : KidD), L[i]? = some x → x.page ≠ p) : hasP L p = false := by
  unfold hasP
  rw [List.any_eq_false]
  intro x hx
  obtain ⟨i, hi⟩ := List.mem_iff_getElem?.1 hx
  simpa using h i x hi

set_option maxRecDepth 100000 in
set_option maxHeartbeats 1000000 in
theorem taken_any (t id a p : Int) (b : Nat) (w : World) (hc : w.cell? ⟨b, 2, none⟩ = some (.int .i64 p)) :
    Calls Try.prog 86 #[.agg #[.int .i64 t, .int .u16 id, .int .i64 a], .pointer (some ⟨b, 0, none⟩)] w (fun e w' => e = .returned (.bool (a == p)) ∧ Below w.heap.size w w') := by
  have hb := cell_in hc
  have hb2 : b < w.heap.size := hb
  have hd : Hid (Below w.heap.size w (w.alloc (.cells #[.int .i64 t, .int .u16 id, .int .i64 a] 64))) := (Below.refl _ _).alloc (Nat.le_refl _) _
  clear hb
  obtain ⟨W, hW⟩ : ∃ W, w.alloc (.cells #[.int .i64 t, .int .u16 id, .int .i64 a] 64) = W := ⟨_, rfl⟩
  have hbx := Lib.hid (one_box (xs := [.int .i64 t, .int .u16 id, .int .i64 a]) hW)
  have c2 := hbx.out.2.1.cell 2 rfl
  have d2 := cell_keeps hbx.out.1 (Nat.le_refl _) hc
  clear hc
  by_cases h : a = p
  · rw [show (a == p) = true by simpa using h]
    subst h
    go_enter Try.func86, Try.ntmps86
    go_wp2
    go_ret
    exact ⟨rfl, hbx.out.1⟩
  · have h2 : (a == p) = false := by simpa using h
    rw [h2]
    go_enter Try.func86, Try.ntmps86
    go_wp2
    go_ret
    exact ⟨rfl, hbx.out.1⟩

def IdxPost (w : World) (b : Bool) (e : Ending) (w' : World) : Prop := ∃ z : Int, e = .returned (.int .i64 z) ∧ ((0 ≤ z ∧ b = true) ∨ (z = -1 ∧ b = false)) ∧ Below w.heap.size w w'

set_option maxRecDepth 100000 in
set_option maxHeartbeats 2000000 in
theorem index_any (q : Option Addr) (n c : Nat) (L : List KidD) (p : Int) (b : Nat) (w : World) (hr : KidsOn w q n c L) (hc : w.cell? ⟨b, 2, none⟩ = some (.int .i64 p)) :
    Calls Try.prog 96 #[.slice q n c, .func (.func 86) #[] #[.pointer (some ⟨b, 0, none⟩)]] w (IdxPost w (hasP L p)) := by
  have hrr := Lib.hid hr
  have hm := Nat.le_trans hr.le hr.cap
  unfold maxLen at hm
  have hcc := Lib.hid hc
  have hT : Hid (∀ (i : Nat) (x : KidD), L[i]? = some x → x.page = p → hasP L p = true) := fun i x hx h => hasP_true hx h
  have hF : Hid ((∀ (i : Nat) (x : KidD), L[i]? = some x → x.page ≠ p) → hasP L p = false) := fun h => hasP_false h
  obtain ⟨E, hE⟩ : ∃ E, hasP L p = E := ⟨_, rfl⟩
  rw [hE] at hT hF ⊢
  clear hr hc hE
  go_enter Try.func96, Try.ntmps96
  go_wp2
  go_loopw [8] (fun v8 wr => ∃ k : Nat, k ≤ n ∧ v8 = .int .i64 k ∧ Hid (Below w.heap.size w wr) ∧ Hid (∀ (i : Nat) (x : KidD), i < k → L[i]? = some x → x.page ≠ p)) (fun v8 _ => n - (RowKit.intOf v8).toNat)
  case atStart => exact ⟨0, Nat.zero_le _, rfl, (show Below _ _ _ from Below.refl _ _), fun i x hi => by omega⟩
  case round =>
    obtain ⟨k, hk, rfl, hb, hp⟩ := hrel
    by_cases hlt : k < n
    · obtain ⟨A, ⟨⟨pt, pid⟩, pp⟩, hqA, hx, hok, hcA⟩ := (hrr.out.below hb.out (Nat.le_refl _)).at hlt
      subst hqA
      have hcell : Hid (∀ j x, ([.int .i64 pt, .int .u16 pid, .int .i64 pp] : List Value)[j]? = some x → wr.cell? ((A.add (k * 3)).add j) = some x) := hcA
      have hs2 := sizeKid pt pid pp
      have hx' := Lib.hid hx
      have htk := Lib.hid (taken_any pt pid pp p b wr (cell_keeps hb.out (Nat.le_refl _) hcc.out))
      have i0 : (0 : Int) ≤ k := by omega
      have i1 : (k : Int) < n := by omega
      clear hx hok hcA
      by_cases h : pp = p
      · rw [show (pp == p) = true by simpa using h] at htk
        have h' := Lib.hid h
        clear h
        go_wp2_with (first
          | (with_reducible refine wpList_load_at rfl 64 (.tmp 14) rfl Try.underlying64 rfl hs2 rfl hcell.out ?_))
        refine htk.out.mono ?_
        clear htk
        rintro e w1 ⟨rfl, hb1⟩
        have hd := Lib.hid (hb.out.trans (hb1.mono hb.out.size))
        clear hb1
        go_wp2
        go_ret
        exact ⟨_, rfl, .inl ⟨i0, hT.out k _ hx'.out h'.out⟩, hd.out⟩
      · rw [show (pp == p) = false by simpa using h] at htk
        have h' := Lib.hid h
        clear h
        go_wp2_with (first
          | (with_reducible refine wpList_load_at rfl 64 (.tmp 14) rfl Try.underlying64 rfl hs2 rfl hcell.out ?_))
        refine htk.out.mono ?_
        clear htk
        rintro e w1 ⟨rfl, hb1⟩
        have hd := Lib.hid (hb.out.trans (hb1.mono hb.out.size))
        clear hb1
        go_wp2
        go_roundw
        case rel =>
          refine ⟨k + 1, by omega, by go_num, hd, fun i x hi hxi => ?_⟩
          rcases Nat.lt_or_ge i k with h | h
          · exact hp.out i x h hxi
          · obtain rfl : i = k := by omega
            rw [hx'.out] at hxi
            cases hxi
            exact h'.out
        case measure => simp [RowKit.intOf]; omega
    · obtain rfl : n = k := by omega
      have hno := Lib.hid (hF.out fun i x hx => hp.out i x (by have := (List.getElem?_eq_some_iff.1 hx).1; rw [hrr.out.len] at this; exact this) hx)
      go_wp2
      go_ret
      exact ⟨-1, rfl, .inr ⟨rfl, hno.out⟩, hb.out⟩

set_option maxRecDepth 100000 in
set_option maxHeartbeats 1000000 in
theorem contains_any (q : Option Addr) (n c : Nat) (L : List KidD) (p : Int) (b : Nat) (w : World) (hr : KidsOn w q n c L) (hc : w.cell? ⟨b, 2, none⟩ = some (.int .i64 p)) :
    Calls Try.prog 84 #[.slice q n c, .func (.func 86) #[] #[.pointer (some ⟨b, 0, none⟩)]] w (fun e w' => e = .returned (.bool (hasP L p)) ∧ Below w.heap.size w w') := by
  have hi := index_any q n c L p b w hr hc
  obtain ⟨E, hE⟩ : ∃ E, hasP L p = E := ⟨_, rfl⟩
  rw [hE] at hi ⊢
  have hi' := Lib.hid hi
  clear hi hE hc hr
  go_enter Try.func84, Try.ntmps84
  go_wp2_with fail
  refine hi'.out.mono ?_
  clear hi'
  rintro e w1 ⟨z, rfl, hz, hb1⟩
  have hb1' := Lib.hid hb1
  clear hb1
  rcases hz with ⟨h0, rfl⟩ | ⟨rfl, rfl⟩
  · go_wp2
    go_ret
    exact ⟨rfl, hb1'.out⟩
  · go_wp2
    go_ret
    exact ⟨rfl, hb1'.out⟩

def lastK (L : List KidD) (k : KidD) : Bool := match L[L.length - 1]? with | none => eqK k.least ⟨0, 0⟩ | some p => decide (cmpK p.least k.least < 0) && !hasP L k.page
def fitsK (L : List KidD) (k : KidD) : Bool := (tabB k.least.t && (decide (1 ≤ k.page) && decide (k.page < 64))) && lastK L k

set_option maxRecDepth 100000 in
set_option maxHeartbeats 4000000 in
theorem kidFits_any (q : Option Addr) (n c : Nat) (L : List KidD) (t id p : Int) (w : World) (hr : KidsOn w q n c L) :
    Calls Try.prog 64 #[.slice q n c, .agg #[.int .i64 t, .int .u16 id, .int .i64 p]] w (fun e w' => e = .returned (.bool (fitsK L ⟨⟨t, id⟩, p⟩)) ∧ Below w.heap.size w w') := by
  obtain ⟨W, hW⟩ : ∃ W, w.alloc (.cells #[.int .i64 t, .int .u16 id, .int .i64 p] 64) = W := ⟨_, rfl⟩
  have hbx := Lib.hid (one_box (xs := [.int .i64 t, .int .u16 id, .int .i64 p]) hW)
  have hs3 := sizeKey t id
  have k0 : Hid (∀ j x, ([.int .i64 t, .int .u16 id] : List Value)[j]? = some x → W.cell? ((⟨w.heap.size, 0, none⟩ : Addr).add j) = some x) := fun j x hj => hbx.out.2.1 j x (by
    match j, hj with
    | 0, hj => exact hj
    | 1, hj => exact hj
    | j + 2, hj => simp at hj)
  have hrr := Lib.hid (hr.below hbx.out.1 (Nat.le_refl _))
  have hlen := Lib.hid hr.len
  have hm := Nat.le_trans hr.le hr.cap
  unfold maxLen at hm
  have htb := Lib.hid (tabled_any t id W)
  obtain ⟨b, hb⟩ : ∃ b, tabB t = b := ⟨_, rfl⟩
  rw [hb] at htb
  have hb' := Lib.hid hb
  clear hb hr
  by_cases hok : b = true ∧ 1 ≤ p ∧ p < 64
  · obtain ⟨rfl, hp1, hp2⟩ := hok
    have hp1' : ¬ p < 1 := by omega
    have hp2' : ¬ 64 ≤ p := by omega
    have hfit : Hid (fitsK L ⟨⟨t, id⟩, p⟩ = lastK L ⟨⟨t, id⟩, p⟩) := by
      show fitsK _ _ = _
      unfold fitsK
      rw [show tabB (⟨⟨t, id⟩, p⟩ : KidD).least.t = true from hb'.out, show decide (1 ≤ (⟨⟨t, id⟩, p⟩ : KidD).page) = true from decide_eq_true hp1, show decide ((⟨⟨t, id⟩, p⟩ : KidD).page < 64) = true from decide_eq_true hp2]
      rfl
    rw [hfit.out]
    rcases Nat.eq_zero_or_pos n with hn0 | hn0
    · subst hn0
      have hL := List.eq_nil_of_length_eq_zero hlen.out
      subst hL
      show Calls _ _ _ _ (fun e w' => e = .returned (.bool (eqK ⟨t, id⟩ ⟨0, 0⟩)) ∧ Below w.heap.size w w')
      have heq := fun u => eq_key u t id 0 0
      obtain ⟨E, hE⟩ : ∃ E, eqK ⟨t, id⟩ ⟨0, 0⟩ = E := ⟨_, rfl⟩
      rw [hE] at heq ⊢
      clear hE
      go_enter Try.func64, Try.ntmps64
      go_wp2_with (first
        | (with_reducible refine wpList_load_at rfl 28 (.tmp 6) rfl Try.underlying28 rfl hs3 rfl k0.out ?_)
        | (go_at_call 71; refine htb.out.mono ?_; rintro e w1 ⟨rfl, hb1⟩; have hd := Lib.hid (hbx.out.1.trans (hb1.mono hbx.out.1.size)); have c2 := (hbx.out.2.1.below hb1 (Nat.le_refl _)).cell 2 rfl; have c0 := (hbx.out.2.1.below hb1 (Nat.le_refl _)).cell 0 rfl; have c1 := (hbx.out.2.1.below hb1 (Nat.le_refl _)).cell 1 rfl; clear hb1))
      go_ret
      exact ⟨rfl, hd.out⟩
    · obtain ⟨m, rfl⟩ : ∃ m, n = m + 1 := ⟨n - 1, by omega⟩
      obtain ⟨A, ⟨⟨pt, pid⟩, pp⟩, hqA, hpx, _, hpc⟩ := hrr.out.at (show m < m + 1 by omega)
      subst hqA
      have hlast : Hid (lastK L ⟨⟨t, id⟩, p⟩ = (decide (cmpK ⟨pt, pid⟩ ⟨t, id⟩ < 0) && !hasP L p)) := by
        show lastK _ _ = _
        unfold lastK
        rw [show L.length - 1 = m by rw [hlen.out]; rfl, hpx]
      rw [hlast.out]
      have hcmp := Lib.hid (fun u => compare_any ⟨pt, pid⟩ ⟨t, id⟩ u)
      obtain ⟨z, hz⟩ : ∃ z, cmpK ⟨pt, pid⟩ ⟨t, id⟩ = z := ⟨_, rfl⟩
      rw [hz] at hcmp ⊢
      have hcon := Lib.hid (fun u (hu : Below W.heap.size W u) => contains_any (some A) (m + 1) c L p w.heap.size u (hrr.out.below hu (Nat.le_refl _)) ((hbx.out.2.1.below hu (Nat.le_refl _)).cell 2 rfl))
      obtain ⟨H, hH⟩ : ∃ H, hasP L p = H := ⟨_, rfl⟩
      rw [hH] at hcon ⊢
      have g0 : W.cell? (A.add (m * 3)) = some (.int .i64 pt) := by have h := hpc 0 _ rfl; rwa [add0] at h
      have g1 : W.cell? ⟨(A.add (m * 3)).block, (A.add (m * 3)).off + 1, none⟩ = some (.int .u16 pid) := hpc 1 _ rfl
      have hg := Lib.hid (And.intro g0 g1)
      have w0 : IntKind.i64.wrap ((m : Int) + 1 - 1) = m := by rw [Int.add_sub_cancel]; exact IntWalk.i64_in (m : Int) (by omega)
      have w1' : IntKind.i64.wrap (m : Int) = m := IntWalk.i64_in (m : Int) (by omega)
      have j0 : (0 : Int) ≤ m := by omega
      have j1 : (m : Int) < (m : Int) + 1 := by omega
      clear hpx hpc g0 g1 hz hH
      by_cases hz0 : z < 0
      all_goals
        try rw [show decide (z < 0) = true from decide_eq_true hz0]
        try rw [show decide (z < 0) = false from decide_eq_false hz0]
        try (have hz1 : decide (z < 0) = false := decide_eq_false hz0)
        go_enter Try.func64, Try.ntmps64
        go_wp2_with (first
          | (with_reducible refine wpList_load_at rfl 28 (.tmp 6) rfl Try.underlying28 rfl hs3 rfl k0.out ?_)
          | (go_at_call 71; refine htb.out.mono ?_; rintro e w1 ⟨rfl, hb1⟩; have hd0 := Lib.hid hb1; have hd := Lib.hid (hbx.out.1.trans (hb1.mono hbx.out.1.size)); have p0 := (hbx.out.2.1.below hb1 (Nat.le_refl _)).cell 0 rfl; have p1 := (hbx.out.2.1.below hb1 (Nat.le_refl _)).cell 1 rfl; have p2 := (hbx.out.2.1.below hb1 (Nat.le_refl _)).cell 2 rfl; have g0 := cell_keeps hb1 (Nat.le_refl _) hg.out.1; have g1 := cell_keeps hb1 (Nat.le_refl _) hg.out.2; clear hb1))
        clear p2
      · go_region_held3 (fun u => u.cell? ⟨w.heap.size, 0, none⟩ = some (.int .i64 t) ∧ u.cell? ⟨w.heap.size, 1, none⟩ = some (.int .u16 id) ∧ u.cell? (A.add (m * 3)) = some (.int .i64 pt) ∧ u.cell? ⟨(A.add (m * 3)).block, (A.add (m * 3)).off + 1, none⟩ = some (.int .u16 pid) ∧ Below W.heap.size W u)
          (first | exact ⟨p0, p1, g0, g1, hd0.out.trans ((below_drew _).mono hd0.out.size)⟩ | (go_split_ands; exact ⟨cell_keeps hb6.out (Nat.le_refl _) (by assumption), cell_keeps hb6.out (Nat.le_refl _) (by assumption), cell_keeps hb6.out (Nat.le_refl _) (by assumption), cell_keeps hb6.out (Nat.le_refl _) (by assumption), below_step hb6.out (by assumption)⟩))
          (first
            | (go_at_call 70; refine (hcmp.out _).mono ?_; rintro e x5 ⟨rfl, hb6'⟩; have hb6 := Lib.hid hb6'; clear hb6')
            | (go_at_call 84; refine (hcon.out _ (by go_split_ands; assumption)).mono ?_; rintro e x6 ⟨rfl, hb6'⟩; have hb6 := Lib.hid hb6'; clear hb6'))
        have hv4 : Hid (Below W.heap.size W x6) := by
          show Below _ _ _
          go_split_ands
          assumption
        clear p0 p1 g0 g1 w0 w1' hcmp hcon
        go_wp2
        go_ret
        exact ⟨by simp, hbx.out.1.trans (hv4.out.mono hbx.out.1.size)⟩
      · have hpa : Hid (∀ j x, ([.int .i64 pt, .int .u16 pid] : List Value)[j]? = some x → w1.drew.cell? ((A.add (m * 3)).add j) = some x) := fun j x hj => by
          match j, hj with
          | 0, hj => rw [add0]; cases hj; exact g0
          | 1, hj => cases hj; exact g1
          | j + 2, hj => simp at hj
        have hka : Hid (∀ j x, ([.int .i64 t, .int .u16 id] : List Value)[j]? = some x → w1.drew.cell? ((⟨w.heap.size, 0, none⟩ : Addr).add j) = some x) := fun j x hj => cell_keeps hd0.out (Nat.le_refl _) (k0.out j x hj)
        have hs4 := sizeKey pt pid
        have hS0 : Hid ((∀ j x, ([.int .i64 pt, .int .u16 pid] : List Value)[j]? = some x → w1.drew.cell? ((A.add (m * 3)).add j) = some x) ∧ (∀ j x, ([.int .i64 t, .int .u16 id] : List Value)[j]? = some x → w1.drew.cell? ((⟨w.heap.size, 0, none⟩ : Addr).add j) = some x)) := ⟨hpa.out, hka.out⟩
        clear p0 p1 g0 g1
        refine wp_region_held (S := fun u => (∀ j x, ([.int .i64 pt, .int .u16 pid] : List Value)[j]? = some x → u.cell? ((A.add (m * 3)).add j) = some x) ∧ (∀ j x, ([.int .i64 t, .int .u16 id] : List Value)[j]? = some x → u.cell? ((⟨w.heap.size, 0, none⟩ : Addr).add j) = some x)) (by kernel_rfl) ?_
        change wpAnyH _ _ _ _ _ _ _ _ (World.drew w1)
        refine held_take (i := 0) (dst := some 28) (v := .slice (some A) (m + 1) c) rfl rfl (by kernel_rfl) (by kernel_rfl) (by kernel_rfl) (fun _ _ _ h => h) (.inl ⟨rfl, fun W hW => by go_simp⟩) hS0.out ?_
        go_frame
        refine held_take (i := 1) (dst := some 29) (v := .slice (some A) (m + 1) c) rfl rfl (by kernel_rfl) (by kernel_rfl) (by kernel_rfl) (fun _ _ _ h => h) (.inl ⟨rfl, fun W hW => by go_simp⟩) hS0.out ?_
        go_frame
        refine held_take (i := 2) (dst := some 30) (v := .int .i64 ((m : Int) + 1)) rfl rfl (by kernel_rfl) (by kernel_rfl) (by kernel_rfl) (fun _ _ _ h => h) (.inl ⟨rfl, fun W hW => by go_simp⟩) hS0.out ?_
        go_frame
        refine held_take (i := 3) (dst := some 31) (v := .int .i64 m) rfl rfl (by kernel_rfl) (by kernel_rfl) (by kernel_rfl) (fun _ _ _ h => h) (.inl ⟨rfl, fun W hW => by go_simp⟩) hS0.out ?_
        go_frame
        refine held_take (i := 4) (dst := some 32) (v := .pointer (some (A.add (m * 3)))) rfl rfl (by kernel_rfl) (by kernel_rfl) (by kernel_rfl) (fun _ _ _ h => h) (.inl ⟨rfl, fun W hW => by go_simp⟩) hS0.out ?_
        go_frame
        refine held_take (i := 5) (dst := some 33) (v := .pointer (some (A.add (m * 3)))) rfl rfl (by kernel_rfl) (by kernel_rfl) (by kernel_rfl) (fun _ _ _ h => h) (.inl ⟨rfl, fun W hW => by go_simp⟩) hS0.out ?_
        go_frame
        refine held_take (i := 6) (dst := some 34) rfl rfl (by kernel_rfl) (by kernel_rfl) (by kernel_rfl) (fun _ _ _ h => h) (y_load_agg 28 (.tmp 33) rfl rfl rfl (fun W hW => run_loadVar_at Try.underlying28 rfl hs4 _ hW.1)) hS0.out ?_
        go_frame
        refine held_take (i := 7) (dst := some 35) (v := .pointer (some ⟨w.heap.size, 0, none⟩)) rfl rfl (by kernel_rfl) (by kernel_rfl) (by kernel_rfl) (fun _ _ _ h => h) (.inl ⟨rfl, fun W hW => by go_simp⟩) hS0.out ?_
        go_frame
        refine held_take (i := 8) (dst := some 36) rfl rfl (by kernel_rfl) (by kernel_rfl) (by kernel_rfl) (fun _ _ _ h => h) (y_load_agg 28 (.tmp 35) rfl rfl rfl (fun W hW => run_loadVar_at Try.underlying28 rfl hs3 _ hW.2)) hS0.out ?_
        go_frame
        refine held_call (i := 9) (dst := some 37) rfl rfl (by kernel_rfl) rfl (by go_simp) (hcmp.out _) ?_
        rintro e x4 ⟨rfl, hb6⟩
        have hb8 := Lib.hid ((below_drew w1).trans hb6)
        have hS1 : Hid ((∀ j x, ([.int .i64 pt, .int .u16 pid] : List Value)[j]? = some x → x4.cell? ((A.add (m * 3)).add j) = some x) ∧ (∀ j x, ([.int .i64 t, .int .u16 id] : List Value)[j]? = some x → x4.cell? ((⟨w.heap.size, 0, none⟩ : Addr).add j) = some x)) := ⟨fun j' x' h => cell_keeps hb6 (Nat.le_refl _) (hS0.out.1 j' x' h), fun j' x' h => cell_keeps hb6 (Nat.le_refl _) (hS0.out.2 j' x' h)⟩
        clear hb6
        refine ⟨_, rfl, hS1.out, ?_⟩
        go_frame
        refine held_take (i := 10) (dst := some 38) (v := .bool false) rfl rfl (by kernel_rfl) (by kernel_rfl) (by kernel_rfl) (fun _ _ _ h => h) (.inl ⟨rfl, fun W hW => by go_simp⟩) hS1.out ?_
        go_frame
        refine held_take (i := 11) (dst := some 39) (v := .bool false) rfl rfl (by kernel_rfl) (by kernel_rfl) (by kernel_rfl) (fun _ _ _ h => h) (.inl ⟨rfl, fun W hW => by go_simp⟩) hS1.out ?_
        go_frame
        refine held_take (i := 12) (dst := some 40) (v := undef) rfl rfl (by kernel_rfl) (by kernel_rfl) (by kernel_rfl) (fun _ _ _ h => h) (.inr ⟨rfl, rfl⟩) hS1.out ?_
        go_frame
        refine held_take (i := 13) (dst := some 41) (v := undef) rfl rfl (by kernel_rfl) (by kernel_rfl) (by kernel_rfl) (fun _ _ _ h => h) (.inr ⟨rfl, rfl⟩) hS1.out ?_
        go_frame
        refine held_take (i := 14) (dst := some 42) (v := undef) rfl rfl (by kernel_rfl) (by kernel_rfl) (by kernel_rfl) (fun _ _ _ h => h) (.inr ⟨rfl, rfl⟩) hS1.out ?_
        go_frame
        refine held_take (i := 15) (dst := some 43) (v := undef) rfl rfl (by kernel_rfl) (by kernel_rfl) (by kernel_rfl) (fun _ _ _ h => h) (.inr ⟨rfl, rfl⟩) hS1.out ?_
        go_frame
        refine held_take (i := 16) (dst := some 44) (v := .bool false) rfl rfl (by kernel_rfl) (by kernel_rfl) (by kernel_rfl) (fun _ _ _ h => h) (.inl ⟨rfl, fun W hW => by go_simp⟩) hS1.out ?_
        go_frame
        refine held_take (i := 17) (dst := some 4) (v := .bool false) rfl rfl (by kernel_rfl) (by kernel_rfl) (by kernel_rfl) (fun _ _ _ h => h) (.inl ⟨rfl, fun W hW => by go_simp⟩) hS1.out ?_
        go_frame
        refine wpAnyH_done (by kernel_rfl) ?_ _
        clear w0 w1' hcmp hcon hS0 hS1
        go_wp2
        go_ret
        exact ⟨rfl, hd.out.trans (hb8.out.mono hd.out.size)⟩
  · have hfit : Hid (fitsK L ⟨⟨t, id⟩, p⟩ = false) := by
      show fitsK _ _ = _
      unfold fitsK
      rw [show tabB (⟨⟨t, id⟩, p⟩ : KidD).least.t = b from hb'.out]
      show ((b && (decide (1 ≤ p) && decide (p < 64))) && _) = false
      by_cases h1 : b = true
      · by_cases h2 : 1 ≤ p
        · by_cases h3 : p < 64
          · exact absurd ⟨h1, h2, h3⟩ hok
          · simp [h3]
        · simp [h2]
      · simp [h1]
    rw [hfit.out]
    cases b with
    | false =>
      go_enter Try.func64, Try.ntmps64
      go_wp2_with (first
        | (with_reducible refine wpList_load_at rfl 28 (.tmp 6) rfl Try.underlying28 rfl hs3 rfl k0.out ?_)
        | (go_at_call 71; refine htb.out.mono ?_; rintro e w1 ⟨rfl, hb1⟩; have hd := Lib.hid (hbx.out.1.trans (hb1.mono hbx.out.1.size)); clear hb1))
      go_ret
      exact ⟨rfl, hd.out⟩
    | true =>
      by_cases h2 : p < 1
      · go_enter Try.func64, Try.ntmps64
        go_wp2_with (first
          | (with_reducible refine wpList_load_at rfl 28 (.tmp 6) rfl Try.underlying28 rfl hs3 rfl k0.out ?_)
          | (go_at_call 71; refine htb.out.mono ?_; rintro e w1 ⟨rfl, hb1⟩; have hd := Lib.hid (hbx.out.1.trans (hb1.mono hbx.out.1.size)); have p2 := (hbx.out.2.1.below hb1 (Nat.le_refl _)).cell 2 rfl; clear hb1))
        go_ret
        exact ⟨rfl, hd.out⟩
      · have h3 : 64 ≤ p := by
          rcases Int.lt_or_le p 64 with h | h
          · exact absurd ⟨rfl, by omega, h⟩ hok
          · exact h
        clear hok
        go_enter Try.func64, Try.ntmps64
        go_wp2_with (first
          | (with_reducible refine wpList_load_at rfl 28 (.tmp 6) rfl Try.underlying28 rfl hs3 rfl k0.out ?_)
          | (go_at_call 71; refine htb.out.mono ?_; rintro e w1 ⟨rfl, hb1⟩; have hd := Lib.hid (hbx.out.1.trans (hb1.mono hbx.out.1.size)); have p2 := (hbx.out.2.1.below hb1 (Nat.le_refl _)).cell 2 rfl; clear hb1))
        go_ret
        exact ⟨rfl, hd.out⟩
end Go.Proofs.Ytaiepdhmlmnggaa
