/- Parts of the proof: Which kid may stand behind others; kids compared; Check of codec -/
import Derived.Test.YtocekhckmpkbmaaGreatQ06
namespace Go.Proofs.YtocekhckmpkbmaaGreat
open Go.RowKit
def hasP (L : List KidD) (p : Int) : Bool := L.any fun x => x.page == p
theorem hasP_true {L : List KidD} {p : Int} {i : Nat} {x : KidD} (hx : L[i]? = some x) (h : x.page = p) : hasP L p = true := by
 unfold hasP
 rw [List.any_eq_true]
 exact ⟨x, List.mem_of_getElem? hx, by simpa using h⟩
theorem hasP_false {L : List KidD} {p : Int} (h : ∀ (i : Nat) (x : KidD), L[i]? = some x → x.page ≠ p) : hasP L p = false := by
 unfold hasP
 rw [List.any_eq_false]
 intro x hx
 obtain ⟨i, hi⟩ := List.mem_iff_getElem?.1 hx
 simpa using h i x hi
set_option maxRecDepth 100000 in
set_option maxHeartbeats 1000000 in
theorem taken_any (t id a p : Int) (b : Nat) (w : World) (hc : w.cell? ⟨b, 2, none⟩ = some (.int .i64 p)) :
 Calls Tryz.prog 131 #[.agg #[.int .i64 t, .int .u16 id, .int .i64 a], .pointer (some ⟨b, 0, none⟩)] w (fun e w' => e = .returned (.bool (a == p)) ∧ Below w.heap.size w w') := by
 have hb := cell_in hc
 have hb2 : b < w.heap.size := hb
 have hd : Hid (Below w.heap.size w (w.alloc (.cells #[.int .i64 t, .int .u16 id, .int .i64 a] 100))) := (Below.refl _ _).alloc (Nat.le_refl _) _
 clear hb
 obtain ⟨W, hW⟩ : ∃ W, w.alloc (.cells #[.int .i64 t, .int .u16 id, .int .i64 a] 100) = W := ⟨_, rfl⟩
 have hbx := Lib.hid (one_box (xs := [.int .i64 t, .int .u16 id, .int .i64 a]) hW)
 have c2 := hbx.out.2.1.cell 2 rfl
 have d2 := cell_keeps hbx.out.1 (Nat.le_refl _) hc
 clear hc
 by_cases h : a = p
 · rw [show (a == p) = true by simpa using h]
   subst h
   go_enter Tryz.func131, Tryz.ntmps131
   go_wp2
   go_ret
   exact ⟨rfl, hbx.out.1⟩
 · have h2 : (a == p) = false := by simpa using h
   rw [h2]
   go_enter Tryz.func131, Tryz.ntmps131
   go_wp2
   go_ret
   exact ⟨rfl, hbx.out.1⟩
def IdxPost (w : World) (b : Bool) (e : Ending) (w' : World) : Prop := ∃ z : Int, e = .returned (.int .i64 z) ∧ ((0 ≤ z ∧ b = true) ∨ (z = -1 ∧ b = false)) ∧ Below w.heap.size w w'
set_option maxRecDepth 100000 in
set_option maxHeartbeats 2000000 in
theorem index_any (q : Option Addr) (n c : Nat) (L : List KidD) (p : Int) (b : Nat) (w : World) (hr : KidsOn w q n c L) (hc : w.cell? ⟨b, 2, none⟩ = some (.int .i64 p)) :
 Calls Tryz.prog 144 #[.slice q n c, .func (.func 131) #[] #[.pointer (some ⟨b, 0, none⟩)]] w (IdxPost w (hasP L p)) := by
 have hrr := Lib.hid hr
 have hm := Nat.le_trans hr.le hr.cap
 unfold maxLen at hm
 have hcc := Lib.hid hc
 have hT : Hid (∀ (i : Nat) (x : KidD), L[i]? = some x → x.page = p → hasP L p = true) := fun i x hx h => hasP_true hx h
 have hF : Hid ((∀ (i : Nat) (x : KidD), L[i]? = some x → x.page ≠ p) → hasP L p = false) := fun h => hasP_false h
 obtain ⟨E, hE⟩ : ∃ E, hasP L p = E := ⟨_, rfl⟩
 rw [hE] at hT hF ⊢
 clear hr hc hE
 go_enter Tryz.func144, Tryz.ntmps144
 go_wp2
 go_loopw [8] (fun v8 wr => ∃ k : Nat, k ≤ n ∧ v8 = .int .i64 k ∧ Hid (Below w.heap.size w wr) ∧ Hid (∀ (i : Nat) (x : KidD), i < k → L[i]? = some x → x.page ≠ p)) (fun v8 _ => n - (RowKit.intOf v8).toNat)
 case atStart => exact ⟨0, Nat.zero_le _, rfl, (show Below _ _ _ from Below.refl _ _), fun i x hi => by omega⟩
 case round =>
  obtain ⟨k, hk, rfl, hb, hp⟩ := hrel
  by_cases hlt : k < n
  · obtain ⟨A, ⟨⟨pt, pid⟩, pp⟩, hqA, hx, hok, hcA⟩ := (hrr.out.below hb.out (Nat.le_refl _)).at hlt
    subst hqA
    have hcell : Hid (∀ j x, ([.int .i64 pt, .int .u16 pid, .int .i64 pp] : List Value)[j]? = some x → wr.cell? ((A.add (k * 3)).add j) = some x) := hcA
    have hs2 := sizeKid pt pid pp
    have hx' := Lib.hid hx
    have htk := Lib.hid (taken_any pt pid pp p b wr (cell_keeps hb.out (Nat.le_refl _) hcc.out))
    have i0 : (0 : Int) ≤ k := by omega
    have i1 : (k : Int) < n := by omega
    clear hx hok hcA
    by_cases h : pp = p
    · rw [show (pp == p) = true by simpa using h] at htk
      have h' := Lib.hid h
      clear h
      go_wp2_with (first
       | (with_reducible refine wpList_load_at rfl 100 (.tmp 14) rfl Tryz.underlying100 rfl hs2 rfl hcell.out ?_))
      refine htk.out.mono ?_
      clear htk
      rintro e w1 ⟨rfl, hb1⟩
      have hd := Lib.hid (hb.out.trans (hb1.mono hb.out.size))
      clear hb1
      go_wp2
      go_ret
      exact ⟨_, rfl, .inl ⟨i0, hT.out k _ hx'.out h'.out⟩, hd.out⟩
    · rw [show (pp == p) = false by simpa using h] at htk
      have h' := Lib.hid h
      clear h
      go_wp2_with (first
       | (with_reducible refine wpList_load_at rfl 100 (.tmp 14) rfl Tryz.underlying100 rfl hs2 rfl hcell.out ?_))
      refine htk.out.mono ?_
      clear htk
      rintro e w1 ⟨rfl, hb1⟩
      have hd := Lib.hid (hb.out.trans (hb1.mono hb.out.size))
      clear hb1
      go_wp2
      go_roundw
      case rel =>
       refine ⟨k + 1, by omega, by go_num, hd, fun i x hi hxi => ?_⟩
       rcases Nat.lt_or_ge i k with h | h
       · exact hp.out i x h hxi
       · obtain rfl : i = k := by omega
         rw [hx'.out] at hxi
         cases hxi
         exact h'.out
      case measure => simp [RowKit.intOf]; omega
  · obtain rfl : n = k := by omega
    have hno := Lib.hid (hF.out fun i x hx => hp.out i x (by have := (List.getElem?_eq_some_iff.1 hx).1; rw [hrr.out.len] at this; exact this) hx)
    go_wp2
    go_ret
    exact ⟨-1, rfl, .inr ⟨rfl, hno.out⟩, hb.out⟩
set_option maxRecDepth 100000 in
set_option maxHeartbeats 1000000 in
theorem contains_any (q : Option Addr) (n c : Nat) (L : List KidD) (p : Int) (b : Nat) (w : World) (hr : KidsOn w q n c L) (hc : w.cell? ⟨b, 2, none⟩ = some (.int .i64 p)) :
 Calls Tryz.prog 132 #[.slice q n c, .func (.func 131) #[] #[.pointer (some ⟨b, 0, none⟩)]] w (fun e w' => e = .returned (.bool (hasP L p)) ∧ Below w.heap.size w w') := by
 have hi := index_any q n c L p b w hr hc
 obtain ⟨E, hE⟩ : ∃ E, hasP L p = E := ⟨_, rfl⟩
 rw [hE] at hi ⊢
 have hi' := Lib.hid hi
 clear hi hE hc hr
 go_enter Tryz.func132, Tryz.ntmps132
 go_wp2_with fail
 refine hi'.out.mono ?_
 clear hi'
 rintro e w1 ⟨z, rfl, hz, hb1⟩
 have hb1' := Lib.hid hb1
 clear hb1
 rcases hz with ⟨h0, rfl⟩ | ⟨rfl, rfl⟩
 · go_wp2
   go_ret
   exact ⟨rfl, hb1'.out⟩
 · go_wp2
   go_ret
   exact ⟨rfl, hb1'.out⟩
def lastK (L : List KidD) (k : KidD) : Bool := match L[L.length - 1]? with | none => eqK k.least ⟨0, 0⟩ | some p => decide (cmpK p.least k.least < 0) && !hasP L k.page
def fitsK (L : List KidD) (k : KidD) : Bool := (tabB k.least.t && (decide (1 ≤ k.page) && decide (k.page < 64))) && lastK L k
set_option maxRecDepth 100000 in
set_option maxHeartbeats 4000000 in
theorem kidFits_any (q : Option Addr) (n c : Nat) (L : List KidD) (t id p : Int) (w : World) (hr : KidsOn w q n c L) :
 Calls Tryz.prog 113 #[.slice q n c, .agg #[.int .i64 t, .int .u16 id, .int .i64 p]] w (fun e w' => e = .returned (.bool (fitsK L ⟨⟨t, id⟩, p⟩)) ∧ Below w.heap.size w w') := by
 obtain ⟨W, hW⟩ : ∃ W, w.alloc (.cells #[.int .i64 t, .int .u16 id, .int .i64 p] 100) = W := ⟨_, rfl⟩
 have hbx := Lib.hid (one_box (xs := [.int .i64 t, .int .u16 id, .int .i64 p]) hW)
 have hs3 := sizeKey t id
 have k0 : Hid (∀ j x, ([.int .i64 t, .int .u16 id] : List Value)[j]? = some x → W.cell? ((⟨w.heap.size, 0, none⟩ : Addr).add j) = some x) := fun j x hj => hbx.out.2.1 j x (by
  match j, hj with
  | 0, hj => exact hj
  | 1, hj => exact hj
  | j + 2, hj => simp at hj)
 have hrr := Lib.hid (hr.below hbx.out.1 (Nat.le_refl _))
 have hlen := Lib.hid hr.len
 have hm := Nat.le_trans hr.le hr.cap
 unfold maxLen at hm
 have htb := Lib.hid (tabled_any t id W)
 obtain ⟨b, hb⟩ : ∃ b, tabB t = b := ⟨_, rfl⟩
 rw [hb] at htb
 have hb' := Lib.hid hb
 clear hb hr
 by_cases hok : b = true ∧ 1 ≤ p ∧ p < 64
 · obtain ⟨rfl, hp1, hp2⟩ := hok
   have hp1' : ¬ p < 1 := by omega
   have hp2' : ¬ 64 ≤ p := by omega
   have hfit : Hid (fitsK L ⟨⟨t, id⟩, p⟩ = lastK L ⟨⟨t, id⟩, p⟩) := by
    show fitsK _ _ = _
    unfold fitsK
    rw [show tabB (⟨⟨t, id⟩, p⟩ : KidD).least.t = true from hb'.out, show decide (1 ≤ (⟨⟨t, id⟩, p⟩ : KidD).page) = true from decide_eq_true hp1, show decide ((⟨⟨t, id⟩, p⟩ : KidD).page < 64) = true from decide_eq_true hp2]
    rfl
   rw [hfit.out]
   rcases Nat.eq_zero_or_pos n with hn0 | hn0
   · subst hn0
     have hL := List.eq_nil_of_length_eq_zero hlen.out
     subst hL
     show Calls _ _ _ _ (fun e w' => e = .returned (.bool (eqK ⟨t, id⟩ ⟨0, 0⟩)) ∧ Below w.heap.size w w')
     have heq := fun u => eq_key u t id 0 0
     obtain ⟨E, hE⟩ : ∃ E, eqK ⟨t, id⟩ ⟨0, 0⟩ = E := ⟨_, rfl⟩
     rw [hE] at heq ⊢
     clear hE
     go_enter Tryz.func113, Tryz.ntmps113
     go_wp2_with (first
      | (with_reducible refine wpList_load_at rfl 66 (.tmp 6) rfl Tryz.underlying66 rfl hs3 rfl k0.out ?_)
      | (go_at_call 130; refine htb.out.mono ?_; rintro e w1 ⟨rfl, hb1⟩; have hd := Lib.hid (hbx.out.1.trans (hb1.mono hbx.out.1.size)); have c2 := (hbx.out.2.1.below hb1 (Nat.le_refl _)).cell 2 rfl; have c0 := (hbx.out.2.1.below hb1 (Nat.le_refl _)).cell 0 rfl; have c1 := (hbx.out.2.1.below hb1 (Nat.le_refl _)).cell 1 rfl; clear hb1))
     go_ret
     exact ⟨rfl, hd.out⟩
   · obtain ⟨m, rfl⟩ : ∃ m, n = m + 1 := ⟨n - 1, by omega⟩
     obtain ⟨A, ⟨⟨pt, pid⟩, pp⟩, hqA, hpx, _, hpc⟩ := hrr.out.at (show m < m + 1 by omega)
     subst hqA
     have hlast : Hid (lastK L ⟨⟨t, id⟩, p⟩ = (decide (cmpK ⟨pt, pid⟩ ⟨t, id⟩ < 0) && !hasP L p)) := by
      show lastK _ _ = _
      unfold lastK
      rw [show L.length - 1 = m by rw [hlen.out]; rfl, hpx]
     rw [hlast.out]
     have hcmp := Lib.hid (fun u => compare_any ⟨pt, pid⟩ ⟨t, id⟩ u)
     obtain ⟨z, hz⟩ : ∃ z, cmpK ⟨pt, pid⟩ ⟨t, id⟩ = z := ⟨_, rfl⟩
     rw [hz] at hcmp ⊢
     have hcon := Lib.hid (fun u (hu : Below W.heap.size W u) => contains_any (some A) (m + 1) c L p w.heap.size u (hrr.out.below hu (Nat.le_refl _)) ((hbx.out.2.1.below hu (Nat.le_refl _)).cell 2 rfl))
     obtain ⟨H, hH⟩ : ∃ H, hasP L p = H := ⟨_, rfl⟩
     rw [hH] at hcon ⊢
     have g0 : W.cell? (A.add (m * 3)) = some (.int .i64 pt) := by have h := hpc 0 _ rfl; rwa [add0] at h
     have g1 : W.cell? ⟨(A.add (m * 3)).block, (A.add (m * 3)).off + 1, none⟩ = some (.int .u16 pid) := hpc 1 _ rfl
     have hg := Lib.hid (And.intro g0 g1)
     have w0 : IntKind.i64.wrap ((m : Int) + 1 - 1) = m := by rw [Int.add_sub_cancel]; exact IntWalk.i64_in (m : Int) (by omega)
     have w1' : IntKind.i64.wrap (m : Int) = m := IntWalk.i64_in (m : Int) (by omega)
     have j0 : (0 : Int) ≤ m := by omega
     have j1 : (m : Int) < (m : Int) + 1 := by omega
     clear hpx hpc g0 g1 hz hH
     by_cases hz0 : z < 0
     all_goals
      try rw [show decide (z < 0) = true from decide_eq_true hz0]
      try rw [show decide (z < 0) = false from decide_eq_false hz0]
      try (have hz1 : decide (z < 0) = false := decide_eq_false hz0)
      go_enter Tryz.func113, Tryz.ntmps113
      go_wp2_with (first
       | (with_reducible refine wpList_load_at rfl 66 (.tmp 6) rfl Tryz.underlying66 rfl hs3 rfl k0.out ?_)
       | (go_at_call 130; refine htb.out.mono ?_; rintro e w1 ⟨rfl, hb1⟩; have hd0 := Lib.hid hb1; have hd := Lib.hid (hbx.out.1.trans (hb1.mono hbx.out.1.size)); have p0 := (hbx.out.2.1.below hb1 (Nat.le_refl _)).cell 0 rfl; have p1 := (hbx.out.2.1.below hb1 (Nat.le_refl _)).cell 1 rfl; have p2 := (hbx.out.2.1.below hb1 (Nat.le_refl _)).cell 2 rfl; have g0 := cell_keeps hb1 (Nat.le_refl _) hg.out.1; have g1 := cell_keeps hb1 (Nat.le_refl _) hg.out.2; clear hb1))
      clear p2
     · go_region_held3 (fun u => u.cell? ⟨w.heap.size, 0, none⟩ = some (.int .i64 t) ∧ u.cell? ⟨w.heap.size, 1, none⟩ = some (.int .u16 id) ∧ u.cell? (A.add (m * 3)) = some (.int .i64 pt) ∧ u.cell? ⟨(A.add (m * 3)).block, (A.add (m * 3)).off + 1, none⟩ = some (.int .u16 pid) ∧ Below W.heap.size W u)
        (first | exact ⟨p0, p1, g0, g1, hd0.out.trans ((below_drew _).mono hd0.out.size)⟩ | (go_split_ands; exact ⟨cell_keeps hb6.out (Nat.le_refl _) (by assumption), cell_keeps hb6.out (Nat.le_refl _) (by assumption), cell_keeps hb6.out (Nat.le_refl _) (by assumption), cell_keeps hb6.out (Nat.le_refl _) (by assumption), below_step hb6.out (by assumption)⟩))
        (first
          | (go_at_call 129; refine (hcmp.out _).mono ?_; rintro e x5 ⟨rfl, hb6'⟩; have hb6 := Lib.hid hb6'; clear hb6')
          | (go_at_call 132; refine (hcon.out _ (by go_split_ands; assumption)).mono ?_; rintro e x6 ⟨rfl, hb6'⟩; have hb6 := Lib.hid hb6'; clear hb6'))
       have hv4 : Hid (Below W.heap.size W x6) := by
        show Below _ _ _
        go_split_ands
        assumption
       clear p0 p1 g0 g1 w0 w1' hcmp hcon
       go_wp2
       go_ret
       exact ⟨by simp, hbx.out.1.trans (hv4.out.mono hbx.out.1.size)⟩
     · have hpa : Hid (∀ j x, ([.int .i64 pt, .int .u16 pid] : List Value)[j]? = some x → w1.drew.cell? ((A.add (m * 3)).add j) = some x) := fun j x hj => by
        match j, hj with
        | 0, hj => rw [add0]; cases hj; exact g0
        | 1, hj => cases hj; exact g1
        | j + 2, hj => simp at hj
       have hka : Hid (∀ j x, ([.int .i64 t, .int .u16 id] : List Value)[j]? = some x → w1.drew.cell? ((⟨w.heap.size, 0, none⟩ : Addr).add j) = some x) := fun j x hj => cell_keeps hd0.out (Nat.le_refl _) (k0.out j x hj)
       have hs4 := sizeKey pt pid
       have hS0 : Hid ((∀ j x, ([.int .i64 pt, .int .u16 pid] : List Value)[j]? = some x → w1.drew.cell? ((A.add (m * 3)).add j) = some x) ∧ (∀ j x, ([.int .i64 t, .int .u16 id] : List Value)[j]? = some x → w1.drew.cell? ((⟨w.heap.size, 0, none⟩ : Addr).add j) = some x)) := ⟨hpa.out, hka.out⟩
       clear p0 p1 g0 g1
       refine wp_region_held (S := fun u => (∀ j x, ([.int .i64 pt, .int .u16 pid] : List Value)[j]? = some x → u.cell? ((A.add (m * 3)).add j) = some x) ∧ (∀ j x, ([.int .i64 t, .int .u16 id] : List Value)[j]? = some x → u.cell? ((⟨w.heap.size, 0, none⟩ : Addr).add j) = some x)) (by kernel_rfl) ?_
       change wpAnyH _ _ _ _ _ _ _ _ (World.drew w1)
       refine held_take (i := 0) (dst := some 28) (v := .slice (some A) (m + 1) c) rfl rfl (by kernel_rfl) (by kernel_rfl) (by kernel_rfl) (fun _ _ _ h => h) (.inl ⟨rfl, fun W hW => by go_simp⟩) hS0.out ?_
       go_frame
       refine held_take (i := 1) (dst := some 29) (v := .slice (some A) (m + 1) c) rfl rfl (by kernel_rfl) (by kernel_rfl) (by kernel_rfl) (fun _ _ _ h => h) (.inl ⟨rfl, fun W hW => by go_simp⟩) hS0.out ?_
       go_frame
       refine held_take (i := 2) (dst := some 30) (v := .int .i64 ((m : Int) + 1)) rfl rfl (by kernel_rfl) (by kernel_rfl) (by kernel_rfl) (fun _ _ _ h => h) (.inl ⟨rfl, fun W hW => by go_simp⟩) hS0.out ?_
       go_frame
       refine held_take (i := 3) (dst := some 31) (v := .int .i64 m) rfl rfl (by kernel_rfl) (by kernel_rfl) (by kernel_rfl) (fun _ _ _ h => h) (.inl ⟨rfl, fun W hW => by go_simp⟩) hS0.out ?_
       go_frame
       refine held_take (i := 4) (dst := some 32) (v := .pointer (some (A.add (m * 3)))) rfl rfl (by kernel_rfl) (by kernel_rfl) (by kernel_rfl) (fun _ _ _ h => h) (.inl ⟨rfl, fun W hW => by go_simp⟩) hS0.out ?_
       go_frame
       refine held_take (i := 5) (dst := some 33) (v := .pointer (some (A.add (m * 3)))) rfl rfl (by kernel_rfl) (by kernel_rfl) (by kernel_rfl) (fun _ _ _ h => h) (.inl ⟨rfl, fun W hW => by go_simp⟩) hS0.out ?_
       go_frame
       refine held_take (i := 6) (dst := some 34) rfl rfl (by kernel_rfl) (by kernel_rfl) (by kernel_rfl) (fun _ _ _ h => h) (y_load_agg 66 (.tmp 33) rfl rfl rfl (fun W hW => run_loadVar_at Tryz.underlying66 rfl hs4 _ hW.1)) hS0.out ?_
       go_frame
       refine held_take (i := 7) (dst := some 35) (v := .pointer (some ⟨w.heap.size, 0, none⟩)) rfl rfl (by kernel_rfl) (by kernel_rfl) (by kernel_rfl) (fun _ _ _ h => h) (.inl ⟨rfl, fun W hW => by go_simp⟩) hS0.out ?_
       go_frame
       refine held_take (i := 8) (dst := some 36) rfl rfl (by kernel_rfl) (by kernel_rfl) (by kernel_rfl) (fun _ _ _ h => h) (y_load_agg 66 (.tmp 35) rfl rfl rfl (fun W hW => run_loadVar_at Tryz.underlying66 rfl hs3 _ hW.2)) hS0.out ?_
       go_frame
       refine held_call (i := 9) (dst := some 37) rfl rfl (by kernel_rfl) rfl (by go_simp) (hcmp.out _) ?_
       rintro e x4 ⟨rfl, hb6⟩
       have hb8 := Lib.hid ((below_drew w1).trans hb6)
       have hS1 : Hid ((∀ j x, ([.int .i64 pt, .int .u16 pid] : List Value)[j]? = some x → x4.cell? ((A.add (m * 3)).add j) = some x) ∧ (∀ j x, ([.int .i64 t, .int .u16 id] : List Value)[j]? = some x → x4.cell? ((⟨w.heap.size, 0, none⟩ : Addr).add j) = some x)) := ⟨fun j' x' h => cell_keeps hb6 (Nat.le_refl _) (hS0.out.1 j' x' h), fun j' x' h => cell_keeps hb6 (Nat.le_refl _) (hS0.out.2 j' x' h)⟩
       clear hb6
       refine ⟨_, rfl, hS1.out, ?_⟩
       go_frame
       refine held_take (i := 10) (dst := some 38) (v := .bool false) rfl rfl (by kernel_rfl) (by kernel_rfl) (by kernel_rfl) (fun _ _ _ h => h) (.inl ⟨rfl, fun W hW => by go_simp⟩) hS1.out ?_
       go_frame
       refine held_take (i := 11) (dst := some 39) (v := .bool false) rfl rfl (by kernel_rfl) (by kernel_rfl) (by kernel_rfl) (fun _ _ _ h => h) (.inl ⟨rfl, fun W hW => by go_simp⟩) hS1.out ?_
       go_frame
       refine held_take (i := 12) (dst := some 40) (v := undef) rfl rfl (by kernel_rfl) (by kernel_rfl) (by kernel_rfl) (fun _ _ _ h => h) (.inr ⟨rfl, rfl⟩) hS1.out ?_
       go_frame
       refine held_take (i := 13) (dst := some 41) (v := undef) rfl rfl (by kernel_rfl) (by kernel_rfl) (by kernel_rfl) (fun _ _ _ h => h) (.inr ⟨rfl, rfl⟩) hS1.out ?_
       go_frame
       refine held_take (i := 14) (dst := some 42) (v := undef) rfl rfl (by kernel_rfl) (by kernel_rfl) (by kernel_rfl) (fun _ _ _ h => h) (.inr ⟨rfl, rfl⟩) hS1.out ?_
       go_frame
       refine held_take (i := 15) (dst := some 43) (v := undef) rfl rfl (by kernel_rfl) (by kernel_rfl) (by kernel_rfl) (fun _ _ _ h => h) (.inr ⟨rfl, rfl⟩) hS1.out ?_
       go_frame
       refine held_take (i := 16) (dst := some 44) (v := .bool false) rfl rfl (by kernel_rfl) (by kernel_rfl) (by kernel_rfl) (fun _ _ _ h => h) (.inl ⟨rfl, fun W hW => by go_simp⟩) hS1.out ?_
       go_frame
       refine held_take (i := 17) (dst := some 4) (v := .bool false) rfl rfl (by kernel_rfl) (by kernel_rfl) (by kernel_rfl) (fun _ _ _ h => h) (.inl ⟨rfl, fun W hW => by go_simp⟩) hS1.out ?_
       go_frame
       refine wpAnyH_done (by kernel_rfl) ?_ _
       clear w0 w1' hcmp hcon hS0 hS1
       go_wp2
       go_ret
       exact ⟨rfl, hd.out.trans (hb8.out.mono hd.out.size)⟩
 · have hfit : Hid (fitsK L ⟨⟨t, id⟩, p⟩ = false) := by
    show fitsK _ _ = _
    unfold fitsK
    rw [show tabB (⟨⟨t, id⟩, p⟩ : KidD).least.t = b from hb'.out]
    show ((b && (decide (1 ≤ p) && decide (p < 64))) && _) = false
    by_cases h1 : b = true
    · by_cases h2 : 1 ≤ p
      · by_cases h3 : p < 64
        · exact absurd ⟨h1, h2, h3⟩ hok
        · simp [h3]
      · simp [h2]
    · simp [h1]
   rw [hfit.out]
   cases b with
   | false =>
     go_enter Tryz.func113, Tryz.ntmps113
     go_wp2_with (first
      | (with_reducible refine wpList_load_at rfl 66 (.tmp 6) rfl Tryz.underlying66 rfl hs3 rfl k0.out ?_)
      | (go_at_call 130; refine htb.out.mono ?_; rintro e w1 ⟨rfl, hb1⟩; have hd := Lib.hid (hbx.out.1.trans (hb1.mono hbx.out.1.size)); clear hb1))
     go_ret
     exact ⟨rfl, hd.out⟩
   | true =>
     by_cases h2 : p < 1
     · go_enter Tryz.func113, Tryz.ntmps113
       go_wp2_with (first
        | (with_reducible refine wpList_load_at rfl 66 (.tmp 6) rfl Tryz.underlying66 rfl hs3 rfl k0.out ?_)
        | (go_at_call 130; refine htb.out.mono ?_; rintro e w1 ⟨rfl, hb1⟩; have hd := Lib.hid (hbx.out.1.trans (hb1.mono hbx.out.1.size)); have p2 := (hbx.out.2.1.below hb1 (Nat.le_refl _)).cell 2 rfl; clear hb1))
       go_ret
       exact ⟨rfl, hd.out⟩
     · have h3 : 64 ≤ p := by
        rcases Int.lt_or_le p 64 with h | h
        · exact absurd ⟨rfl, by omega, h⟩ hok
        · exact h
       clear hok
       go_enter Tryz.func113, Tryz.ntmps113
       go_wp2_with (first
        | (with_reducible refine wpList_load_at rfl 66 (.tmp 6) rfl Tryz.underlying66 rfl hs3 rfl k0.out ?_)
        | (go_at_call 130; refine htb.out.mono ?_; rintro e w1 ⟨rfl, hb1⟩; have hd := Lib.hid (hbx.out.1.trans (hb1.mono hbx.out.1.size)); have p2 := (hbx.out.2.1.below hb1 (Nat.le_refl _)).cell 2 rfl; clear hb1))
       go_ret
       exact ⟨rfl, hd.out⟩
end Go.Proofs.YtocekhckmpkbmaaGreat
namespace Go.Proofs.YtocekhckmpkbmaaGreat
open Go.RowKit
structure GoodR (L : List RowD) : Prop where
 len : L.length ≤ 4
 fits : ∀ (i : Nat) (r : RowD), L[i]? = some r → fitsR (L.take i) r = true
structure GoodK (L : List KidD) : Prop where
 few : 2 ≤ L.length
 len : L.length ≤ 4
 fits : ∀ (i : Nat) (k : KidD), L[i]? = some k → fitsK (L.take i) k = true
def GoodC (c : ContD) : Prop := (c.kind = 0 ∧ c.rows = [] ∧ c.kids = []) ∨ (c.kind = 1 ∧ GoodR c.rows ∧ c.kids = []) ∨ (c.kind = 2 ∧ GoodK c.kids ∧ c.rows = [])
def ChkPost (c : ContD) (w : World) (e : Ending) (w' : World) : Prop := ∃ x : Int, e = .returned (.int .i64 x) ∧ ((x = 0 ∧ GoodC c) ∨ (x = 160 ∧ ¬ GoodC c)) ∧ Below w.heap.size w w'
theorem nil_of {α : Type} {L : List α} {n : Nat} (h : L.length = n) (h0 : ¬ 0 < n) : L = [] := List.eq_nil_of_length_eq_zero (by omega)
theorem not_nil {α : Type} {L : List α} {n : Nat} (h : L.length = n) (h0 : 0 < n) : L ≠ [] := fun e => by rw [e] at h; simp at h; omega
theorem good0 {k : Int} {rows : List RowD} {kids : List KidD} (hk : k = 0) : GoodC ⟨k, rows, kids⟩ ↔ rows = [] ∧ kids = [] := by
 subst hk
 exact ⟨fun h => by (rcases h with ⟨_, h⟩ | ⟨h, _⟩ | ⟨h, _⟩) <;> first | exact h | (simp at h), fun h => .inl ⟨rfl, h⟩⟩
theorem good1 {k : Int} {rows : List RowD} {kids : List KidD} (hk : k = 1) : GoodC ⟨k, rows, kids⟩ ↔ GoodR rows ∧ kids = [] := by
 subst hk
 exact ⟨fun h => by (rcases h with ⟨h, _⟩ | ⟨_, h⟩ | ⟨h, _⟩) <;> first | exact h | (simp at h), fun h => .inr (.inl ⟨rfl, h⟩)⟩
theorem good2 {k : Int} {rows : List RowD} {kids : List KidD} (hk : k = 2) : GoodC ⟨k, rows, kids⟩ ↔ GoodK kids ∧ rows = [] := by
 subst hk
 exact ⟨fun h => by (rcases h with ⟨h, _⟩ | ⟨h, _⟩ | ⟨_, h⟩) <;> first | exact h | (simp at h), fun h => .inr (.inr ⟨rfl, h⟩)⟩
theorem goodN {k : Int} {rows : List RowD} {kids : List KidD} (h0 : k ≠ 0) (h1 : k ≠ 1) (h2 : k ≠ 2) : ¬ GoodC ⟨k, rows, kids⟩ := fun h => by
 rcases h with ⟨h, _⟩ | ⟨h, _⟩ | ⟨h, _⟩
 · exact h0 h
 · exact h1 h
 · exact h2 h
set_option maxRecDepth 100000 in
set_option maxHeartbeats 4000000 in
theorem chkN (k : Int) (rq : Option Addr) (rn rc : Nat) (kq : Option Addr) (kn kc : Nat) (rows : List RowD) (kids : List KidD) (w : World) (hr : RowsOn w rq rn rc rows) (hd : KidsOn w kq kn kc kids) (h0 : k ≠ 0) (h1 : k ≠ 1) (h2 : k ≠ 2) :
 Calls Tryz.prog 89 #[.agg #[.int .i64 k, .slice rq rn rc, .slice kq kn kc]] w (ChkPost ⟨k, rows, kids⟩ w) := by
 obtain ⟨W, hW⟩ : ∃ W, w.alloc (.cells #[.int .i64 k, .slice rq rn rc, .slice kq kn kc] 55) = W := ⟨_, rfl⟩
 have hbx := Lib.hid (one_box (xs := [.int .i64 k, .slice rq rn rc, .slice kq kn kc]) hW)
 have c0 := hbx.out.2.1.cell 0 rfl
 have c1 := hbx.out.2.1.cell 1 rfl
 have c2 := hbx.out.2.1.cell 2 rfl
 have hrr := Lib.hid (hr.below hbx.out.1 (Nat.le_refl _))
 have hkk := Lib.hid (hd.below hbx.out.1 (Nat.le_refl _))
 have hrl := Lib.hid hr.len
 have hkl := Lib.hid hd.len
 have hrm := Nat.le_trans hr.le hr.cap
 have hkm := Nat.le_trans hd.le hd.cap
 unfold maxLen at hrm hkm
 clear hr hd
 clear hrr hkk
 go_enter Tryz.func89, Tryz.ntmps89
 go_wp2
 clear hW
 refine wp_scope_straight ?_
 go_wp2
 refine wp_label ?_
 go_wp2
 try rw [Exit.noGoto_ret]
 go_ret
 exact ⟨160, rfl, .inr ⟨rfl, goodN h0 h1 h2⟩, hbx.out.1⟩
set_option maxRecDepth 100000 in
set_option maxHeartbeats 4000000 in
theorem chk0 (rq : Option Addr) (rn rc : Nat) (kq : Option Addr) (kn kc : Nat) (rows : List RowD) (kids : List KidD) (w : World) (hr : RowsOn w rq rn rc rows) (hd : KidsOn w kq kn kc kids) :
 Calls Tryz.prog 89 #[.agg #[.int .i64 0, .slice rq rn rc, .slice kq kn kc]] w (ChkPost ⟨0, rows, kids⟩ w) := by
 obtain ⟨W, hW⟩ : ∃ W, w.alloc (.cells #[.int .i64 0, .slice rq rn rc, .slice kq kn kc] 55) = W := ⟨_, rfl⟩
 have hbx := Lib.hid (one_box (xs := [.int .i64 0, .slice rq rn rc, .slice kq kn kc]) hW)
 have c0 := hbx.out.2.1.cell 0 rfl
 have c1 := hbx.out.2.1.cell 1 rfl
 have c2 := hbx.out.2.1.cell 2 rfl
 have hrr := Lib.hid (hr.below hbx.out.1 (Nat.le_refl _))
 have hkk := Lib.hid (hd.below hbx.out.1 (Nat.le_refl _))
 have hrl := Lib.hid hr.len
 have hkl := Lib.hid hd.len
 have hrm := Nat.le_trans hr.le hr.cap
 have hkm := Nat.le_trans hd.le hd.cap
 unfold maxLen at hrm hkm
 clear hr hd
 by_cases h1 : 0 < rn
 · go_enter Tryz.func89, Tryz.ntmps89
   go_wp2
   clear hW
   refine wp_scope_straight ?_
   go_wp2
   refine wp_label ?_
   go_wp2
   try rw [Exit.noGoto_ret]
   go_ret
   exact ⟨160, rfl, .inr ⟨rfl, fun h => not_nil hrl.out h1 ((good0 rfl).1 h).1⟩, hbx.out.1⟩
 · by_cases h2 : 0 < kn
   · go_enter Tryz.func89, Tryz.ntmps89
     go_wp2
     clear hW
     refine wp_scope_straight ?_
     go_wp2
     refine wp_label ?_
     go_wp2
     try rw [Exit.noGoto_ret]
     go_ret
     exact ⟨160, rfl, .inr ⟨rfl, fun h => not_nil hkl.out h2 ((good0 rfl).1 h).2⟩, hbx.out.1⟩
   · go_enter Tryz.func89, Tryz.ntmps89
     go_wp2
     clear hW
     refine wp_scope_straight ?_
     go_wp2
     refine wp_label ?_
     go_wp2
     try rw [Exit.noGoto_ret]
     go_ret
     exact ⟨0, rfl, .inl ⟨rfl, (good0 rfl).2 ⟨nil_of hrl.out h1, nil_of hkl.out h2⟩⟩, hbx.out.1⟩
set_option maxRecDepth 100000 in
set_option maxHeartbeats 4000000 in
theorem chk1 (rq : Option Addr) (rn rc : Nat) (kq : Option Addr) (kn kc : Nat) (rows : List RowD) (kids : List KidD) (w : World) (hr : RowsOn w rq rn rc rows) (hd : KidsOn w kq kn kc kids) :
 Calls Tryz.prog 89 #[.agg #[.int .i64 1, .slice rq rn rc, .slice kq kn kc]] w (ChkPost ⟨1, rows, kids⟩ w) := by
 obtain ⟨W, hW⟩ : ∃ W, w.alloc (.cells #[.int .i64 1, .slice rq rn rc, .slice kq kn kc] 55) = W := ⟨_, rfl⟩
 have hbx := Lib.hid (one_box (xs := [.int .i64 1, .slice rq rn rc, .slice kq kn kc]) hW)
 have c0 := hbx.out.2.1.cell 0 rfl
 have c1 := hbx.out.2.1.cell 1 rfl
 have c2 := hbx.out.2.1.cell 2 rfl
 have hrr := Lib.hid (hr.below hbx.out.1 (Nat.le_refl _))
 have hkk := Lib.hid (hd.below hbx.out.1 (Nat.le_refl _))
 have hrl := Lib.hid hr.len
 have hkl := Lib.hid hd.len
 have hrm := Nat.le_trans hr.le hr.cap
 have hkm := Nat.le_trans hd.le hd.cap
 unfold maxLen at hrm hkm
 clear hr hd
 by_cases h1 : 4 < rn
 · go_enter Tryz.func89, Tryz.ntmps89
   go_wp2
   clear hW
   refine wp_scope_straight ?_
   go_wp2
   refine wp_label ?_
   go_wp2
   try rw [Exit.noGoto_ret]
   go_ret
   exact ⟨160, rfl, .inr ⟨rfl, fun h => by have := ((good1 rfl).1 h).1.len; rw [hrl.out] at this; omega⟩, hbx.out.1⟩
 · by_cases h2 : 0 < kn
   · go_enter Tryz.func89, Tryz.ntmps89
     go_wp2
     clear hW
     refine wp_scope_straight ?_
     go_wp2
     refine wp_label ?_
     go_wp2
     try rw [Exit.noGoto_ret]
     go_ret
     exact ⟨160, rfl, .inr ⟨rfl, fun h => not_nil hkl.out h2 ((good1 rfl).1 h).2⟩, hbx.out.1⟩
   · go_enter Tryz.func89, Tryz.ntmps89
     go_wp2
     clear hW
     refine wp_scope_straight ?_
     go_wp2
     refine wp_label ?_
     go_wp2
     go_loopw [36] (fun v36 wr => ∃ k : Nat, k ≤ rn ∧ v36 = .int .i64 k ∧ Hid (Below W.heap.size W wr) ∧ Hid (∀ (i : Nat) (r : RowD), i < k → rows[i]? = some r → fitsR (rows.take i) r = true)) (fun v36 _ => rn - (RowKit.intOf v36).toNat)
     case atStart => exact ⟨0, Nat.zero_le _, rfl, (show Below _ _ _ from Below.refl _ _), fun i r hi => by omega⟩
     case round =>
      obtain ⟨k, hk, rfl, hrl2, hp⟩ := hrel
      by_cases hlt : k < rn
      · obtain ⟨A, ⟨⟨t, id⟩, v, s⟩, hqA, hx, hok, hcA⟩ := (hrr.out.below hrl2.out (Nat.le_refl _)).at hlt
        subst hqA
        have hcell : Hid (∀ j x, ([.int .i64 t, .int .u16 id, .int .i64 v, .string s] : List Value)[j]? = some x → wr.cell? ((A.add (k * 4)).add j) = some x) := hcA
        have hs2 := sizeRow t id v s
        have hx' := Lib.hid hx
        have hsn := Lib.hid hok.note
        have i0 : (0 : Int) ≤ k := by omega
        have i1 : (k : Int) < rn := by omega
        have hsl := fun u => slice_rows (some A) rn rc k (by omega) hrr.out.le u
        obtain ⟨WA, hWA⟩ : ∃ W', wr.alloc (.cells #[.int .i64 t, .int .u16 id, .int .i64 v, .string s] 68) = W' := ⟨_, rfl⟩
        have hbA := Lib.hid (one_box (xs := [.int .i64 t, .int .u16 id, .int .i64 v, .string s]) hWA)
        have hb3 := Lib.hid hbA.out.1
        have hwA := Lib.hid (hrl2.out.trans (hb3.out.mono hrl2.out.size))
        have hcl := Lib.hid (fun u (hu : Below WA.heap.size WA u) => rowFits_any (some A) k rc (rows.take k) t id v s u ((hrr.out.front (by omega)).below (hrl2.out.trans (hb3.out.mono hrl2.out.size) |>.trans (hu.mono (hrl2.out.trans (hb3.out.mono hrl2.out.size)).size)) (Nat.le_refl _)) hsn.out)
        obtain ⟨F, hF⟩ : ∃ F, fitsR (rows.take k) ⟨⟨t, id⟩, v, s⟩ = F := ⟨_, rfl⟩
        rw [hF] at hcl
        have hf' := Lib.hid hF
        have q1 := (hbx.out.2.1.below hwA.out (Nat.le_refl _)).cell 1 rfl
        have p0 := hbA.out.2.1.cell 0 rfl
        have p1 := hbA.out.2.1.cell 1 rfl
        have p2 := hbA.out.2.1.cell 2 rfl
        have p3 := hbA.out.2.1.cell 3 rfl
        clear hx hok hcA hF
        go_wp2_with (first
         | (with_reducible refine wpList_load_at rfl 68 (.tmp 39) rfl Tryz.underlying68 rfl hs2 rfl hcell.out ?_))
        clear hWA
        go_region_held3 (fun u => u.cell? ⟨w.heap.size, 1, none⟩ = some (.slice (some A) rn rc) ∧ u.cell? ⟨wr.heap.size, 0, none⟩ = some (.int .i64 t) ∧ u.cell? ⟨wr.heap.size, 1, none⟩ = some (.int .u16 id) ∧ u.cell? ⟨wr.heap.size, 2, none⟩ = some (.int .i64 v) ∧ u.cell? ⟨wr.heap.size, 3, none⟩ = some (.string s) ∧ Below WA.heap.size WA u)
         (first | exact ⟨q1, p0, p1, p2, p3, below_drew _⟩ | (go_split_ands; exact ⟨cell_keeps hb6.out (Nat.le_refl _) (by assumption), cell_keeps hb6.out (Nat.le_refl _) (by assumption), cell_keeps hb6.out (Nat.le_refl _) (by assumption), cell_keeps hb6.out (Nat.le_refl _) (by assumption), cell_keeps hb6.out (Nat.le_refl _) (by assumption), below_step hb6.out (by assumption)⟩))
         (first
           | (go_at_call 112; refine (hcl.out _ (by go_split_ands; first | assumption | exact below_drew _)).mono ?_; rintro e x5 ⟨rfl, hb6'⟩; have hb6 := Lib.hid hb6'; clear hb6'))
        have hv4 : Hid (Below WA.heap.size WA x5) := by
         show Below _ _ _
         go_split_ands
         assumption
        have hnew := Lib.hid (hwA.out.trans (hv4.out.mono hwA.out.size))
        clear q1 p0 p1 p2 p3 hcl hsl
        cases F with
        | true =>
          go_wp2
          go_roundw
          case rel =>
           refine ⟨k + 1, by omega, by go_num, hnew, fun i r hi hr => ?_⟩
           rcases Nat.lt_or_ge i k with h | h
           · exact hp.out i r h hr
           · obtain rfl : i = k := by omega
             rw [hx'.out] at hr
             cases hr
             exact hf'.out
          case measure => simp [RowKit.intOf]; omega
        | false =>
          go_wp2
          try rw [Exit.noGoto_ret]
          go_ret
          exact ⟨160, rfl, .inr ⟨rfl, fun h => by have := ((good1 rfl).1 h).1.fits k _ hx'.out; rw [hf'.out] at this; cases this⟩, hbx.out.1.trans (hnew.out.mono hbx.out.1.size)⟩
      · obtain rfl : rn = k := by omega
        go_wp2
        try rw [Exit.noGoto_ret]
        go_ret
        exact ⟨0, rfl, .inl ⟨rfl, (good1 rfl).2 ⟨⟨by rw [hrl.out]; omega, fun i r hi => hp.out i r (by have := (List.getElem?_eq_some_iff.1 hi).1; rw [hrl.out] at this; exact this) hi⟩, nil_of hkl.out h2⟩⟩, hbx.out.1.trans (hrl2.out.mono hbx.out.1.size)⟩
set_option maxRecDepth 100000 in
set_option maxHeartbeats 4000000 in
theorem chk2 (rq : Option Addr) (rn rc : Nat) (kq : Option Addr) (kn kc : Nat) (rows : List RowD) (kids : List KidD) (w : World) (hr : RowsOn w rq rn rc rows) (hd : KidsOn w kq kn kc kids) :
 Calls Tryz.prog 89 #[.agg #[.int .i64 2, .slice rq rn rc, .slice kq kn kc]] w (ChkPost ⟨2, rows, kids⟩ w) := by
 obtain ⟨W, hW⟩ : ∃ W, w.alloc (.cells #[.int .i64 2, .slice rq rn rc, .slice kq kn kc] 55) = W := ⟨_, rfl⟩
 have hbx := Lib.hid (one_box (xs := [.int .i64 2, .slice rq rn rc, .slice kq kn kc]) hW)
 have c0 := hbx.out.2.1.cell 0 rfl
 have c1 := hbx.out.2.1.cell 1 rfl
 have c2 := hbx.out.2.1.cell 2 rfl
 have hrr := Lib.hid (hr.below hbx.out.1 (Nat.le_refl _))
 have hkk := Lib.hid (hd.below hbx.out.1 (Nat.le_refl _))
 have hrl := Lib.hid hr.len
 have hkl := Lib.hid hd.len
 have hrm := Nat.le_trans hr.le hr.cap
 have hkm := Nat.le_trans hd.le hd.cap
 unfold maxLen at hrm hkm
 clear hr hd
 by_cases h1 : kn < 2
 · go_enter Tryz.func89, Tryz.ntmps89
   go_wp2
   clear hW
   refine wp_scope_straight ?_
   go_wp2
   refine wp_label ?_
   go_wp2
   try rw [Exit.noGoto_ret]
   go_ret
   exact ⟨160, rfl, .inr ⟨rfl, fun h => by have := ((good2 rfl).1 h).1.few; rw [hkl.out] at this; omega⟩, hbx.out.1⟩
 · by_cases h2 : 4 < kn
   · go_enter Tryz.func89, Tryz.ntmps89
     go_wp2
     clear hW
     refine wp_scope_straight ?_
     go_wp2
     refine wp_label ?_
     go_wp2
     try rw [Exit.noGoto_ret]
     go_ret
     exact ⟨160, rfl, .inr ⟨rfl, fun h => by have := ((good2 rfl).1 h).1.len; rw [hkl.out] at this; omega⟩, hbx.out.1⟩
   · by_cases h3 : 0 < rn
     · go_enter Tryz.func89, Tryz.ntmps89
       go_wp2
       clear hW
       refine wp_scope_straight ?_
       go_wp2
       refine wp_label ?_
       go_wp2
       try rw [Exit.noGoto_ret]
       go_ret
       exact ⟨160, rfl, .inr ⟨rfl, fun h => not_nil hrl.out h3 ((good2 rfl).1 h).2⟩, hbx.out.1⟩
     · go_enter Tryz.func89, Tryz.ntmps89
       go_wp2
       clear hW
       refine wp_scope_straight ?_
       go_wp2
       refine wp_label ?_
       go_wp2
       go_loopw [70] (fun v70 wr => ∃ k : Nat, k ≤ kn ∧ v70 = .int .i64 k ∧ Hid (Below W.heap.size W wr) ∧ Hid (∀ (i : Nat) (r : KidD), i < k → kids[i]? = some r → fitsK (kids.take i) r = true)) (fun v70 _ => kn - (RowKit.intOf v70).toNat)
       case atStart => exact ⟨0, Nat.zero_le _, rfl, (show Below _ _ _ from Below.refl _ _), fun i r hi => by omega⟩
       case round =>
        obtain ⟨k, hk, rfl, hrl2, hp⟩ := hrel
        by_cases hlt : k < kn
        · obtain ⟨A, ⟨⟨t, id⟩, v⟩, hqA, hx, hok, hcA⟩ := (hkk.out.below hrl2.out (Nat.le_refl _)).at hlt
          subst hqA
          have hcell : Hid (∀ j x, ([.int .i64 t, .int .u16 id, .int .i64 v] : List Value)[j]? = some x → wr.cell? ((A.add (k * 3)).add j) = some x) := hcA
          have hs2 := sizeKid t id v
          have hx' := Lib.hid hx
          have i0 : (0 : Int) ≤ k := by omega
          have i1 : (k : Int) < kn := by omega
          have hsl := fun u => slice_kids (some A) kn kc k (by omega) hkk.out.le u
          obtain ⟨WA, hWA⟩ : ∃ W', wr.alloc (.cells #[.int .i64 t, .int .u16 id, .int .i64 v] 100) = W' := ⟨_, rfl⟩
          have hbA := Lib.hid (one_box (xs := [.int .i64 t, .int .u16 id, .int .i64 v]) hWA)
          have hb3 := Lib.hid hbA.out.1
          have hwA := Lib.hid (hrl2.out.trans (hb3.out.mono hrl2.out.size))
          have hcl := Lib.hid (fun u (hu : Below WA.heap.size WA u) => kidFits_any (some A) k kc (kids.take k) t id v u ((hkk.out.front (by omega)).below (hrl2.out.trans (hb3.out.mono hrl2.out.size) |>.trans (hu.mono (hrl2.out.trans (hb3.out.mono hrl2.out.size)).size)) (Nat.le_refl _)))
          obtain ⟨F, hF⟩ : ∃ F, fitsK (kids.take k) ⟨⟨t, id⟩, v⟩ = F := ⟨_, rfl⟩
          rw [hF] at hcl
          have hf' := Lib.hid hF
          have q2 := (hbx.out.2.1.below hwA.out (Nat.le_refl _)).cell 2 rfl
          have p0 := hbA.out.2.1.cell 0 rfl
          have p1 := hbA.out.2.1.cell 1 rfl
          have p2 := hbA.out.2.1.cell 2 rfl
          clear hx hok hcA hF
          go_wp2_with (first
           | (with_reducible refine wpList_load_at rfl 100 (.tmp 73) rfl Tryz.underlying100 rfl hs2 rfl hcell.out ?_))
          clear hWA
          go_region_held3 (fun u => u.cell? ⟨w.heap.size, 2, none⟩ = some (.slice (some A) kn kc) ∧ u.cell? ⟨wr.heap.size, 0, none⟩ = some (.int .i64 t) ∧ u.cell? ⟨wr.heap.size, 1, none⟩ = some (.int .u16 id) ∧ u.cell? ⟨wr.heap.size, 2, none⟩ = some (.int .i64 v) ∧ Below WA.heap.size WA u)
           (first | exact ⟨q2, p0, p1, p2, below_drew _⟩ | (go_split_ands; exact ⟨cell_keeps hb6.out (Nat.le_refl _) (by assumption), cell_keeps hb6.out (Nat.le_refl _) (by assumption), cell_keeps hb6.out (Nat.le_refl _) (by assumption), cell_keeps hb6.out (Nat.le_refl _) (by assumption), below_step hb6.out (by assumption)⟩))
           (first
             | (go_at_call 113; refine (hcl.out _ (by go_split_ands; first | assumption | exact below_drew _)).mono ?_; rintro e x5 ⟨rfl, hb6'⟩; have hb6 := Lib.hid hb6'; clear hb6'))
          have hv4 : Hid (Below WA.heap.size WA x5) := by
           show Below _ _ _
           go_split_ands
           assumption
          have hnew := Lib.hid (hwA.out.trans (hv4.out.mono hwA.out.size))
          clear q2 p0 p1 p2 hcl hsl
          cases F with
          | true =>
            go_wp2
            go_roundw
            case rel =>
             refine ⟨k + 1, by omega, by go_num, hnew, fun i r hi hr => ?_⟩
             rcases Nat.lt_or_ge i k with h | h
             · exact hp.out i r h hr
             · obtain rfl : i = k := by omega
               rw [hx'.out] at hr
               cases hr
               exact hf'.out
            case measure => simp [RowKit.intOf]; omega
          | false =>
            go_wp2
            try rw [Exit.noGoto_ret]
            go_ret
            exact ⟨160, rfl, .inr ⟨rfl, fun h => by have := ((good2 rfl).1 h).1.fits k _ hx'.out; rw [hf'.out] at this; cases this⟩, hbx.out.1.trans (hnew.out.mono hbx.out.1.size)⟩
        · obtain rfl : kn = k := by omega
          go_wp2
          try rw [Exit.noGoto_ret]
          go_ret
          exact ⟨0, rfl, .inl ⟨rfl, (good2 rfl).2 ⟨⟨by rw [hkl.out]; omega, by rw [hkl.out]; omega, fun i r hi => hp.out i r (by have := (List.getElem?_eq_some_iff.1 hi).1; rw [hkl.out] at this; exact this) hi⟩, nil_of hrl.out h3⟩⟩, hbx.out.1.trans (hrl2.out.mono hbx.out.1.size)⟩
theorem check_any (k : Int) (rq : Option Addr) (rn rc : Nat) (kq : Option Addr) (kn kc : Nat) (c : ContD) (w : World) (h : ContOn w k rq rn rc kq kn kc c) :
 Calls Tryz.prog 89 #[.agg #[.int .i64 k, .slice rq rn rc, .slice kq kn kc]] w (ChkPost c w) := by
 obtain ⟨ck, rows, kids⟩ := c
 obtain ⟨rfl, hr, hd⟩ := h
 by_cases h0 : k = 0
 · subst h0; exact chk0 rq rn rc kq kn kc rows kids w hr hd
 · by_cases h1 : k = 1
   · subst h1; exact chk1 rq rn rc kq kn kc rows kids w hr hd
   · by_cases h2 : k = 2
     · subst h2; exact chk2 rq rn rc kq kn kc rows kids w hr hd
     · exact chkN k rq rn rc kq kn kc rows kids w hr hd h0 h1 h2
end Go.Proofs.YtocekhckmpkbmaaGreat
