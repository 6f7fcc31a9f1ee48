/- Parts of the proof: Check of codec; The reader of codec: content; take; TakeContent and TakeRow; take of codec, at contents and at rows; TakeContent and TakeRow -/
import Derived.Test.YtocekhckmpkbmaaGreatU05
import Derived.Test.YtocekhckmpkbmaaGreatU01
namespace Go.Proofs.YtocekhckmpkbmaaGreat
open Go.RowKit
structure GoodR (L : List RowD) : Prop where
 len : L.length ≤ 4
 fits : ∀ (i : Nat) (r : RowD), L[i]? = some r → fitsR (L.take i) r = true
structure GoodK (L : List KidD) : Prop where
 few : 2 ≤ L.length
 len : L.length ≤ 4
 fits : ∀ (i : Nat) (k : KidD), L[i]? = some k → fitsK (L.take i) k = true
def GoodC (c : ContD) : Prop := (c.kind = 0 ∧ c.rows = [] ∧ c.kids = []) ∨ (c.kind = 1 ∧ GoodR c.rows ∧ c.kids = []) ∨ (c.kind = 2 ∧ GoodK c.kids ∧ c.rows = [])
def ChkPost (c : ContD) (w : World) (e : Ending) (w' : World) : Prop := ∃ x : Int, e = .returned (.int .i64 x) ∧ ((x = 0 ∧ GoodC c) ∨ (x = 160 ∧ ¬ GoodC c)) ∧ Below w.heap.size w w'
theorem nil_of {α : Type} {L : List α} {n : Nat} (h : L.length = n) (h0 : ¬ 0 < n) : L = [] := List.eq_nil_of_length_eq_zero (by omega)
theorem not_nil {α : Type} {L : List α} {n : Nat} (h : L.length = n) (h0 : 0 < n) : L ≠ [] := fun e => by rw [e] at h; simp at h; omega
theorem good0 {k : Int} {rows : List RowD} {kids : List KidD} (hk : k = 0) : GoodC ⟨k, rows, kids⟩ ↔ rows = [] ∧ kids = [] := by
 subst hk; exact ⟨fun h => by (rcases h with ⟨_, h⟩ | ⟨h, _⟩ | ⟨h, _⟩) <;> first | exact h | (simp at h), fun h => .inl ⟨rfl, h⟩⟩
theorem good1 {k : Int} {rows : List RowD} {kids : List KidD} (hk : k = 1) : GoodC ⟨k, rows, kids⟩ ↔ GoodR rows ∧ kids = [] := by
 subst hk; exact ⟨fun h => by (rcases h with ⟨h, _⟩ | ⟨_, h⟩ | ⟨h, _⟩) <;> first | exact h | (simp at h), fun h => .inr (.inl ⟨rfl, h⟩)⟩
theorem good2 {k : Int} {rows : List RowD} {kids : List KidD} (hk : k = 2) : GoodC ⟨k, rows, kids⟩ ↔ GoodK kids ∧ rows = [] := by
 subst hk; exact ⟨fun h => by (rcases h with ⟨h, _⟩ | ⟨h, _⟩ | ⟨_, h⟩) <;> first | exact h | (simp at h), fun h => .inr (.inr ⟨rfl, h⟩)⟩
theorem goodN {k : Int} {rows : List RowD} {kids : List KidD} (h0 : k ≠ 0) (h1 : k ≠ 1) (h2 : k ≠ 2) : ¬ GoodC ⟨k, rows, kids⟩ := fun h => by
 rcases h with ⟨h, _⟩ | ⟨h, _⟩ | ⟨h, _⟩
 · exact h0 h
 · exact h1 h
 · exact h2 h
set_option maxRecDepth 100000 in
set_option maxHeartbeats 4000000 in
theorem chkN (k : Int) (rq : Option Addr) (rn rc : Nat) (kq : Option Addr) (kn kc : Nat) (rows : List RowD) (kids : List KidD) (w : World) (hr : RowsOn w rq rn rc rows) (hd : KidsOn w kq kn kc kids) (h0 : k ≠ 0) (h1 : k ≠ 1) (h2 : k ≠ 2) :
 Calls Tryz.prog 89 #[.agg #[.int .i64 k, .slice rq rn rc, .slice kq kn kc]] w (ChkPost ⟨k, rows, kids⟩ w) := by
 obtain ⟨W, hW⟩ : ∃ W, w.alloc (.cells #[.int .i64 k, .slice rq rn rc, .slice kq kn kc] 55) = W := ⟨_, rfl⟩; have hbx := lh (one_box hW); have c0 := hbx.out.2.1.cell 0 rfl; have c1 := hbx.out.2.1.cell 1 rfl; have c2 := hbx.out.2.1.cell 2 rfl; have hrr := lh (hr.below hbx.out.1 (Nat.le_refl _)); have hkk := lh (hd.below hbx.out.1 (Nat.le_refl _)); have hrl := lh hr.len; have hkl := lh hd.len; have hrm := Nat.le_trans hr.le hr.cap; have hkm := Nat.le_trans hd.le hd.cap; unfold maxLen at hrm hkm; clear hr hd; clear hrr hkk
 go_enter Tryz.func89, Tryz.ntmps89
 go_wp2; clear hW; refine wp_scope_straight ?_; go_wp2; refine wp_label ?_; go_wp2
 try rw [Exit.noGoto_ret]
 go_ret; exact ⟨160, rfl, .inr ⟨rfl, goodN h0 h1 h2⟩, hbx.out.1⟩
set_option maxRecDepth 100000 in
set_option maxHeartbeats 4000000 in
theorem chk0 (rq : Option Addr) (rn rc : Nat) (kq : Option Addr) (kn kc : Nat) (rows : List RowD) (kids : List KidD) (w : World) (hr : RowsOn w rq rn rc rows) (hd : KidsOn w kq kn kc kids) :
 Calls Tryz.prog 89 #[.agg #[.int .i64 0, .slice rq rn rc, .slice kq kn kc]] w (ChkPost ⟨0, rows, kids⟩ w) := by
 obtain ⟨W, hW⟩ : ∃ W, w.alloc (.cells #[.int .i64 0, .slice rq rn rc, .slice kq kn kc] 55) = W := ⟨_, rfl⟩; have hbx := lh (one_box hW); have c0 := hbx.out.2.1.cell 0 rfl; have c1 := hbx.out.2.1.cell 1 rfl; have c2 := hbx.out.2.1.cell 2 rfl; have hrr := lh (hr.below hbx.out.1 (Nat.le_refl _)); have hkk := lh (hd.below hbx.out.1 (Nat.le_refl _)); have hrl := lh hr.len; have hkl := lh hd.len; have hrm := Nat.le_trans hr.le hr.cap; have hkm := Nat.le_trans hd.le hd.cap; unfold maxLen at hrm hkm; clear hr hd
 by_cases h1 : 0 < rn
 · go_enter Tryz.func89, Tryz.ntmps89
   go_wp2; clear hW; refine wp_scope_straight ?_; go_wp2; refine wp_label ?_; go_wp2
   try rw [Exit.noGoto_ret]
   go_ret; exact ⟨160, rfl, .inr ⟨rfl, fun h => not_nil hrl.out h1 ((good0 rfl).1 h).1⟩, hbx.out.1⟩
 · by_cases h2 : 0 < kn
   · go_enter Tryz.func89, Tryz.ntmps89
     go_wp2; clear hW; refine wp_scope_straight ?_; go_wp2; refine wp_label ?_; go_wp2
     try rw [Exit.noGoto_ret]
     go_ret; exact ⟨160, rfl, .inr ⟨rfl, fun h => not_nil hkl.out h2 ((good0 rfl).1 h).2⟩, hbx.out.1⟩
   · go_enter Tryz.func89, Tryz.ntmps89
     go_wp2; clear hW; refine wp_scope_straight ?_; go_wp2; refine wp_label ?_; go_wp2
     try rw [Exit.noGoto_ret]
     go_ret; exact ⟨0, rfl, .inl ⟨rfl, (good0 rfl).2 ⟨nil_of hrl.out h1, nil_of hkl.out h2⟩⟩, hbx.out.1⟩
set_option maxRecDepth 100000 in
set_option maxHeartbeats 4000000 in
theorem chk1 (rq : Option Addr) (rn rc : Nat) (kq : Option Addr) (kn kc : Nat) (rows : List RowD) (kids : List KidD) (w : World) (hr : RowsOn w rq rn rc rows) (hd : KidsOn w kq kn kc kids) :
 Calls Tryz.prog 89 #[.agg #[.int .i64 1, .slice rq rn rc, .slice kq kn kc]] w (ChkPost ⟨1, rows, kids⟩ w) := by
 obtain ⟨W, hW⟩ : ∃ W, w.alloc (.cells #[.int .i64 1, .slice rq rn rc, .slice kq kn kc] 55) = W := ⟨_, rfl⟩; have hbx := lh (one_box hW); have c0 := hbx.out.2.1.cell 0 rfl; have c1 := hbx.out.2.1.cell 1 rfl; have c2 := hbx.out.2.1.cell 2 rfl; have hrr := lh (hr.below hbx.out.1 (Nat.le_refl _)); have hkk := lh (hd.below hbx.out.1 (Nat.le_refl _)); have hrl := lh hr.len; have hkl := lh hd.len; have hrm := Nat.le_trans hr.le hr.cap; have hkm := Nat.le_trans hd.le hd.cap; unfold maxLen at hrm hkm; clear hr hd
 by_cases h1 : 4 < rn
 · go_enter Tryz.func89, Tryz.ntmps89
   go_wp2; clear hW; refine wp_scope_straight ?_; go_wp2; refine wp_label ?_; go_wp2
   try rw [Exit.noGoto_ret]
   go_ret; exact ⟨160, rfl, .inr ⟨rfl, fun h => by have := ((good1 rfl).1 h).1.len; rw [hrl.out] at this; omega⟩, hbx.out.1⟩
 · by_cases h2 : 0 < kn
   · go_enter Tryz.func89, Tryz.ntmps89
     go_wp2; clear hW; refine wp_scope_straight ?_; go_wp2; refine wp_label ?_; go_wp2
     try rw [Exit.noGoto_ret]
     go_ret; exact ⟨160, rfl, .inr ⟨rfl, fun h => not_nil hkl.out h2 ((good1 rfl).1 h).2⟩, hbx.out.1⟩
   · go_enter Tryz.func89, Tryz.ntmps89
     go_wp2; clear hW; refine wp_scope_straight ?_; go_wp2; refine wp_label ?_; go_wp2
     go_loopw [36] (fun v36 wr => ∃ k : Nat, k ≤ rn ∧ v36 = .int .i64 k ∧ Hid (Below W.heap.size W wr) ∧ Hid (∀ (i : Nat) (r : RowD), i < k → rows[i]? = some r → fitsR (rows.take i) r = true)) (fun v36 _ => rn - (RowKit.intOf v36).toNat)
     case atStart => exact ⟨0, Nat.zero_le _, rfl, (show Below _ _ _ from Below.refl _ _), fun i r hi => by omega⟩
     case round =>
      obtain ⟨k, hk, rfl, hrl2, hp⟩ := hrel
      by_cases hlt : k < rn
      · obtain ⟨A, ⟨⟨t, id⟩, v, s⟩, hqA, hx, hok, hcA⟩ := (hrr.out.below hrl2.out (Nat.le_refl _)).at hlt; subst hqA; have hcell : Hid (∀ j x, ([.int .i64 t, .int .u16 id, .int .i64 v, .string s] : List Value)[j]? = some x → wr.cell? ((A.add (k * 4)).add j) = some x) := hcA; have hs2 := sizeRow t id v s; have hx' := lh hx; have hsn := lh hok.note; have i0 : (0 : Int) ≤ k := by omega
        have i1 : (k : Int) < rn := by omega
        have hsl := fun u => slice_rows (some A) rn rc k (by omega) hrr.out.le u
        obtain ⟨WA, hWA⟩ : ∃ W', wr.alloc (.cells #[.int .i64 t, .int .u16 id, .int .i64 v, .string s] 68) = W' := ⟨_, rfl⟩; have hbA := lh (one_box hWA); have hb3 := lh hbA.out.1; have hwA := lh (hrl2.out.trans (hb3.out.mono hrl2.out.size)); have hcl := lh (fun u (hu : Below WA.heap.size WA u) => rowFits_any (some A) k rc (rows.take k) t id v s u ((hrr.out.front (by omega)).below (hrl2.out.trans (hb3.out.mono hrl2.out.size) |>.trans (hu.mono (hrl2.out.trans (hb3.out.mono hrl2.out.size)).size)) (Nat.le_refl _)) hsn.out); obtain ⟨F, hF⟩ : ∃ F, fitsR (rows.take k) ⟨⟨t, id⟩, v, s⟩ = F := ⟨_, rfl⟩; rw [hF] at hcl; have hf' := lh hF; have q1 := (hbx.out.2.1.below hwA.out (Nat.le_refl _)).cell 1 rfl; have p0 := hbA.out.2.1.cell 0 rfl; have p1 := hbA.out.2.1.cell 1 rfl; have p2 := hbA.out.2.1.cell 2 rfl; have p3 := hbA.out.2.1.cell 3 rfl; clear hx hok hcA hF
        go_wp2_with (first
         | (with_reducible refine wpList_load_at rfl 68 (.tmp 39) rfl Tryz.underlying68 rfl hs2 rfl hcell.out ?_))
        clear hWA
        go_region_held3 (fun u => u.cell? ⟨w.heap.size, 1, none⟩ = some (.slice (some A) rn rc) ∧ u.cell? ⟨wr.heap.size, 0, none⟩ = some (.int .i64 t) ∧ u.cell? ⟨wr.heap.size, 1, none⟩ = some (.int .u16 id) ∧ u.cell? ⟨wr.heap.size, 2, none⟩ = some (.int .i64 v) ∧ u.cell? ⟨wr.heap.size, 3, none⟩ = some (.string s) ∧ Below WA.heap.size WA u)
         (first | exact ⟨q1, p0, p1, p2, p3, below_drew _⟩ | (go_split_ands; exact ⟨cell_keeps hb6.out (Nat.le_refl _) (by assumption), cell_keeps hb6.out (Nat.le_refl _) (by assumption), cell_keeps hb6.out (Nat.le_refl _) (by assumption), cell_keeps hb6.out (Nat.le_refl _) (by assumption), cell_keeps hb6.out (Nat.le_refl _) (by assumption), below_step hb6.out (by assumption)⟩))
         (first
           | (go_at_call 112; refine (hcl.out _ (by go_split_ands; first | assumption | exact below_drew _)).mono ?_; rintro e x5 ⟨rfl, hb6'⟩; have hb6 := lh hb6'; clear hb6'))
        have hv4 : Hid (Below WA.heap.size WA x5) := by
         show Below _ _ _
         go_split_ands
         assumption
        have hnew := lh (hwA.out.trans (hv4.out.mono hwA.out.size)); clear q1 p0 p1 p2 p3 hcl hsl; cases F with
        | true =>
          go_wp2
          go_roundw
          case rel =>
           refine ⟨k + 1, by omega, by go_num, hnew, fun i r hi hr => ?_⟩; rcases Nat.lt_or_ge i k with h | h
           · exact hp.out i r h hr
           · obtain rfl : i = k := by omega
             rw [hx'.out] at hr; cases hr; exact hf'.out
          case measure => simp [RowKit.intOf]; omega
        | false =>
          go_wp2
          try rw [Exit.noGoto_ret]
          go_ret; exact ⟨160, rfl, .inr ⟨rfl, fun h => by have := ((good1 rfl).1 h).1.fits k _ hx'.out; rw [hf'.out] at this; cases this⟩, hbx.out.1.trans (hnew.out.mono hbx.out.1.size)⟩
      · obtain rfl : rn = k := by omega
        go_wp2
        try rw [Exit.noGoto_ret]
        go_ret; exact ⟨0, rfl, .inl ⟨rfl, (good1 rfl).2 ⟨⟨by rw [hrl.out]; omega, fun i r hi => hp.out i r (by have := (List.getElem?_eq_some_iff.1 hi).1; rw [hrl.out] at this; exact this) hi⟩, nil_of hkl.out h2⟩⟩, hbx.out.1.trans (hrl2.out.mono hbx.out.1.size)⟩
set_option maxRecDepth 100000 in
set_option maxHeartbeats 4000000 in
theorem chk2 (rq : Option Addr) (rn rc : Nat) (kq : Option Addr) (kn kc : Nat) (rows : List RowD) (kids : List KidD) (w : World) (hr : RowsOn w rq rn rc rows) (hd : KidsOn w kq kn kc kids) :
 Calls Tryz.prog 89 #[.agg #[.int .i64 2, .slice rq rn rc, .slice kq kn kc]] w (ChkPost ⟨2, rows, kids⟩ w) := by
 obtain ⟨W, hW⟩ : ∃ W, w.alloc (.cells #[.int .i64 2, .slice rq rn rc, .slice kq kn kc] 55) = W := ⟨_, rfl⟩; have hbx := lh (one_box hW); have c0 := hbx.out.2.1.cell 0 rfl; have c1 := hbx.out.2.1.cell 1 rfl; have c2 := hbx.out.2.1.cell 2 rfl; have hrr := lh (hr.below hbx.out.1 (Nat.le_refl _)); have hkk := lh (hd.below hbx.out.1 (Nat.le_refl _)); have hrl := lh hr.len; have hkl := lh hd.len; have hrm := Nat.le_trans hr.le hr.cap; have hkm := Nat.le_trans hd.le hd.cap; unfold maxLen at hrm hkm; clear hr hd
 by_cases h1 : kn < 2
 · go_enter Tryz.func89, Tryz.ntmps89
   go_wp2; clear hW; refine wp_scope_straight ?_; go_wp2; refine wp_label ?_; go_wp2
   try rw [Exit.noGoto_ret]
   go_ret; exact ⟨160, rfl, .inr ⟨rfl, fun h => by have := ((good2 rfl).1 h).1.few; rw [hkl.out] at this; omega⟩, hbx.out.1⟩
 · by_cases h2 : 4 < kn
   · go_enter Tryz.func89, Tryz.ntmps89
     go_wp2; clear hW; refine wp_scope_straight ?_; go_wp2; refine wp_label ?_; go_wp2
     try rw [Exit.noGoto_ret]
     go_ret; exact ⟨160, rfl, .inr ⟨rfl, fun h => by have := ((good2 rfl).1 h).1.len; rw [hkl.out] at this; omega⟩, hbx.out.1⟩
   · by_cases h3 : 0 < rn
     · go_enter Tryz.func89, Tryz.ntmps89
       go_wp2; clear hW; refine wp_scope_straight ?_; go_wp2; refine wp_label ?_; go_wp2
       try rw [Exit.noGoto_ret]
       go_ret; exact ⟨160, rfl, .inr ⟨rfl, fun h => not_nil hrl.out h3 ((good2 rfl).1 h).2⟩, hbx.out.1⟩
     · go_enter Tryz.func89, Tryz.ntmps89
       go_wp2; clear hW; refine wp_scope_straight ?_; go_wp2; refine wp_label ?_; go_wp2
       go_loopw [70] (fun v70 wr => ∃ k : Nat, k ≤ kn ∧ v70 = .int .i64 k ∧ Hid (Below W.heap.size W wr) ∧ Hid (∀ (i : Nat) (r : KidD), i < k → kids[i]? = some r → fitsK (kids.take i) r = true)) (fun v70 _ => kn - (RowKit.intOf v70).toNat)
       case atStart => exact ⟨0, Nat.zero_le _, rfl, (show Below _ _ _ from Below.refl _ _), fun i r hi => by omega⟩
       case round =>
        obtain ⟨k, hk, rfl, hrl2, hp⟩ := hrel
        by_cases hlt : k < kn
        · obtain ⟨A, ⟨⟨t, id⟩, v⟩, hqA, hx, hok, hcA⟩ := (hkk.out.below hrl2.out (Nat.le_refl _)).at hlt; subst hqA; have hcell : Hid (∀ j x, ([.int .i64 t, .int .u16 id, .int .i64 v] : List Value)[j]? = some x → wr.cell? ((A.add (k * 3)).add j) = some x) := hcA; have hs2 := sizeKid t id v; have hx' := lh hx; have i0 : (0 : Int) ≤ k := by omega
          have i1 : (k : Int) < kn := by omega
          have hsl := fun u => slice_kids (some A) kn kc k (by omega) hkk.out.le u
          obtain ⟨WA, hWA⟩ : ∃ W', wr.alloc (.cells #[.int .i64 t, .int .u16 id, .int .i64 v] 100) = W' := ⟨_, rfl⟩; have hbA := lh (one_box hWA); have hb3 := lh hbA.out.1; have hwA := lh (hrl2.out.trans (hb3.out.mono hrl2.out.size)); have hcl := lh (fun u (hu : Below WA.heap.size WA u) => kidFits_any (some A) k kc (kids.take k) t id v u ((hkk.out.front (by omega)).below (hrl2.out.trans (hb3.out.mono hrl2.out.size) |>.trans (hu.mono (hrl2.out.trans (hb3.out.mono hrl2.out.size)).size)) (Nat.le_refl _))); obtain ⟨F, hF⟩ : ∃ F, fitsK (kids.take k) ⟨⟨t, id⟩, v⟩ = F := ⟨_, rfl⟩; rw [hF] at hcl; have hf' := lh hF; have q2 := (hbx.out.2.1.below hwA.out (Nat.le_refl _)).cell 2 rfl; have p0 := hbA.out.2.1.cell 0 rfl; have p1 := hbA.out.2.1.cell 1 rfl; have p2 := hbA.out.2.1.cell 2 rfl; clear hx hok hcA hF
          go_wp2_with (first
           | (with_reducible refine wpList_load_at rfl 100 (.tmp 73) rfl Tryz.underlying100 rfl hs2 rfl hcell.out ?_))
          clear hWA
          go_region_held3 (fun u => u.cell? ⟨w.heap.size, 2, none⟩ = some (.slice (some A) kn kc) ∧ u.cell? ⟨wr.heap.size, 0, none⟩ = some (.int .i64 t) ∧ u.cell? ⟨wr.heap.size, 1, none⟩ = some (.int .u16 id) ∧ u.cell? ⟨wr.heap.size, 2, none⟩ = some (.int .i64 v) ∧ Below WA.heap.size WA u)
           (first | exact ⟨q2, p0, p1, p2, below_drew _⟩ | (go_split_ands; exact ⟨cell_keeps hb6.out (Nat.le_refl _) (by assumption), cell_keeps hb6.out (Nat.le_refl _) (by assumption), cell_keeps hb6.out (Nat.le_refl _) (by assumption), cell_keeps hb6.out (Nat.le_refl _) (by assumption), below_step hb6.out (by assumption)⟩))
           (first
             | (go_at_call 113; refine (hcl.out _ (by go_split_ands; first | assumption | exact below_drew _)).mono ?_; rintro e x5 ⟨rfl, hb6'⟩; have hb6 := lh hb6'; clear hb6'))
          have hv4 : Hid (Below WA.heap.size WA x5) := by
           show Below _ _ _
           go_split_ands
           assumption
          have hnew := lh (hwA.out.trans (hv4.out.mono hwA.out.size)); clear q2 p0 p1 p2 hcl hsl; cases F with
          | true =>
            go_wp2
            go_roundw
            case rel =>
             refine ⟨k + 1, by omega, by go_num, hnew, fun i r hi hr => ?_⟩; rcases Nat.lt_or_ge i k with h | h
             · exact hp.out i r h hr
             · obtain rfl : i = k := by omega
               rw [hx'.out] at hr; cases hr; exact hf'.out
            case measure => simp [RowKit.intOf]; omega
          | false =>
            go_wp2
            try rw [Exit.noGoto_ret]
            go_ret; exact ⟨160, rfl, .inr ⟨rfl, fun h => by have := ((good2 rfl).1 h).1.fits k _ hx'.out; rw [hf'.out] at this; cases this⟩, hbx.out.1.trans (hnew.out.mono hbx.out.1.size)⟩
        · obtain rfl : kn = k := by omega
          go_wp2
          try rw [Exit.noGoto_ret]
          go_ret; exact ⟨0, rfl, .inl ⟨rfl, (good2 rfl).2 ⟨⟨by rw [hkl.out]; omega, by rw [hkl.out]; omega, fun i r hi => hp.out i r (by have := (List.getElem?_eq_some_iff.1 hi).1; rw [hkl.out] at this; exact this) hi⟩, nil_of hrl.out h3⟩⟩, hbx.out.1.trans (hrl2.out.mono hbx.out.1.size)⟩
theorem check_any (k : Int) (rq : Option Addr) (rn rc : Nat) (kq : Option Addr) (kn kc : Nat) (c : ContD) (w : World) (h : ContOn w k rq rn rc kq kn kc c) :
 Calls Tryz.prog 89 #[.agg #[.int .i64 k, .slice rq rn rc, .slice kq kn kc]] w (ChkPost c w) := by
 obtain ⟨ck, rows, kids⟩ := c; obtain ⟨rfl, hr, hd⟩ := h
 by_cases h0 : k = 0
 · subst h0; exact chk0 rq rn rc kq kn kc rows kids w hr hd
 · by_cases h1 : k = 1
   · subst h1; exact chk1 rq rn rc kq kn kc rows kids w hr hd
   · by_cases h2 : k = 2
     · subst h2; exact chk2 rq rn rc kq kn kc rows kids w hr hd
     · exact chkN k rq rn rc kq kn kc rows kids w hr hd h0 h1 h2
end Go.Proofs.YtocekhckmpkbmaaGreat
namespace Go.Proofs.YtocekhckmpkbmaaGreat
open Go.RowKit Go.ChangeMaps
/-- what content gives: the content, its error, and what is ahead then -/
def partP (s : St) : ContD × Int × St := if s.num 1 = 0 then freeP (s.next 1) else if s.num 1 = 1 then leafP (s.next 1) else innerP (s.next 1)
def ContentIs (s : St) (c : ContD) (er : Int) (s' : St) : Prop :=
 if (s.next 1).e ≠ 0 then c = zeroC ∧ er = (s.next 1).e ∧ s' = s.next 1
 else if 2 < s.num 1 then c = zeroC ∧ er = 161 ∧ s' = s.next 1
 else if (partP s).2.1 ≠ 0 then c = zeroC ∧ er = (partP s).2.1 ∧ s' = (partP s).2.2
 else (GoodC (partP s).1 ∧ c = (partP s).1 ∧ er = 0 ∧ s' = (partP s).2.2) ∨ (¬ GoodC (partP s).1 ∧ c = zeroC ∧ er = 161 ∧ s' = (partP s).2.2)
end Go.Proofs.YtocekhckmpkbmaaGreat
namespace Go.Proofs.YtocekhckmpkbmaaGreat
open Go.RowKit
set_option maxRecDepth 100000 in
theorem slice_bytes (p : Option Addr) (n c k : Nat) (hk : k ≤ n) (hn : n ≤ c) (u : World) :
 (Instr.slice 36 (.slice p n c) none (some (.int .i64 (k : Int))) none).run Tryz.prog u = .ok (.slice p k c) u := by
 have h := run_slice_h (P := Tryz.prog) u 36 p n c (by kernel_rfl) .i64 (k : Int) (by omega) (by omega); rw [h, show (sizeOf (Tryz.prog.elem 36)).run Tryz.prog u = .ok 1 u by kernel_rfl]; simp only [Result.andThen, sliced, Int.toNat_natCast, Nat.zero_mul, Nat.sub_zero]; congr 2
 split
 · rfl
 · cases p <;> simp [add_zero]
theorem RdrS.short {w : World} {g : Nat} {d : Option Nat} {s : St} (r : RdrS w g d s) : s.l.length ≤ 140737488355328 := by
 obtain ⟨p, n, c, _, hv, _, hn, _⟩ := r; rw [← holds_len hv]; exact hn
def TakeC (b : List UInt8) (c : ContD) (n er : Int) : Prop :=
 ∃ c1 er1 s', ContentIs ⟨b.take 82, 0⟩ c1 er1 s' ∧ ((er1 ≠ 0 ∧ c = zeroC ∧ n = 0 ∧ er = er1) ∨ (er1 = 0 ∧ c = c1 ∧ n = ((b.take 82).length : Int) - s'.l.length ∧ er = 0))
def TakeR (b : List UInt8) (c : RowD) (n er : Int) : Prop :=
 ∃ c1 er1 s', rowP ⟨b.take 20, 0⟩ = (c1, er1, s') ∧ ((er1 ≠ 0 ∧ c = zeroR ∧ n = 0 ∧ er = er1) ∨ (er1 = 0 ∧ c = c1 ∧ n = ((b.take 20).length : Int) - s'.l.length ∧ er = 0))
def TkR (b : List UInt8) (w : World) (e : Ending) (w' : World) : Prop :=
 ∃ r n er, TakeR b r n er ∧ e = .returned (.tuple #[rowV r, .int .i64 n, .int .i64 er]) ∧ Below w.heap.size w w'
theorem below_refl_of (w : World) : Below w.heap.size w w := Below.refl _ _
set_option maxRecDepth 100000 in
set_option maxHeartbeats 4000000 in
theorem takeR_any (p : Option Addr) (n c : Nat) (b : List UInt8) (w : World) (hv : Lib.HoldsBytes w (.slice p n c) b) (hnc : n ≤ c) (hc : n ≤ 140737488355328) :
 Calls Tryz.prog 150 #[.slice p n c, .int .i64 20, .func (.func 151) #[] #[]] w (TkR b w) := by
 obtain ⟨W, hW⟩ : ∃ W, (w.alloc (.cells #[.int .i64 0, .int .u16 0, .int .i64 0, .string ⟨#[]⟩] 68)).alloc (.cells #[.int .i64 0, .int .u16 0, .int .i64 0, .string ⟨#[]⟩] 68) = W := ⟨_, rfl⟩; have hbx := lh (two_boxes hW)
 have hres : Hid (RowV 68 W w.heap.size [.int .i64 0, .int .u16 0, .int .i64 0, .string ⟨#[]⟩]) := by have h0 := (RowV.made (T := 68) w [.int .i64 0, .int .u16 0, .int .i64 0, .string ⟨#[]⟩]).below ((Below.refl _ _).alloc (Nat.le_refl _) (.cells #[.int .i64 0, .int .u16 0, .int .i64 0, .string ⟨#[]⟩] 68)); show RowV _ _ _ _; rw [← hW]; exact h0
 have hz1 := sizeRow 0 0 0 ⟨#[]⟩; have z1 : ∀ v ∈ ([.int .i64 0, .int .u16 0, .int .i64 0, .string ⟨#[]⟩] : List Value), v.oneCell' = true := RowD.one zeroR; have hlen := holds_len hv; obtain ⟨m, hm⟩ : ∃ m : Nat, m = min n 20 := ⟨_, rfl⟩; have hmn : min (n : Int) 20 = (m : Int) := by omega
 have hml : m ≤ n := by omega
 have hsl := fun u => slice_bytes p n c m hml hnc u
 have hvm : Hid (Lib.HoldsBytes W (.slice p m c) (b.take m)) := by have h := holds_take hv (below_refl_of w) hml; exact holds_below h hbx.out.1 (Nat.le_refl _)
 have hbm : Hid (b.take m = b.take 20) := by
  show b.take m = _; rw [hm, hlen]; rcases Nat.le_total b.length 20 with h | h
  · rw [Nat.min_eq_left h, List.take_length, List.take_of_length_le h]
  · rw [Nat.min_eq_right h]
 have hlenb : Hid (((b.take 20).length : Int) = m) := by show _ = _; rw [← hbm.out, List.length_take]; omega
 have hm1 : m ≤ 20 := by omega
 clear hv hlen hm
 go_enter Tryz.func150, Tryz.ntmps150
 go_wp2_with fail
 clear hW; refine (read_any p m c (b.take m) W hvm.out (by omega)).mono ?_; rintro e w1 ⟨g, d, rfl, hr1, hg1, hd1, hb1⟩; rw [hbm.out] at hr1; have hr1' : Hid (RdrS w1 g d ⟨b.take 20, 0⟩) := hr1; have hg1' : W.heap.size ≤ g := hg1; have hd1' := lh hd1; have hb1' := lh hb1; clear hr1 hg1 hd1 hb1 hsl hmn; obtain ⟨W2, hW2⟩ : ∃ W2, w1.alloc (.cells #[.pointer (some ⟨g, 0, none⟩)] 190) = W2 := ⟨_, rfl⟩; have hb2 := lh (one_box hW2); have r2 := lh (hr1'.out.below hb2.out.1); have hB2 := lh (hb1'.out.trans (hb2.out.1.mono hb1'.out.size)); have hs1 := sizeRd (.pointer (some ⟨g, 0, none⟩)); have c0 := hb2.out.2.1.cell 0 rfl; have hgw1 : g < w1.heap.size := hr1'.out.lt; have hlen1 : Hid ((⟨b.take 20, 0⟩ : St).l.length = m) := by show (b.take 20).length = m; have := hlenb.out; omega
 go_wp2_with fail
 clear hW2; refine (rdLeft g d ⟨b.take 20, 0⟩ W2 r2.out).mono ?_; rintro e w2' ⟨rfl, rfl⟩; rw [hlen1.out]; clear c0
 go_wp2_with (first
  | (with_reducible refine wpList_load_at rfl 190 (.tmp 10) rfl Tryz.underlying190 rfl hs1 rfl hb2.out.2.1.all ?_))
 refine (row_rd g d ⟨b.take 20, 0⟩ W2 r2.out).mono ?_; have hlowW : w.heap.size + 2 ≤ W2.heap.size := by have := hbx.out.2.2.2; have := hB2.out.size; omega
 rintro e w3 ⟨⟨⟨rt, ri⟩, rv, rs⟩, e3, s3, hp3, rfl, hg3, hr3⟩; unfold rowV; have hp3' := lh hp3; have s3' := lh ((hres.out.below hB2.out).gr hg3 (by have := hres.out.lt; omega)); have z3' := lh ((hbx.out.2.2.1.below hB2.out (Nat.le_refl _)).gr hg3 (by have := hbx.out.2.2.2; omega)); have x3' := lh (hb2.out.2.1.gr hg3 (by omega)); have hB3 := lh (Gr.below hg3 (hbx.out.1.trans (hB2.out.mono hbx.out.1.size)) (by have := hbx.out.1.size; omega)); have r3 := lh hr3; have hs3l := hr3.short; have hlow3 : w.heap.size + 2 ≤ w3.heap.size := by have := hg3.size; omega
 clear hp3 hg3 hr3; obtain ⟨W4, hW4⟩ : ∃ W4, w3.alloc (.cells #[.int .i64 rt, .int .u16 ri, .int .i64 rv, .string rs] 68) = W4 := ⟨_, rfl⟩; have hb4 := lh (one_box hW4); have hs4 := sizeRow rt ri rv rs; have s4 := lh (s3'.out.below hb4.out.1); have z4 := lh (z3'.out.below hb4.out.1 (Nat.le_refl _)); have x4 := lh (x3'.out.below hb4.out.1 (Nat.le_refl _)); have r4 := lh (r3.out.below hb4.out.1); have hB4 := lh (hB3.out.trans (hb4.out.1.mono hB3.out.size))
 by_cases hz8 : e3 = 0
 · subst hz8
   go_wp2; clear hW4; have hB9 := lh (hB4.out.trans ((below_drew W4).mono hB4.out.size)); obtain ⟨S3, hS3⟩ : ∃ S : Nat, s3.l.length = S := ⟨_, rfl⟩; rw [hS3] at hs3l; have hwr : IntKind.i64.wrap ((m : Int) - (S3 : Int)) = (m : Int) - S3 := IntWalk.i64_in _ (by omega); have hS0 : Hid (Boxed W4.drew w3.heap.size [.int .i64 rt, .int .u16 ri, .int .i64 rv, .string rs] ∧ Boxed W4.drew w1.heap.size [.pointer (some ⟨g, 0, none⟩)] ∧ RdrS W4.drew g d s3) := ⟨hb4.out.2.1.below (below_drew W4) (Nat.le_refl _), x4.out.below (below_drew W4) (Nat.le_refl _), r4.out.below (below_drew W4)⟩; refine wp_region_held (S := fun u => Boxed u w3.heap.size [.int .i64 rt, .int .u16 ri, .int .i64 rv, .string rs] ∧ Boxed u w1.heap.size [.pointer (some ⟨g, 0, none⟩)] ∧ RdrS u g d s3) (by kernel_rfl) ?_; change wpAnyH _ _ _ _ _ _ _ _ (World.drew W4); refine held_tk (i := 0) (dst := some 35) rfl rfl (y_load_agg 68 (.tmp 12) rfl rfl rfl (fun W hW => run_loadVar_at Tryz.underlying68 rfl hs4 _ hW.1.all)) hS0.out ?_
   go_frame; refine tg 1 36 (.int .i64 (m : Int)) hS0.out ?_; go_frame; refine tg 2 37 (.pointer (some ⟨w1.heap.size, 0, none⟩)) hS0.out ?_; go_frame; refine held_tk (i := 3) (dst := some 38) (v := .pointer (some ⟨g, 0, none⟩)) rfl rfl (.inl ⟨rfl, fun W hW => by have c0 := hW.2.1.cell 0 rfl; go_simp⟩) hS0.out ?_; go_frame; refine held_call (i := 4) (dst := some 39) rfl rfl (by kernel_rfl) rfl (by go_simp) (rdLeft g d s3 _ hS0.out.2.2) ?_; rintro e u ⟨rfl, rfl⟩; rw [hS3]; refine ⟨_, rfl, hS0.out, ?_⟩; go_frame; refine tg 5 40 (.int .i64 ((m : Int) - S3)) hS0.out ?_; go_frame; obtain ⟨w9, hst, h9, hg9⟩ := run_storeVar_at (P := Tryz.prog) (ty := 68) (o := 0) (vs := [.int .i64 rt, .int .u16 ri, .int .i64 rv, .string rs]) (s4.out.below (below_drew W4)) hs4 (Nat.le_refl _) (RowD.one ⟨⟨rt, ri⟩, rv, rs⟩); have hlt4 : w.heap.size < w1.heap.size := by have := hb1'.out.size; have := hbx.out.2.2.2; omega
   have hS9 : Hid (Boxed w9 w3.heap.size [.int .i64 rt, .int .u16 ri, .int .i64 rv, .string rs] ∧ Boxed w9 w1.heap.size [.pointer (some ⟨g, 0, none⟩)] ∧ RdrS w9 g d s3) := ⟨hS0.out.1.gr hg9 (by omega), hS0.out.2.1.gr hg9 (by omega), hS0.out.2.2.keep hg9 (by have := hbx.out.2.2.2; omega) (fun e => by have := hd1'.out _ e; have := hbx.out.2.2.2; omega)⟩; refine held_skip (i := 6) (dst := none) (w' := w9) rfl rfl (by kernel_rfl) rfl (run_store_op rfl rfl rfl hst) hS9.out ?_; go_frame; refine tg 7 7 (.int .i64 ((m : Int) - S3)) hS9.out ?_; go_frame; refine tg 8 8 (.int .i64 0) hS9.out ?_; go_frame; refine wpAnyH_done (by kernel_rfl) ?_ _; have q9 : Hid (RowV 68 w9 w.heap.size [.int .i64 rt, .int .u16 ri, .int .i64 rv, .string rs]) := h9; have hg9' := lh hg9; have hS3' := lh hS3; clear hst h9 hg9 hwr hS3; have s9 : RowV 68 w9 w.heap.size [.int .i64 rt, .int .u16 ri, .int .i64 rv, .string rs] := q9.out
   have m0 := s9.cell 0; have m1 := s9.cell 1; have m2 := s9.cell 2; have m3 := s9.cell 3; simp only [List.getElem?_cons_zero, List.getElem?_cons_succ] at m0 m1 m2 m3; go_wp2; refine bodyPost_ret (v := .tuple #[rowV ⟨⟨rt, ri⟩, rv, rs⟩, .int .i64 ((m : Int) - S3), .int .i64 0]) (by simp [results, Tryz.results150, go_sem, m0, m1, m2, m3, rowV]) rfl ?_; rw [← hS3'.out]; exact ⟨_, _, 0, ⟨_, 0, s3, hp3'.out, .inr ⟨rfl, rfl, by rw [hlenb.out], rfl⟩⟩, rfl, Gr.below hg9'.out hB9.out (Nat.le_refl _)⟩
 · have hB9 := hB4
   go_wp2_with (first
    | (with_reducible refine wpList_load_at rfl 68 (.tmp 9) rfl Tryz.underlying68 rfl hz1 rfl z4.out.all ?_)
    | ((with_reducible refine wpList_store_at rfl 68 (.tmp 6) (.tmp 33) rfl (o := 0) (vs := [.int .i64 0, .int .u16 0, .int .i64 0, .string ⟨#[]⟩]) rfl rfl s4.out hz1 (Nat.le_refl _) (z1) ?_)
       intro w9 h9 hg9; have q9 := lh h9; have hg9' := lh hg9
       clear h9 hg9))
   clear hW4; have s9 : RowV 68 w9 w.heap.size [.int .i64 0, .int .u16 0, .int .i64 0, .string ⟨#[]⟩] := q9.out; have m0 := s9.cell 0; have m1 := s9.cell 1; have m2 := s9.cell 2; have m3 := s9.cell 3; simp only [List.getElem?_cons_zero, List.getElem?_cons_succ] at m0 m1 m2 m3; refine bodyPost_ret (v := .tuple #[rowV zeroR, .int .i64 0, .int .i64 e3]) (by simp [results, Tryz.results150, go_sem, m0, m1, m2, m3, rowV, zeroR]) rfl ?_; exact ⟨zeroR, 0, e3, ⟨_, e3, s3, hp3'.out, .inl ⟨hz8, rfl, rfl, rfl⟩⟩, rfl, Gr.below hg9'.out hB9.out (Nat.le_refl _)⟩
set_option maxRecDepth 100000 in
set_option maxHeartbeats 2000000 in
theorem takeRow_any (p : Option Addr) (n c : Nat) (b : List UInt8) (w : World) (hv : Lib.HoldsBytes w (.slice p n c) b) (hnc : n ≤ c) (hc : n ≤ 140737488355328) :
 Calls Tryz.prog 139 #[.slice p n c] w (TkR b w) := by
 obtain ⟨W, hW⟩ : ∃ W, w.alloc (.cells #[.int .i64 0, .int .u16 0, .int .i64 0, .string ⟨#[]⟩] 68) = W := ⟨_, rfl⟩; have hbx := lh (one_box hW)
 have hres : Hid (RowV 68 W w.heap.size [.int .i64 0, .int .u16 0, .int .i64 0, .string ⟨#[]⟩]) := by have h0 := RowV.made (T := 68) w [.int .i64 0, .int .u16 0, .int .i64 0, .string ⟨#[]⟩]; show RowV _ _ _ _; rw [← hW]; exact h0
 have htk := lh (takeR_any p n c b W (holds_below hv hbx.out.1 (Nat.le_refl _)) hnc hc); clear hv
 go_enter Tryz.func139, Tryz.ntmps139
 go_wp2_with fail
 clear hW; refine htk.out.mono ?_; clear htk; rintro e w1 ⟨r, nn, er, ht, rfl, hb1⟩; unfold rowV; obtain ⟨⟨rt, ri⟩, rv, rs⟩ := r; have ht' := lh ht; have hb1' := lh (hbx.out.1.trans (hb1.mono hbx.out.1.size)); have s1 := lh (hres.out.below hb1); have hs2 := sizeRow rt ri rv rs; have z1 : ∀ v ∈ ([.int .i64 rt, .int .u16 ri, .int .i64 rv, .string rs] : List Value), v.oneCell' = true := RowD.one ⟨⟨rt, ri⟩, rv, rs⟩; clear ht hb1
 go_wp2_with (first
  | ((with_reducible refine wpList_store_at rfl 68 (.tmp 2) (.tmp 7) rfl (o := 0) (vs := [.int .i64 rt, .int .u16 ri, .int .i64 rv, .string rs]) rfl rfl s1.out hs2 (Nat.le_refl _) z1 ?_)
     intro w9 h9 hg9; have q9 := lh h9; have hg9' := lh hg9
     clear h9 hg9))
 have s9 : RowV 68 w9 w.heap.size [.int .i64 rt, .int .u16 ri, .int .i64 rv, .string rs] := q9.out; have m0 := s9.cell 0; have m1 := s9.cell 1; have m2 := s9.cell 2; have m3 := s9.cell 3; simp only [List.getElem?_cons_zero, List.getElem?_cons_succ] at m0 m1 m2 m3; refine bodyPost_ret (v := .tuple #[rowV ⟨⟨rt, ri⟩, rv, rs⟩, .int .i64 nn, .int .i64 er]) (by simp [results, Tryz.results139, go_sem, m0, m1, m2, m3, rowV]) rfl ?_; exact ⟨_, nn, er, ht'.out, rfl, Gr.below hg9'.out hb1'.out (Nat.le_refl _)⟩
end Go.Proofs.YtocekhckmpkbmaaGreat
