/- Check of codec. -/
import Derived.Test.YtaiepdhmlmnggaaKKid
namespace Go.Proofs.Ytaiepdhmlmnggaa
open Go.RowKit

structure GoodR (L : List RowD) : Prop where
  len : L.length ≤ 4
  fits : ∀ (i : Nat) (r : RowD), L[i]? = some r → fitsR (L.take i) r = true
structure GoodK (L : List KidD) : Prop where
  few : 2 ≤ L.length
  len : L.length ≤ 4
  fits : ∀ (i : Nat) (k : KidD), L[i]? = some k → fitsK (L.take i) k = true
def GoodC (c : ContD) : Prop := (c.kind = 0 ∧ c.rows = [] ∧ c.kids = []) ∨ (c.kind = 1 ∧ GoodR c.rows ∧ c.kids = []) ∨ (c.kind = 2 ∧ GoodK c.kids ∧ c.rows = [])
def ChkPost (c : ContD) (w : World) (e : Ending) (w' : World) : Prop := ∃ x : Int, e = .returned (.int .i64 x) ∧ ((x = 0 ∧ GoodC c) ∨ (x = 160 ∧ ¬ GoodC c)) ∧ Below w.heap.size w w'
theorem nil_of {α : Type} {L : List α} {n : Nat} (h : L.length = n) (h0 : ¬ 0 < n) : L = [] := List.eq_nil_of_length_eq_zero (by omega)
theorem not_nil {α : Type} {L : List α} {n : Nat} (h : L.length = n) (h0 : 0 < n) : L ≠ [] := fun e => by rw [e] at h; simp at h; omega
theorem good0 {k : Int} {rows : List RowD} {kids : List KidD} (hk : k = 0) : GoodC ⟨k, rows, kids⟩ ↔ rows = [] ∧ kids = [] := by
  subst hk
  exact ⟨fun h => by (rcases h with ⟨_, h⟩ | ⟨h, _⟩ | ⟨h, _⟩) <;> first | exact h | (simp at h), fun h => .inl ⟨rfl, h⟩⟩
theorem good1 {k : Int} {rows : List RowD} {kids : List KidD} (hk : k = 1) : GoodC ⟨k, rows, kids⟩ ↔ GoodR rows ∧ kids = [] := by
  subst hk
  exact ⟨fun h => by (rcases h with ⟨h, _⟩ | ⟨_, h⟩ | ⟨h, _⟩) <;> first | exact h | (simp at h), fun h => .inr (.inl ⟨rfl, h⟩)⟩
theorem good2 {k : Int} {rows : List RowD} {kids : List KidD} (hk : k = 2) : GoodC ⟨k, rows, kids⟩ ↔ GoodK kids ∧ rows = [] := by
  subst hk
  exact ⟨fun h => by (rcases h with ⟨h, _⟩ | ⟨h, _⟩ | ⟨_, h⟩) <;> first | exact h | (simp at h), fun h => .inr (.inr ⟨rfl, h⟩)⟩
theorem goodN {k : Int} {rows : List RowD} {kids : List KidD} (h0 : k ≠ 0) (h1 : k ≠ 1) (h2 : k ≠ 2) : ¬ GoodC ⟨k, rows, kids⟩ := fun h => by
  rcases h with ⟨h, _⟩ | ⟨h, _⟩ | ⟨h, _⟩
  · exact h0 h
  · exact h1 h
  · exact h2 h

set_option maxRecDepth 100000 in
set_option maxHeartbeats 4000000 in
theorem chkN (k : Int) (rq : Option Addr) (rn rc : Nat) (kq : Option Addr) (kn kc : Nat) (rows : List RowD) (kids : List KidD) (w : World) (hr : RowsOn w rq rn rc rows) (hd : KidsOn w kq kn kc kids) (h0 : k ≠ 0) (h1 : k ≠ 1) (h2 : k ≠ 2) :
    Calls Try.prog 33 #[.agg #[.int .i64 k, .slice rq rn rc, .slice kq kn kc]] w (ChkPost ⟨k, rows, kids⟩ w) := by
  obtain ⟨W, hW⟩ : ∃ W, w.alloc (.cells #[.int .i64 k, .slice rq rn rc, .slice kq kn kc] 25) = W := ⟨_, rfl⟩
  have hbx := Lib.hid (one_box (xs := [.int .i64 k, .slice rq rn rc, .slice kq kn kc]) hW)
  have c0 := hbx.out.2.1.cell 0 rfl
  have c1 := hbx.out.2.1.cell 1 rfl
  have c2 := hbx.out.2.1.cell 2 rfl
  have hrr := Lib.hid (hr.below hbx.out.1 (Nat.le_refl _))
  have hkk := Lib.hid (hd.below hbx.out.1 (Nat.le_refl _))
  have hrl := Lib.hid hr.len
  have hkl := Lib.hid hd.len
  have hrm := Nat.le_trans hr.le hr.cap
  have hkm := Nat.le_trans hd.le hd.cap
  unfold maxLen at hrm hkm
  clear hr hd
  clear hrr hkk
  go_enter Try.func33, Try.ntmps33
  go_wp2
  clear hW
  refine wp_scope_straight ?_
  go_wp2
  refine wp_label ?_
  go_wp2
  try rw [Exit.noGoto_ret]
  go_ret
  exact ⟨160, rfl, .inr ⟨rfl, goodN h0 h1 h2⟩, hbx.out.1⟩

set_option maxRecDepth 100000 in
set_option maxHeartbeats 4000000 in
theorem chk0 (rq : Option Addr) (rn rc : Nat) (kq : Option Addr) (kn kc : Nat) (rows : List RowD) (kids : List KidD) (w : World) (hr : RowsOn w rq rn rc rows) (hd : KidsOn w kq kn kc kids) :
    Calls Try.prog 33 #[.agg #[.int .i64 0, .slice rq rn rc, .slice kq kn kc]] w (ChkPost ⟨0, rows, kids⟩ w) := by
  obtain ⟨W, hW⟩ : ∃ W, w.alloc (.cells #[.int .i64 0, .slice rq rn rc, .slice kq kn kc] 25) = W := ⟨_, rfl⟩
  have hbx := Lib.hid (one_box (xs := [.int .i64 0, .slice rq rn rc, .slice kq kn kc]) hW)
  have c0 := hbx.out.2.1.cell 0 rfl
  have c1 := hbx.out.2.1.cell 1 rfl
  have c2 := hbx.out.2.1.cell 2 rfl
  have hrr := Lib.hid (hr.below hbx.out.1 (Nat.le_refl _))
  have hkk := Lib.hid (hd.below hbx.out.1 (Nat.le_refl _))
  have hrl := Lib.hid hr.len
  have hkl := Lib.hid hd.len
  have hrm := Nat.le_trans hr.le hr.cap
  have hkm := Nat.le_trans hd.le hd.cap
  unfold maxLen at hrm hkm
  clear hr hd
  by_cases h1 : 0 < rn
  · go_enter Try.func33, Try.ntmps33
    go_wp2
    clear hW
    refine wp_scope_straight ?_
    go_wp2
    refine wp_label ?_
    go_wp2
    try rw [Exit.noGoto_ret]
    go_ret
    exact ⟨160, rfl, .inr ⟨rfl, fun h => not_nil hrl.out h1 ((good0 rfl).1 h).1⟩, hbx.out.1⟩
  · by_cases h2 : 0 < kn
    · go_enter Try.func33, Try.ntmps33
      go_wp2
      clear hW
      refine wp_scope_straight ?_
      go_wp2
      refine wp_label ?_
      go_wp2
      try rw [Exit.noGoto_ret]
      go_ret
      exact ⟨160, rfl, .inr ⟨rfl, fun h => not_nil hkl.out h2 ((good0 rfl).1 h).2⟩, hbx.out.1⟩
    · go_enter Try.func33, Try.ntmps33
      go_wp2
      clear hW
      refine wp_scope_straight ?_
      go_wp2
      refine wp_label ?_
      go_wp2
      try rw [Exit.noGoto_ret]
      go_ret
      exact ⟨0, rfl, .inl ⟨rfl, (good0 rfl).2 ⟨nil_of hrl.out h1, nil_of hkl.out h2⟩⟩, hbx.out.1⟩

set_option maxRecDepth 100000 in
set_option maxHeartbeats 4000000 in
theorem chk1 (rq : Option Addr) (rn rc : Nat) (kq : Option Addr) (kn kc : Nat) (rows : List RowD) (kids : List KidD) (w : World) (hr : RowsOn w rq rn rc rows) (hd : KidsOn w kq kn kc kids) :
    Calls Try.prog 33 #[.agg #[.int .i64 1, .slice rq rn rc, .slice kq kn kc]] w (ChkPost ⟨1, rows, kids⟩ w) := by
  obtain ⟨W, hW⟩ : ∃ W, w.alloc (.cells #[.int .i64 1, .slice rq rn rc, .slice kq kn kc] 25) = W := ⟨_, rfl⟩
  have hbx := Lib.hid (one_box (xs := [.int .i64 1, .slice rq rn rc, .slice kq kn kc]) hW)
  have c0 := hbx.out.2.1.cell 0 rfl
  have c1 := hbx.out.2.1.cell 1 rfl
  have c2 := hbx.out.2.1.cell 2 rfl
  have hrr := Lib.hid (hr.below hbx.out.1 (Nat.le_refl _))
  have hkk := Lib.hid (hd.below hbx.out.1 (Nat.le_refl _))
  have hrl := Lib.hid hr.len
  have hkl := Lib.hid hd.len
  have hrm := Nat.le_trans hr.le hr.cap
  have hkm := Nat.le_trans hd.le hd.cap
  unfold maxLen at hrm hkm
  clear hr hd
  by_cases h1 : 4 < rn
  · go_enter Try.func33, Try.ntmps33
    go_wp2
    clear hW
    refine wp_scope_straight ?_
    go_wp2
    refine wp_label ?_
    go_wp2
    try rw [Exit.noGoto_ret]
    go_ret
    exact ⟨160, rfl, .inr ⟨rfl, fun h => by have := ((good1 rfl).1 h).1.len; rw [hrl.out] at this; omega⟩, hbx.out.1⟩
  · by_cases h2 : 0 < kn
    · go_enter Try.func33, Try.ntmps33
      go_wp2
      clear hW
      refine wp_scope_straight ?_
      go_wp2
      refine wp_label ?_
      go_wp2
      try rw [Exit.noGoto_ret]
      go_ret
      exact ⟨160, rfl, .inr ⟨rfl, fun h => not_nil hkl.out h2 ((good1 rfl).1 h).2⟩, hbx.out.1⟩
    · go_enter Try.func33, Try.ntmps33
      go_wp2
      clear hW
      refine wp_scope_straight ?_
      go_wp2
      refine wp_label ?_
      go_wp2
      go_loopw [36] (fun v36 wr => ∃ k : Nat, k ≤ rn ∧ v36 = .int .i64 k ∧ Hid (Below W.heap.size W wr) ∧ Hid (∀ (i : Nat) (r : RowD), i < k → rows[i]? = some r → fitsR (rows.take i) r = true)) (fun v36 _ => rn - (RowKit.intOf v36).toNat)
      case atStart => exact ⟨0, Nat.zero_le _, rfl, (show Below _ _ _ from Below.refl _ _), fun i r hi => by omega⟩
      case round =>
        obtain ⟨k, hk, rfl, hrl2, hp⟩ := hrel
        by_cases hlt : k < rn
        · obtain ⟨A, ⟨⟨t, id⟩, v, s⟩, hqA, hx, hok, hcA⟩ := (hrr.out.below hrl2.out (Nat.le_refl _)).at hlt
          subst hqA
          have hcell : Hid (∀ j x, ([.int .i64 t, .int .u16 id, .int .i64 v, .string s] : List Value)[j]? = some x → wr.cell? ((A.add (k * 4)).add j) = some x) := hcA
          have hs2 := sizeRow t id v s
          have hx' := Lib.hid hx
          have hsn := Lib.hid hok.note
          have i0 : (0 : Int) ≤ k := by omega
          have i1 : (k : Int) < rn := by omega
          have hsl := fun u => slice_rows (some A) rn rc k (by omega) hrr.out.le u
          obtain ⟨WA, hWA⟩ : ∃ W', wr.alloc (.cells #[.int .i64 t, .int .u16 id, .int .i64 v, .string s] 30) = W' := ⟨_, rfl⟩
          have hbA := Lib.hid (one_box (xs := [.int .i64 t, .int .u16 id, .int .i64 v, .string s]) hWA)
          have hb3 := Lib.hid hbA.out.1
          have hwA := Lib.hid (hrl2.out.trans (hb3.out.mono hrl2.out.size))
          have hcl := Lib.hid (fun u (hu : Below WA.heap.size WA u) => rowFits_any (some A) k rc (rows.take k) t id v s u ((hrr.out.front (by omega)).below (hrl2.out.trans (hb3.out.mono hrl2.out.size) |>.trans (hu.mono (hrl2.out.trans (hb3.out.mono hrl2.out.size)).size)) (Nat.le_refl _)) hsn.out)
          obtain ⟨F, hF⟩ : ∃ F, fitsR (rows.take k) ⟨⟨t, id⟩, v, s⟩ = F := ⟨_, rfl⟩
          rw [hF] at hcl
          have hf' := Lib.hid hF
          have q1 := (hbx.out.2.1.below hwA.out (Nat.le_refl _)).cell 1 rfl
          have p0 := hbA.out.2.1.cell 0 rfl
          have p1 := hbA.out.2.1.cell 1 rfl
          have p2 := hbA.out.2.1.cell 2 rfl
          have p3 := hbA.out.2.1.cell 3 rfl
          clear hx hok hcA hF
          go_wp2_with (first
            | (with_reducible refine wpList_load_at rfl 30 (.tmp 39) rfl Try.underlying30 rfl hs2 rfl hcell.out ?_))
          clear hWA
          go_region_held3 (fun u => u.cell? ⟨w.heap.size, 1, none⟩ = some (.slice (some A) rn rc) ∧ u.cell? ⟨wr.heap.size, 0, none⟩ = some (.int .i64 t) ∧ u.cell? ⟨wr.heap.size, 1, none⟩ = some (.int .u16 id) ∧ u.cell? ⟨wr.heap.size, 2, none⟩ = some (.int .i64 v) ∧ u.cell? ⟨wr.heap.size, 3, none⟩ = some (.string s) ∧ Below WA.heap.size WA u)
            (first | exact ⟨q1, p0, p1, p2, p3, below_drew _⟩ | (go_split_ands; exact ⟨cell_keeps hb6.out (Nat.le_refl _) (by assumption), cell_keeps hb6.out (Nat.le_refl _) (by assumption), cell_keeps hb6.out (Nat.le_refl _) (by assumption), cell_keeps hb6.out (Nat.le_refl _) (by assumption), cell_keeps hb6.out (Nat.le_refl _) (by assumption), below_step hb6.out (by assumption)⟩))
            (first
              | (go_at_call 63; refine (hcl.out _ (by go_split_ands; first | assumption | exact below_drew _)).mono ?_; rintro e x5 ⟨rfl, hb6'⟩; have hb6 := Lib.hid hb6'; clear hb6'))
          have hv4 : Hid (Below WA.heap.size WA x5) := by
            show Below _ _ _
            go_split_ands
            assumption
          have hnew := Lib.hid (hwA.out.trans (hv4.out.mono hwA.out.size))
          clear q1 p0 p1 p2 p3 hcl hsl
          cases F with
          | true =>
            go_wp2
            go_roundw
            case rel =>
              refine ⟨k + 1, by omega, by go_num, hnew, fun i r hi hr => ?_⟩
              rcases Nat.lt_or_ge i k with h | h
              · exact hp.out i r h hr
              · obtain rfl : i = k := by omega
                rw [hx'.out] at hr
                cases hr
                exact hf'.out
            case measure => simp [RowKit.intOf]; omega
          | false =>
            go_wp2
            try rw [Exit.noGoto_ret]
            go_ret
            exact ⟨160, rfl, .inr ⟨rfl, fun h => by have := ((good1 rfl).1 h).1.fits k _ hx'.out; rw [hf'.out] at this; cases this⟩, hbx.out.1.trans (hnew.out.mono hbx.out.1.size)⟩
        · obtain rfl : rn = k := by omega
          go_wp2
          try rw [Exit.noGoto_ret]
          go_ret
          exact ⟨0, rfl, .inl ⟨rfl, (good1 rfl).2 ⟨⟨by rw [hrl.out]; omega, fun i r hi => hp.out i r (by have := (List.getElem?_eq_some_iff.1 hi).1; rw [hrl.out] at this; exact this) hi⟩, nil_of hkl.out h2⟩⟩, hbx.out.1.trans (hrl2.out.mono hbx.out.1.size)⟩

set_option maxRecDepth 100000 in
set_option maxHeartbeats 4000000 in
theorem chk2 (rq : Option Addr) (rn rc : Nat) (kq : Option Addr) (kn kc : Nat) (rows : List RowD) (kids : List KidD) (w : World) (hr : RowsOn w rq rn rc rows) (hd : KidsOn w kq kn kc kids) :
    Calls Try.prog 33 #[.agg #[.int .i64 2, .slice rq rn rc, .slice kq kn kc]] w (ChkPost ⟨2, rows, kids⟩ w) := by
  obtain ⟨W, hW⟩ : ∃ W, w.alloc (.cells #[.int .i64 2, .slice rq rn rc, .slice kq kn kc] 25) = W := ⟨_, rfl⟩
  have hbx := Lib.hid (one_box (xs := [.int .i64 2, .slice rq rn rc, .slice kq kn kc]) hW)
  have c0 := hbx.out.2.1.cell 0 rfl
  have c1 := hbx.out.2.1.cell 1 rfl
  have c2 := hbx.out.2.1.cell 2 rfl
  have hrr := Lib.hid (hr.below hbx.out.1 (Nat.le_refl _))
  have hkk := Lib.hid (hd.below hbx.out.1 (Nat.le_refl _))
  have hrl := Lib.hid hr.len
  have hkl := Lib.hid hd.len
  have hrm := Nat.le_trans hr.le hr.cap
  have hkm := Nat.le_trans hd.le hd.cap
  unfold maxLen at hrm hkm
  clear hr hd
  by_cases h1 : kn < 2
  · go_enter Try.func33, Try.ntmps33
    go_wp2
    clear hW
    refine wp_scope_straight ?_
    go_wp2
    refine wp_label ?_
    go_wp2
    try rw [Exit.noGoto_ret]
    go_ret
    exact ⟨160, rfl, .inr ⟨rfl, fun h => by have := ((good2 rfl).1 h).1.few; rw [hkl.out] at this; omega⟩, hbx.out.1⟩
  · by_cases h2 : 4 < kn
    · go_enter Try.func33, Try.ntmps33
      go_wp2
      clear hW
      refine wp_scope_straight ?_
      go_wp2
      refine wp_label ?_
      go_wp2
      try rw [Exit.noGoto_ret]
      go_ret
      exact ⟨160, rfl, .inr ⟨rfl, fun h => by have := ((good2 rfl).1 h).1.len; rw [hkl.out] at this; omega⟩, hbx.out.1⟩
    · by_cases h3 : 0 < rn
      · go_enter Try.func33, Try.ntmps33
        go_wp2
        clear hW
        refine wp_scope_straight ?_
        go_wp2
        refine wp_label ?_
        go_wp2
        try rw [Exit.noGoto_ret]
        go_ret
        exact ⟨160, rfl, .inr ⟨rfl, fun h => not_nil hrl.out h3 ((good2 rfl).1 h).2⟩, hbx.out.1⟩
      · go_enter Try.func33, Try.ntmps33
        go_wp2
        clear hW
        refine wp_scope_straight ?_
        go_wp2
        refine wp_label ?_
        go_wp2
        go_loopw [70] (fun v70 wr => ∃ k : Nat, k ≤ kn ∧ v70 = .int .i64 k ∧ Hid (Below W.heap.size W wr) ∧ Hid (∀ (i : Nat) (r : KidD), i < k → kids[i]? = some r → fitsK (kids.take i) r = true)) (fun v70 _ => kn - (RowKit.intOf v70).toNat)
        case atStart => exact ⟨0, Nat.zero_le _, rfl, (show Below _ _ _ from Below.refl _ _), fun i r hi => by omega⟩
        case round =>
          obtain ⟨k, hk, rfl, hrl2, hp⟩ := hrel
          by_cases hlt : k < kn
          · obtain ⟨A, ⟨⟨t, id⟩, v⟩, hqA, hx, hok, hcA⟩ := (hkk.out.below hrl2.out (Nat.le_refl _)).at hlt
            subst hqA
            have hcell : Hid (∀ j x, ([.int .i64 t, .int .u16 id, .int .i64 v] : List Value)[j]? = some x → wr.cell? ((A.add (k * 3)).add j) = some x) := hcA
            have hs2 := sizeKid t id v
            have hx' := Lib.hid hx
    
            have i0 : (0 : Int) ≤ k := by omega
            have i1 : (k : Int) < kn := by omega
            have hsl := fun u => slice_kids (some A) kn kc k (by omega) hkk.out.le u
            obtain ⟨WA, hWA⟩ : ∃ W', wr.alloc (.cells #[.int .i64 t, .int .u16 id, .int .i64 v] 64) = W' := ⟨_, rfl⟩
            have hbA := Lib.hid (one_box (xs := [.int .i64 t, .int .u16 id, .int .i64 v]) hWA)
            have hb3 := Lib.hid hbA.out.1
            have hwA := Lib.hid (hrl2.out.trans (hb3.out.mono hrl2.out.size))
            have hcl := Lib.hid (fun u (hu : Below WA.heap.size WA u) => kidFits_any (some A) k kc (kids.take k) t id v u ((hkk.out.front (by omega)).below (hrl2.out.trans (hb3.out.mono hrl2.out.size) |>.trans (hu.mono (hrl2.out.trans (hb3.out.mono hrl2.out.size)).size)) (Nat.le_refl _)))
            obtain ⟨F, hF⟩ : ∃ F, fitsK (kids.take k) ⟨⟨t, id⟩, v⟩ = F := ⟨_, rfl⟩
            rw [hF] at hcl
            have hf' := Lib.hid hF
            have q2 := (hbx.out.2.1.below hwA.out (Nat.le_refl _)).cell 2 rfl
            have p0 := hbA.out.2.1.cell 0 rfl
            have p1 := hbA.out.2.1.cell 1 rfl
            have p2 := hbA.out.2.1.cell 2 rfl
            clear hx hok hcA hF
            go_wp2_with (first
              | (with_reducible refine wpList_load_at rfl 64 (.tmp 73) rfl Try.underlying64 rfl hs2 rfl hcell.out ?_))
            clear hWA
            go_region_held3 (fun u => u.cell? ⟨w.heap.size, 2, none⟩ = some (.slice (some A) kn kc) ∧ u.cell? ⟨wr.heap.size, 0, none⟩ = some (.int .i64 t) ∧ u.cell? ⟨wr.heap.size, 1, none⟩ = some (.int .u16 id) ∧ u.cell? ⟨wr.heap.size, 2, none⟩ = some (.int .i64 v) ∧ Below WA.heap.size WA u)
              (first | exact ⟨q2, p0, p1, p2, below_drew _⟩ | (go_split_ands; exact ⟨cell_keeps hb6.out (Nat.le_refl _) (by assumption), cell_keeps hb6.out (Nat.le_refl _) (by assumption), cell_keeps hb6.out (Nat.le_refl _) (by assumption), cell_keeps hb6.out (Nat.le_refl _) (by assumption), below_step hb6.out (by assumption)⟩))
              (first
                | (go_at_call 64; refine (hcl.out _ (by go_split_ands; first | assumption | exact below_drew _)).mono ?_; rintro e x5 ⟨rfl, hb6'⟩; have hb6 := Lib.hid hb6'; clear hb6'))
            have hv4 : Hid (Below WA.heap.size WA x5) := by
              show Below _ _ _
              go_split_ands
              assumption
            have hnew := Lib.hid (hwA.out.trans (hv4.out.mono hwA.out.size))
            clear q2 p0 p1 p2 hcl hsl
            cases F with
            | true =>
              go_wp2
              go_roundw
              case rel =>
                refine ⟨k + 1, by omega, by go_num, hnew, fun i r hi hr => ?_⟩
                rcases Nat.lt_or_ge i k with h | h
                · exact hp.out i r h hr
                · obtain rfl : i = k := by omega
                  rw [hx'.out] at hr
                  cases hr
                  exact hf'.out
              case measure => simp [RowKit.intOf]; omega
            | false =>
              go_wp2
              try rw [Exit.noGoto_ret]
              go_ret
              exact ⟨160, rfl, .inr ⟨rfl, fun h => by have := ((good2 rfl).1 h).1.fits k _ hx'.out; rw [hf'.out] at this; cases this⟩, hbx.out.1.trans (hnew.out.mono hbx.out.1.size)⟩
          · obtain rfl : kn = k := by omega
            go_wp2
            try rw [Exit.noGoto_ret]
            go_ret
            exact ⟨0, rfl, .inl ⟨rfl, (good2 rfl).2 ⟨⟨by rw [hkl.out]; omega, by rw [hkl.out]; omega, fun i r hi => hp.out i r (by have := (List.getElem?_eq_some_iff.1 hi).1; rw [hkl.out] at this; exact this) hi⟩, nil_of hrl.out h3⟩⟩, hbx.out.1.trans (hrl2.out.mono hbx.out.1.size)⟩

theorem check_any (k : Int) (rq : Option Addr) (rn rc : Nat) (kq : Option Addr) (kn kc : Nat) (c : ContD) (w : World) (h : ContOn w k rq rn rc kq kn kc c) :
    Calls Try.prog 33 #[.agg #[.int .i64 k, .slice rq rn rc, .slice kq kn kc]] w (ChkPost c w) := by
  obtain ⟨ck, rows, kids⟩ := c
  obtain ⟨rfl, hr, hd⟩ := h
  by_cases h0 : k = 0
  · subst h0; exact chk0 rq rn rc kq kn kc rows kids w hr hd
  · by_cases h1 : k = 1
    · subst h1; exact chk1 rq rn rc kq kn kc rows kids w hr hd
    · by_cases h2 : k = 2
      · subst h2; exact chk2 rq rn rc kq kn kc rows kids w hr hd
      · exact chkN k rq rn rc kq kn kc rows kids w hr hd h0 h1 h2
end Go.Proofs.Ytaiepdhmlmnggaa
