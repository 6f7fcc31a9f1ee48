/- search of row: a binary search by sort.Search with a closure. -/
import Derived.Test.YtkdkncbccofpdaaYLst
namespace Go.Proofs.Ytkdkncbccofpdaa
open Go.RowKit

structure SrcRel (W wr : World) (n : Nat) (P : Nat → Bool) (i j : Nat) : Prop where
  below : Below W.heap.size W wr
  le : i ≤ j
  top : j ≤ n
  lo : ∀ m, i = m + 1 → P m = false
  hi : j < n → P j = true

set_option maxRecDepth 100000 in
set_option maxHeartbeats 2000000 in
theorem sortSearch_any (n : Nat) (P : Nat → Bool) (p1 p2 : Value) (W : World) (hn : n ≤ 4611686018427387904)
    (hf : ∀ i u, i < n → Below W.heap.size W u → Calls Try.prog 98 #[.int .i64 i, p1, p2] u (fun e w' => e = .returned (.bool (P i)) ∧ Below u.heap.size u w')) :
    Calls Try.prog 97 #[.int .i64 n, .func (.func 98) #[] #[p1, p2]] W (fun e w' => ∃ j : Nat, e = .returned (.int .i64 j) ∧ j ≤ n ∧ (∀ m, j = m + 1 → P m = false) ∧ (j < n → P j = true) ∧ Below W.heap.size W w') := by
  have hf' := Lib.hid hf
  clear hf
  go_enter Try.func97, Try.ntmps97
  go_wp2
  go_loopw [5, 6] (fun v5 v6 wr => ∃ i j : Nat, v5 = .int .i64 i ∧ v6 = .int .i64 j ∧ Hid (SrcRel W wr n P i j)) (fun v5 v6 _ => (intOf v6).toNat - (intOf v5).toNat)
  case atStart => exact ⟨0, n, rfl, rfl, Below.refl _ _, Nat.zero_le _, Nat.le_refl _, (fun m h => by omega), fun h => absurd h (Nat.lt_irrefl _)⟩
  case round =>
    obtain ⟨i, j, rfl, rfl, hr⟩ := hrel
    have hij := hr.out.le
    have hjn := hr.out.top
    by_cases hlt : i < j
    · have i0 : (0 : Int) ≤ (i : Int) + j := by omega
      have i1 : (i : Int) + j < 9223372036854775808 := by omega
      obtain ⟨H, hH⟩ : ∃ H : Nat, ((i : Int) + j) / 2 = H := ⟨(i + j) / 2, by omega⟩
      have hH1 : i ≤ H := by omega
      have hH2 : H < j := by omega
      have hc := Lib.hid (hf'.out H wr (by omega) hr.out.below)
      obtain ⟨b, hb⟩ : ∃ b, P H = b := ⟨_, rfl⟩
      rw [hb] at hc
      have hb' := Lib.hid hb
      clear hb
      cases b with
      | false =>
        go_wp2_with (first | (go_at_call 98; refine hc.out.mono ?_; rintro e w2 ⟨rfl, hb2⟩; have hb3 := Lib.hid (hr.out.below.trans (hb2.mono hr.out.below.size)); clear hb2))
        go_roundw
        case rel => exact ⟨H + 1, j, by go_num, rfl, hb3.out, by omega, hjn, (fun m hm => (show H = m by omega) ▸ hb'.out), hr.out.hi⟩
        case measure => simp [intOf]; omega
      | true =>
        go_wp2_with (first | (go_at_call 98; refine hc.out.mono ?_; rintro e w2 ⟨rfl, hb2⟩; have hb3 := Lib.hid (hr.out.below.trans (hb2.mono hr.out.below.size)); clear hb2))
        go_roundw
        case rel => exact ⟨i, H, rfl, rfl, hb3.out, hH1, by omega, hr.out.lo, fun _ => hb'.out⟩
        case measure => simp [intOf]; omega
    · obtain rfl : i = j := by omega
      go_wp2
      go_ret
      exact ⟨i, rfl, hjn, hr.out.lo, hr.out.hi, hr.out.below⟩

/-- what the closure says of the row at i -/
def geB (l : List RowD) (k : KeyD) (i : Nat) : Bool := match l[i]? with
  | some r => decide (0 ≤ cmpK r.key k)
  | none => false

set_option maxRecDepth 100000 in
set_option maxHeartbeats 2000000 in
theorem searchFn_any (g : Nat) (q : Option Addr) (n c : Nat) (l : List RowD) (t id : Int) (i : Nat) (W : World) (hr : RowsOn W q n c l) (h1 : Boxed W g [.slice q n c]) (h2 : Boxed W (g + 1) [.int .i64 t, .int .u16 id]) (hi : i < n) :
    Calls Try.prog 98 #[.int .i64 i, .pointer (some ⟨g, 0, none⟩), .pointer (some ⟨g + 1, 0, none⟩)] W (fun e w' => e = .returned (.bool (geB l ⟨t, id⟩ i)) ∧ Below W.heap.size W w') := by
  have hm := Nat.le_trans hr.le hr.cap
  unfold maxLen at hm
  obtain ⟨a, ⟨⟨pt, pid⟩, pv, ps⟩, rfl, hx, hok, hc⟩ := hr.at hi
  have hv : geB l ⟨t, id⟩ i = decide (0 ≤ cmpK ⟨pt, pid⟩ ⟨t, id⟩) := by unfold geB; rw [hx]
  rw [hv]
  have hcmp := Lib.hid (fun u => compare_any ⟨pt, pid⟩ ⟨t, id⟩ u)
  obtain ⟨x, hxx⟩ : ∃ x, cmpK ⟨pt, pid⟩ ⟨t, id⟩ = x := ⟨_, rfl⟩
  rw [hxx] at hcmp ⊢
  have c0 := h1.cell 0 rfl
  have c1 := h2.cell 0 rfl
  have c2 := h2.cell 1 rfl
  have c3 : W.cell? (a.add (i * 4)) = some (.int .i64 pt) := by have h := hc 0 _ rfl; rwa [add0] at h
  have c4 : W.cell? ⟨(a.add (i * 4)).block, (a.add (i * 4)).off + 1, none⟩ = some (.int .u16 pid) := hc 1 _ rfl
  have i0 : (0 : Int) ≤ i := by omega
  have i1 : (i : Int) < n := by omega
  clear hv hxx hx hok hc hr h1 h2 hm
  go_enter Try.func98, Try.ntmps98
  go_wp2_with fail
  go_region_held3 (fun u => u.cell? ⟨g, 0, none⟩ = some (.slice (some a) n c) ∧ u.cell? ⟨g + 1, 0, none⟩ = some (.int .i64 t) ∧ u.cell? ⟨g + 1, 1, none⟩ = some (.int .u16 id) ∧ u.cell? (a.add (i * 4)) = some (.int .i64 pt) ∧ u.cell? ⟨(a.add (i * 4)).block, (a.add (i * 4)).off + 1, none⟩ = some (.int .u16 pid))
    (first | go_keep | (go_split_ands; exact ⟨cell_keeps hb6.out (Nat.le_refl _) c0, cell_keeps hb6.out (Nat.le_refl _) c1, cell_keeps hb6.out (Nat.le_refl _) c2, cell_keeps hb6.out (Nat.le_refl _) c3, cell_keeps hb6.out (Nat.le_refl _) c4⟩))
    (first | (go_at_call 57; refine (hcmp.out _).mono ?_; rintro e w6 ⟨rfl, hb6'⟩; have hb6 := Lib.hid hb6'; clear hb6'))
  go_wp2
  go_ret
  exact ⟨by simp, (below_drew W).trans hb6.out⟩

/-- where a key stands in a list, or would stand -/
def Rising (l : List RowD) : Prop := ∀ (i : Nat) (a b : RowD), l[i]? = some a → l[i + 1]? = some b → cmpK a.key b.key < 0
theorem Rising.lt {l : List RowD} (h : Rising l) : ∀ (d i : Nat) (a b : RowD), l[i]? = some a → l[i + d + 1]? = some b → cmpK a.key b.key < 0
  | 0, i, a, b, ha, hb => h i a b ha hb
  | d + 1, i, a, b, ha, hb => by
    have hl := (List.getElem?_eq_some_iff.1 hb).1
    obtain ⟨m, hm⟩ : ∃ m, l[i + d + 1]? = some m := ⟨_, List.getElem?_eq_getElem (by omega)⟩
    exact cmpK_trans' (h.lt d i a m ha hm) (h (i + d + 1) m b hm hb)
theorem Rising.le {l : List RowD} (h : Rising l) {i j : Nat} {a b : RowD} (hij : i ≤ j) (ha : l[i]? = some a) (hb : l[j]? = some b) : cmpK a.key b.key ≤ 0 := by
  rcases Nat.lt_or_ge i j with hlt | hge
  · obtain ⟨d, rfl⟩ : ∃ d, j = i + d + 1 := ⟨j - i - 1, by omega⟩
    have := h.lt d i a b ha hb
    omega
  · obtain rfl : i = j := by omega
    rw [ha] at hb; cases hb
    rw [cmpK_zero.2 rfl]; omega
theorem okL_rising {bs : List BdD} {l : List RowD} (h : okL bs l = true) : Rising l := fun i a b ha hb => (((okL_iff bs l).1 h).2 (i + 1) b hb).2 i a rfl ha

/-- the rows ahead of j have lesser keys, those from j on have not -/
structure Place (l : List RowD) (k : KeyD) (j : Nat) : Prop where
  le : j ≤ l.length
  lo : ∀ i r, i < j → l[i]? = some r → cmpK r.key k < 0
  hi : ∀ i r, j ≤ i → l[i]? = some r → 0 ≤ cmpK r.key k
theorem Place.of {l : List RowD} {k : KeyD} {j : Nat} (h : Rising l) (hj : j ≤ l.length) (h1 : ∀ m, j = m + 1 → geB l k m = false) (h2 : j < l.length → geB l k j = true) : Place l k j := by
  refine ⟨hj, fun i r hi hr => ?_, fun i r hi hr => ?_⟩
  · obtain ⟨m, rfl⟩ : ∃ m, j = m + 1 := ⟨j - 1, by omega⟩
    have hx := h1 m rfl
    obtain ⟨p, hp⟩ : ∃ p, l[m]? = some p := ⟨_, List.getElem?_eq_getElem (by omega)⟩
    unfold geB at hx
    rw [hp] at hx
    have hlt : cmpK p.key k < 0 := by simpa using hx
    have hle := h.le (show i ≤ m by omega) hr hp
    by_cases he : cmpK r.key p.key = 0
    · rw [cmpK_zero.1 he]; exact hlt
    · exact cmpK_trans' (by omega) hlt
  · have hl := (List.getElem?_eq_some_iff.1 hr).1
    have hx := h2 (by omega)
    obtain ⟨p, hp⟩ : ∃ p, l[j]? = some p := ⟨_, List.getElem?_eq_getElem (by omega)⟩
    unfold geB at hx
    rw [hp] at hx
    have hge : 0 ≤ cmpK p.key k := by simpa using hx
    have hle := h.le hi hp hr
    have h3 : cmpK k p.key ≤ 0 := by rw [cmpK_anti]; omega
    have h4 := cmpK_trans h3 hle
    rw [cmpK_anti] at h4
    omega

/-- is the key at that place? -/
def atB (l : List RowD) (k : KeyD) (j : Nat) : Bool := match l[j]? with
  | some r => eqK r.key k
  | none => false

theorem atB_none {l : List RowD} {k : KeyD} {j : Nat} (h : l.length ≤ j) : atB l k j = false := by
  unfold atB
  rw [List.getElem?_eq_none h]
theorem atB_some {l : List RowD} {k : KeyD} {j : Nat} {r : RowD} (h : l[j]? = some r) : atB l k j = eqK r.key k := by
  unfold atB
  rw [h]

set_option maxRecDepth 100000 in
set_option maxHeartbeats 2000000 in
theorem search_any (q : Option Addr) (n c : Nat) (l : List RowD) (t id : Int) (w : World) (hr : RowsOn w q n c l) (hs : Rising l) (hn : n ≤ 4611686018427387904) :
    Calls Try.prog 94 #[.slice q n c, .agg #[.int .i64 t, .int .u16 id]] w (fun e w' => ∃ j : Nat, e = .returned (.tuple #[.int .i64 j, .bool (atB l ⟨t, id⟩ j)]) ∧ Place l ⟨t, id⟩ j ∧ Below w.heap.size w w') := by
  obtain ⟨W, hW⟩ : ∃ W, (w.alloc (.cells #[.slice q n c] 25)).alloc (.cells #[.int .i64 t, .int .u16 id] 28) = W := ⟨_, rfl⟩
  have hbx := Lib.hid (two_boxes (xs := [.slice q n c]) (ys := [.int .i64 t, .int .u16 id]) hW)
  have hW' := Lib.hid hr
  have hs' := Lib.hid hs
  have hl := Lib.hid hr.len
  have c0 := hbx.out.2.1.cell 0 rfl
  have hsrch := Lib.hid (sortSearch_any n (geB l ⟨t, id⟩) (.pointer (some ⟨w.heap.size, 0, none⟩)) (.pointer (some ⟨w.heap.size + 1, 0, none⟩)) W hn (fun i u hi hu => searchFn_any w.heap.size q n c l t id i u ((hW'.out.below hbx.out.1 (Nat.le_refl _)).below hu (Nat.le_refl _)) (hbx.out.2.1.below hu (Nat.le_refl _)) (hbx.out.2.2.1.below hu (Nat.le_refl _)) hi))
  clear hr hs
  go_enter Try.func94, Try.ntmps94
  go_wp2_with (first | (go_at_call 97; refine hsrch.out.mono ?_; rintro e w1 ⟨j, rfl, hj, hj1, hj2, hb1⟩; have hpl := Lib.hid (Place.of (k := ⟨t, id⟩) hs'.out (by rw [hl.out]; exact hj) hj1 (by rw [hl.out]; exact hj2)); have hb2 := Lib.hid hb1; clear hj1 hj2 hb1))
  have f0 := (hbx.out.2.1.below hb2.out (Nat.le_refl _)).cell 0 rfl
  have f1 := (hbx.out.2.2.1.below hb2.out (Nat.le_refl _)).cell 0 rfl
  have f2 := (hbx.out.2.2.1.below hb2.out (Nat.le_refl _)).cell 1 rfl
  have hbe := Lib.hid (hbx.out.1.trans (hb2.out.mono hbx.out.1.size))
  clear hW
  by_cases hlt : j < n
  · obtain ⟨a, ⟨⟨pt, pid⟩, pv, ps⟩, rfl, hx, hok, hc⟩ := (hW'.out.below hbe.out (Nat.le_refl _)).at hlt
    have c3 : w1.cell? (a.add (j * 4)) = some (.int .i64 pt) := by have h := hc 0 _ rfl; rwa [add0] at h
    have c4 : w1.cell? ⟨(a.add (j * 4)).block, (a.add (j * 4)).off + 1, none⟩ = some (.int .u16 pid) := hc 1 _ rfl
    have i0 : (0 : Int) ≤ j := by omega
    have i1 : (j : Int) < n := by omega
    have i2 : decide ((j : Int) < n) = true := decide_eq_true i1
    have hat := Lib.hid (atB_some (k := ⟨t, id⟩) hx)
    obtain ⟨B, hB⟩ : ∃ B, atB l ⟨t, id⟩ j = B := ⟨_, rfl⟩
    have hB' := Lib.hid hB
    clear hx hok hc hB
    by_cases e1 : pt = t
    · subst e1
      by_cases e2 : pid = id
      · subst e2
        have hBv : B = true := by rw [← hB'.out, hat.out]; simp [eqK]
        go_quiet (fail)
        go_wp2
        go_ret2
        exact ⟨j, (by rw [hB'.out, hBv]; rfl), hpl.out, hbe.out.trans ((below_drewN _ _).mono hbe.out.size)⟩
      · have hBv : B = false := by rw [← hB'.out, hat.out]; simp [eqK, e2]
        have e3 : (pid == id) = false := by simpa using e2
        go_quiet (fail)
        go_wp2
        go_ret2
        exact ⟨j, (by rw [hB'.out, hBv]; rfl), hpl.out, hbe.out.trans ((below_drewN _ _).mono hbe.out.size)⟩
    · have hBv : B = false := by rw [← hB'.out, hat.out]; simp [eqK, e1]
      have e3 : (pt == t) = false := by simpa using e1
      go_quiet (fail)
      go_wp2
      go_ret2
      exact ⟨j, (by rw [hB'.out, hBv]; rfl), hpl.out, hbe.out.trans ((below_drewN _ _).mono hbe.out.size)⟩
  · have i1 : decide ((j : Int) < n) = false := decide_eq_false (by omega)
    have hat := Lib.hid (atB_none (k := ⟨t, id⟩) (show l.length ≤ j by rw [hl.out]; omega))
    go_quiet (fail)
    go_wp2
    go_ret2
    exact ⟨j, (by rw [hat.out]; rfl), hpl.out, hbe.out.trans ((below_drewN _ _).mono hbe.out.size)⟩
end Go.Proofs.Ytkdkncbccofpdaa
