/- Page: where a row stands in a leaf: front, rowAt. -/
import Derived.Test.YtaiepdhmlmnggaaPFn
import Derived.Test.YtaiepdhmlmnggaaYPut
namespace Go.Proofs.Ytaiepdhmlmnggaa
open Go.RowKit

def posR (L : List RowD) (k : KeyD) : Nat := (L.takeWhile fun r => decide (cmpK r.key k < 0)).length
theorem posR_cons (r : RowD) (L : List RowD) (k : KeyD) : posR (r :: L) k = if cmpK r.key k < 0 then posR L k + 1 else 0 := by
  unfold posR
  rw [List.takeWhile_cons]
  by_cases h : cmpK r.key k < 0
  · rw [if_pos h, if_pos (by simpa using h)]; simp
  · rw [if_neg h, if_neg (by simpa using h)]; rfl
theorem posR_at {k : KeyD} : ∀ {L : List RowD} {K : Nat}, K ≤ L.length → (∀ (i : Nat) r, i < K → L[i]? = some r → cmpK r.key k < 0) → (∀ r, L[K]? = some r → ¬ cmpK r.key k < 0) → posR L k = K
  | [], K, h, _, _ => by
    have : K = 0 := by simpa using h
    subst this; rfl
  | r :: L, 0, _, _, h => by rw [posR_cons, if_neg (h r rfl)]
  | r :: L, K + 1, hl, h, h2 => by
    rw [posR_cons, if_pos (h 0 r (by omega) rfl), posR_at (K := K) (by simpa using hl) (fun i r hi hr => h (i + 1) r (by omega) hr) (fun r hr => h2 r hr)]
theorem posR_le (L : List RowD) (k : KeyD) : posR L k ≤ L.length := by
  induction L with
  | nil => exact Nat.zero_le _
  | cons r L ih =>
    rw [posR_cons]
    split
    · simp; omega
    · omega
theorem posR_lt (k : KeyD) : ∀ (L : List RowD) (i : Nat) (r : RowD), i < posR L k → L[i]? = some r → cmpK r.key k < 0
  | [], _, _, h, _ => by simp [posR] at h
  | x :: L, i, r, h, hr => by
    rw [posR_cons] at h
    by_cases hx : cmpK x.key k < 0
    · rw [if_pos hx] at h
      match i, hr with
      | 0, hr => cases hr; exact hx
      | i + 1, hr => exact posR_lt k L i r (by omega) hr
    · rw [if_neg hx] at h; omega
theorem posR_ge (k : KeyD) : ∀ (L : List RowD) (r : RowD), L[posR L k]? = some r → ¬ cmpK r.key k < 0
  | [], _, h => by simp at h
  | x :: L, r, h => by
    rw [posR_cons] at h
    by_cases hx : cmpK x.key k < 0
    · rw [if_pos hx] at h
      exact posR_ge k L r h
    · rw [if_neg hx] at h
      cases h; exact hx

set_option maxRecDepth 100000 in
set_option maxHeartbeats 1000000 in
theorem rowAt1_any (t id v : Int) (s : ByteArray) (kt ki : Int) (b : Nat) (w : World) (hk : Boxed w b [.int .i64 kt, .int .u16 ki]) :
    Calls Try.prog 69 #[.agg #[.int .i64 t, .int .u16 id, .int .i64 v, .string s], .pointer (some ⟨b, 0, none⟩)] w (fun e w' => e = .returned (.bool (decide (cmpK ⟨t, id⟩ ⟨kt, ki⟩ < 0))) ∧ Below w.heap.size w w') := by
  obtain ⟨W, hW⟩ : ∃ W, w.alloc (.cells #[.int .i64 t, .int .u16 id, .int .i64 v, .string s] 30) = W := ⟨_, rfl⟩
  have hbx := Lib.hid (one_box (xs := [.int .i64 t, .int .u16 id, .int .i64 v, .string s]) hW)
  have hs1 := sizeKey t id
  have hs2 := sizeKey kt ki
  have k0 := Lib.hid (Boxed.key hbx.out.2.1)
  have hkk := Lib.hid (hk.below hbx.out.1 (Nat.le_refl _))
  have hcmp := Lib.hid (fun u => compare_any ⟨t, id⟩ ⟨kt, ki⟩ u)
  obtain ⟨z, hz⟩ : ∃ z, cmpK ⟨t, id⟩ ⟨kt, ki⟩ = z := ⟨_, rfl⟩
  rw [hz] at hcmp ⊢
  obtain ⟨E, hE⟩ : ∃ E, decide (z < 0) = E := ⟨_, rfl⟩
  rw [hE]
  clear hk hz
  go_enter Try.func69, Try.ntmps69
  go_wp2_with (first
    | (with_reducible refine wpList_load_at rfl 28 (.tmp 4) rfl Try.underlying28 rfl hs1 rfl k0.out ?_)
    | (with_reducible refine wpList_load_at rfl 28 (.tmp 1) rfl Try.underlying28 rfl hs2 rfl hkk.out.all ?_)
    | (go_at_call 70; refine (hcmp.out _).mono ?_; rintro e w1 ⟨rfl, hb1⟩; have hd := Lib.hid (below_step hb1 hbx.out.1); clear hb1))
  go_ret
  exact ⟨by first | rfl | simp [hE], hd.out⟩

set_option maxRecDepth 100000 in
set_option maxHeartbeats 2000000 in
theorem front_any (q : Option Addr) (n c : Nat) (L : List RowD) (kt ki : Int) (b : Nat) (w : World) (hr : RowsOn w q n c L) (hk : Boxed w b [.int .i64 kt, .int .u16 ki]) :
    Calls Try.prog 68 #[.slice q n c, .func (.func 69) #[] #[.pointer (some ⟨b, 0, none⟩)]] w (fun e w' => e = .returned (.int .i64 ((posR L ⟨kt, ki⟩ : Nat) : Int)) ∧ Below w.heap.size w w') := by
  have hrr := Lib.hid hr
  have hkk := Lib.hid hk
  have hrl := Lib.hid hr.len
  have hrm := Nat.le_trans hr.le hr.cap
  unfold maxLen at hrm
  obtain ⟨p, hp⟩ : ∃ p, posR L ⟨kt, ki⟩ = p := ⟨_, rfl⟩
  have hp' := Lib.hid hp
  rw [hp]
  clear hr hk hp
  go_enter Try.func68, Try.ntmps68
  go_wp2
  go_loopw [9] (fun v9 wr => ∃ k : Nat, k ≤ n ∧ v9 = .int .i64 k ∧ Hid (Below w.heap.size w wr) ∧ Hid (∀ (i : Nat) (r : RowD), i < k → L[i]? = some r → cmpK r.key ⟨kt, ki⟩ < 0)) (fun v9 _ => n - (RowKit.intOf v9).toNat)
  case atStart => exact ⟨0, Nat.zero_le _, rfl, (show Below _ _ _ from Below.refl _ _), fun i r hi => by omega⟩
  case round =>
    obtain ⟨k, hk, rfl, hb, hq⟩ := hrel
    by_cases hlt : k < n
    · obtain ⟨A, ⟨⟨t, id⟩, v, s⟩, hqA, hx, hok, hcA⟩ := (hrr.out.below hb.out (Nat.le_refl _)).at hlt
      subst hqA
      have hcell : Hid (∀ j x, ([.int .i64 t, .int .u16 id, .int .i64 v, .string s] : List Value)[j]? = some x → wr.cell? ((A.add (k * 4)).add j) = some x) := hcA
      have hs2 := sizeRow t id v s
      have hx' := Lib.hid hx
      have i0 : (0 : Int) ≤ k := by omega
      have i1 : (k : Int) < n := by omega
      obtain ⟨WA, hWA⟩ : ∃ W', wr.alloc (.cells #[.int .i64 t, .int .u16 id, .int .i64 v, .string s] 30) = W' := ⟨_, rfl⟩
      have hbA := Lib.hid (one_box (xs := [.int .i64 t, .int .u16 id, .int .i64 v, .string s]) hWA)
      have hwA := Lib.hid (below_step hbA.out.1 hb.out)
      have hcl := Lib.hid (rowAt1_any t id v s kt ki b WA (hkk.out.below hwA.out (Nat.le_refl _)))
      obtain ⟨F, hF⟩ : ∃ F, decide (cmpK ⟨t, id⟩ ⟨kt, ki⟩ < 0) = F := ⟨_, rfl⟩
      rw [hF] at hcl
      have hF' := Lib.hid hF
      have p0 := hbA.out.2.1.cell 0 rfl
      have p1 := hbA.out.2.1.cell 1 rfl
      have p2 := hbA.out.2.1.cell 2 rfl
      have p3 := hbA.out.2.1.cell 3 rfl
      clear hx hok hcA hF
      go_wp2_with (first
        | (with_reducible refine wpList_load_at rfl 30 (.tmp 12) rfl Try.underlying30 rfl hs2 rfl hcell.out ?_)
        | (with_reducible refine wpList_load_at rfl 30 (.tmp 6) rfl Try.underlying30 rfl hs2 rfl hbA.out.2.1.all ?_))
      refine hcl.out.mono ?_
      clear hcl hWA p0 p1 p2 p3
      rintro e w1 ⟨rfl, hb1⟩
      have hd := Lib.hid (below_step hb1 hwA.out)
      clear hb1
      cases F with
      | false =>
        have hz : Hid (p = k) := by
          show p = k
          rw [← hp'.out]
          refine posR_at (by rw [hrl.out]; omega) hq.out (fun r hr => ?_)
          rw [hx'.out] at hr
          cases hr
          exact of_decide_eq_false hF'.out
        go_wp2
        go_ret
        exact ⟨by rw [hz.out]; rfl, hd.out⟩
      | true =>
        go_wp2
        go_roundw
        case rel =>
          refine ⟨k + 1, by omega, by go_num, hd, fun i r hi hri => ?_⟩
          rcases Nat.lt_or_ge i k with h | h
          · exact hq.out i r h hri
          · obtain rfl : i = k := by omega
            rw [hx'.out] at hri
            cases hri
            exact of_decide_eq_true hF'.out
        case measure => simp [RowKit.intOf]; omega
    · obtain rfl : n = k := by omega
      have hz : Hid (p = n) := by
        show p = n
        rw [← hp'.out]
        refine posR_at (by rw [hrl.out]; omega) hq.out (fun r hr => ?_)
        have := (List.getElem?_eq_some_iff.1 hr).1
        rw [hrl.out] at this
        omega
      go_wp2
      go_ret
      exact ⟨by rw [hz.out]; rfl, hb.out⟩

def isR (L : List RowD) (k : KeyD) : Bool := match L[posR L k]? with | none => false | some r => eqK r.key k
set_option maxRecDepth 100000 in
set_option maxHeartbeats 4000000 in
theorem rowAt_any (v : CV) (L : List RowD) (kt ki : Int) (w : World) (hr : RowsOn w v.rq v.rn v.rc L) (hn : v.rn ≤ 1000000) :
    Calls Try.prog 46 #[v.val, .agg #[.int .i64 kt, .int .u16 ki]] w (fun e w' => e = .returned (.tuple #[.int .i64 ((posR L ⟨kt, ki⟩ : Nat) : Int), .bool (isR L ⟨kt, ki⟩)]) ∧ Below w.heap.size w w') := by
  obtain ⟨k, rq, rn, rc, kq, kn, kc⟩ := v
  have hr : RowsOn w rq rn rc L := hr
  have hn : rn ≤ 1000000 := hn
  obtain ⟨W, hW⟩ : ∃ W, (w.alloc (.cells #[.int .i64 k, .slice rq rn rc, .slice kq kn kc] 25)).alloc (.cells #[.int .i64 kt, .int .u16 ki] 28) = W := ⟨_, rfl⟩
  have hbx := Lib.hid (two_boxes (xs := [.int .i64 k, .slice rq rn rc, .slice kq kn kc]) (ys := [.int .i64 kt, .int .u16 ki]) hW)
  have hrr := Lib.hid (hr.below hbx.out.1 (Nat.le_refl _))
  have hfr := Lib.hid (front_any rq rn rc L kt ki (w.heap.size + 1) W hrr.out hbx.out.2.2.1)
  have hpl := Lib.hid (posR_le L ⟨kt, ki⟩)
  have hrl := Lib.hid hr.len
  obtain ⟨p, hp⟩ : ∃ p, posR L ⟨kt, ki⟩ = p := ⟨_, rfl⟩
  have his : Hid (isR L ⟨kt, ki⟩ = match L[p]? with | none => false | some r => eqK r.key ⟨kt, ki⟩) := by show isR _ _ = _; unfold isR; rw [hp]
  rw [hp] at hfr hpl ⊢
  obtain ⟨b, hb⟩ : ∃ b, isR L ⟨kt, ki⟩ = b := ⟨_, rfl⟩
  rw [hb] at his ⊢
  have c1 := hbx.out.2.1.cell 1 rfl
  clear hr hp hb
  show Calls _ _ #[.agg #[.int .i64 k, .slice rq rn rc, .slice kq kn kc], .agg #[.int .i64 kt, .int .u16 ki]] _ _
  go_enter Try.func46, Try.ntmps46
  go_wp2_with fail
  refine hfr.out.mono ?_
  clear hfr hW c1
  rintro e w2 ⟨rfl, hb2⟩
  have hd2 := Lib.hid (below_step hb2 hbx.out.1)
  have bx2 := Lib.hid (hbx.out.2.1.below hb2 (Nat.le_refl _))
  have by2 := Lib.hid (hbx.out.2.2.1.below hb2 (Nat.le_refl _))
  have hr2 := Lib.hid (hrr.out.below hb2 (Nat.le_refl _))
  clear hb2 hrr hbx
  have hs2 := sizeKey kt ki
  go_wp2_with fail
  refine wp_region_held (S := fun u => Below w2.heap.size w2 u) (by kernel_rfl) ?_
  change wpAnyH _ _ _ _ _ _ _ _ (World.drew w2)
  have hS0 : Below w2.heap.size w2 (w2).drew := below_drew _
  refine wpF.held _ _ _ ?_ _ hS0
  clear hS0
  rcases Nat.lt_or_ge p rn with hlt | hge
  · obtain ⟨A, ⟨⟨t, id⟩, v, s⟩, hqA, hx, hok, hcA⟩ := hr2.out.at hlt
    subst hqA
    have hkc : Hid (∀ j x, ([.int .i64 t, .int .u16 id] : List Value)[j]? = some x → w2.cell? ((A.add (p * 4)).add j) = some x) := fun j x hj => hcA j x (by
      match j, hj with
      | 0, hj => exact hj
      | 1, hj => exact hj
      | j + 2, hj => simp at hj)
    have hs1 := sizeKey t id
    have heq := fun u => eq_key u t id kt ki
    have hE : b = eqK ⟨t, id⟩ ⟨kt, ki⟩ := by rw [his.out, hx]
    obtain ⟨E, hEE⟩ : ∃ E, eqK ⟨t, id⟩ ⟨kt, ki⟩ = E := ⟨_, rfl⟩
    rw [hEE] at heq hE
    subst hE
    have i0 : (0 : Int) ≤ p := by omega
    have i1 : (p : Int) < rn := by omega
    have i2 : decide ((p : Int) < rn) = true := decide_eq_true i1
    clear hx hok hcA hEE his
    refine fx (i := 0) (dst := some 11) (v := .int .i64 (p : Int)) rfl rfl (fx_read (fun u hu => by go_simp)) ?_; go_frame
    refine fx (i := 1) (dst := some 12) (v := .int .i64 (p : Int)) rfl rfl (fx_read (fun u hu => by go_simp)) ?_; go_frame
    refine fx (i := 2) (dst := some 13) (v := .pointer (some ⟨w.heap.size, 1, none⟩)) rfl rfl (fx_read (fun u hu => by go_simp)) ?_; go_frame
    refine fx (i := 3) (dst := some 14) (v := .slice (some A) rn rc) rfl rfl (fx_read (fun u hu => by have c1 := (bx2.out.below hu (Nat.le_refl _)).cell 1 rfl; go_simp)) ?_; go_frame
    refine fx (i := 4) (dst := some 15) (v := .int .i64 (rn : Int)) rfl rfl (fx_read (fun u hu => by go_simp)) ?_; go_frame
    refine fx (i := 5) (dst := some 16) (v := .bool true) rfl rfl (fx_read (fun u hu => by go_simp)) ?_; go_frame
    refine fx (i := 6) (dst := some 17) (v := .bool true) rfl rfl (fx_read (fun u hu => by go_simp)) ?_; go_frame
    refine fx (i := 7) (dst := some 18) (v := .pointer (some ⟨w.heap.size, 1, none⟩)) rfl rfl (fx_read (fun u hu => by go_simp)) ?_; go_frame
    refine fx (i := 8) (dst := some 19) (v := .slice (some A) rn rc) rfl rfl (fx_read (fun u hu => by have c1 := (bx2.out.below hu (Nat.le_refl _)).cell 1 rfl; go_simp)) ?_; go_frame
    refine fx (i := 9) (dst := some 20) (v := .int .i64 (p : Int)) rfl rfl (fx_read (fun u hu => by go_simp)) ?_; go_frame
    refine fx (i := 10) (dst := some 21) (v := .pointer (some (A.add (p * 4)))) rfl rfl (fx_read (fun u hu => by go_simp)) ?_; go_frame
    refine fx (i := 11) (dst := some 22) (v := .pointer (some (A.add (p * 4)))) rfl rfl (fx_read (fun u hu => by go_simp)) ?_; go_frame
    refine fx (i := 12) (dst := some 23) (v := .agg #[.int .i64 t, .int .u16 id]) rfl rfl (fx_load 28 (.tmp 22) (fun u hu => run_loadVar_at Try.underlying28 rfl hs1 _ (fun j x hj => cell_keeps hu (Nat.le_refl _) (hkc.out j x hj)))) ?_; go_frame
    refine fx (i := 13) (dst := some 24) (v := .agg #[.int .i64 kt, .int .u16 ki]) rfl rfl (fx_load 28 (.tmp 3) (fun u hu => run_loadVar_at Try.underlying28 rfl hs2 _ (by2.out.below hu (Nat.le_refl _)).all)) ?_; go_frame
    refine fx (i := 14) (dst := some 25) (v := .bool b) rfl rfl (fx_read (fun u hu => by go_simp)) ?_; go_frame
    refine fx (i := 15) (dst := some 26) (v := .bool b) rfl rfl (fx_read (fun u hu => by go_simp)) ?_; go_frame
    refine fx (i := 16) (dst := some 4) (v := .int .i64 (p : Int)) rfl rfl (fx_read (fun u hu => by go_simp)) ?_; go_frame
    refine fx (i := 17) (dst := some 5) (v := .bool b) rfl rfl (fx_read (fun u hu => by go_simp)) ?_; go_frame
    refine fx_done (fun u hu => ?_) (by kernel_rfl) _
    have hd := Lib.hid (below_step hu hd2.out)
    go_wp2
    refine bodyPost_ret (v := .tuple #[.int .i64 (p : Int), .bool b]) (by simp [results, Try.results46, go_sem]) rfl ?_
    exact ⟨rfl, hd.out⟩
  · obtain rfl : p = rn := by have := hpl.out; rw [hrl.out] at this; omega
    obtain rfl : b = false := by rw [his.out, List.getElem?_eq_none (by rw [hrl.out]; exact Nat.le_refl _)]
    have i2 : decide ((p : Int) < p) = false := decide_eq_false (by omega)
    clear his
    refine fx (i := 0) (dst := some 11) (v := .int .i64 (p : Int)) rfl rfl (fx_read (fun u hu => by go_simp)) ?_; go_frame
    refine fx (i := 1) (dst := some 12) (v := .int .i64 (p : Int)) rfl rfl (fx_read (fun u hu => by go_simp)) ?_; go_frame
    refine fx (i := 2) (dst := some 13) (v := .pointer (some ⟨w.heap.size, 1, none⟩)) rfl rfl (fx_read (fun u hu => by go_simp)) ?_; go_frame
    refine fx (i := 3) (dst := some 14) (v := .slice rq p rc) rfl rfl (fx_read (fun u hu => by have c1 := (bx2.out.below hu (Nat.le_refl _)).cell 1 rfl; go_simp)) ?_; go_frame
    refine fx (i := 4) (dst := some 15) (v := .int .i64 (p : Int)) rfl rfl (fx_read (fun u hu => by go_simp)) ?_; go_frame
    refine fx (i := 5) (dst := some 16) (v := .bool false) rfl rfl (fx_read (fun u hu => by go_simp)) ?_; go_frame
    refine fx (i := 6) (dst := some 17) (v := .bool false) rfl rfl (fx_read (fun u hu => by go_simp)) ?_; go_frame
    refine fx (i := 7) (dst := some 18) rfl rfl fx_off ?_; go_frame
    refine fx (i := 8) (dst := some 19) rfl rfl fx_off ?_; go_frame
    refine fx (i := 9) (dst := some 20) rfl rfl fx_off ?_; go_frame
    refine fx (i := 10) (dst := some 21) rfl rfl fx_off ?_; go_frame
    refine fx (i := 11) (dst := some 22) rfl rfl fx_off ?_; go_frame
    refine fx (i := 12) (dst := some 23) rfl rfl fx_off ?_; go_frame
    refine fx (i := 13) (dst := some 24) rfl rfl fx_off ?_; go_frame
    refine fx (i := 14) (dst := some 25) rfl rfl fx_off ?_; go_frame
    refine fx (i := 15) (dst := some 26) (v := .bool false) rfl rfl (fx_read (fun u hu => by go_simp)) ?_; go_frame
    refine fx (i := 16) (dst := some 4) (v := .int .i64 (p : Int)) rfl rfl (fx_read (fun u hu => by go_simp)) ?_; go_frame
    refine fx (i := 17) (dst := some 5) (v := .bool false) rfl rfl (fx_read (fun u hu => by go_simp)) ?_; go_frame
    refine fx_done (fun u hu => ?_) (by kernel_rfl) _
    have hd := Lib.hid (below_step hu hd2.out)
    go_wp2
    refine bodyPost_ret (v := .tuple #[.int .i64 (p : Int), .bool false]) (by simp [results, Try.results46, go_sem]) rfl ?_
    exact ⟨rfl, hd.out⟩
end Go.Proofs.Ytaiepdhmlmnggaa
