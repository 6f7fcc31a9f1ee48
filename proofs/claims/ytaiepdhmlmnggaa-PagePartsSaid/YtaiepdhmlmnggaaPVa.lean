/- Page: what a levelled page must meet: ascend, rises, apart, longerThan; come with three needs. -/
import Derived.Test.YtaiepdhmlmnggaaPVm
import Derived.Test.YtaiepdhmlmnggaaPJo
namespace Go.Proofs.Ytaiepdhmlmnggaa
open Go.RowKit

set_option maxRecDepth 100000 in
set_option maxHeartbeats 1000000 in
theorem keyR_any (t id v : Int) (s : ByteArray) (w : World) :
    Calls Try.prog 81 #[.agg #[.int .i64 t, .int .u16 id, .int .i64 v, .string s]] w (fun e w' => e = .returned (.agg #[.int .i64 t, .int .u16 id]) ∧ Below w.heap.size w w') := by
  obtain ⟨W, hW⟩ : ∃ W, (w.alloc (.cells #[.int .i64 t, .int .u16 id, .int .i64 v, .string s] 30)).alloc (.cells #[.int .i64 0, .int .u16 0] 28) = W := ⟨_, rfl⟩
  have hbx := Lib.hid (two_rows (xs := [.int .i64 t, .int .u16 id, .int .i64 v, .string s]) (ys := [.int .i64 0, .int .u16 0]) hW)
  have hs1 := sizeKey t id
  have k0 : Hid (∀ j x, ([.int .i64 t, .int .u16 id] : List Value)[j]? = some x → W.cell? ((⟨w.heap.size, 0, none⟩ : Addr).add j) = some x) := fun j x hj => hbx.out.2.1.boxed j x (by match j, hj with | 0, hj => exact hj | 1, hj => exact hj | j + 2, hj => simp at hj)
  have br := Lib.hid hbx.out.2.2.1
  go_enter Try.func81, Try.ntmps81
  go_wp2_with (first
    | (with_reducible refine wpList_load_at rfl 28 (.tmp 3) rfl Try.underlying28 rfl hs1 rfl k0.out ?_)
    | ((with_reducible refine wpList_store_at rfl 28 (.tmp 2) (.tmp 4) rfl (o := 0) (vs := [.int .i64 t, .int .u16 id]) rfl rfl br.out hs1 (Nat.le_refl _) (key_one t id) ?_)
       intro w9 h9 hg9
       have q9 := Lib.hid h9
       have hg9' := Lib.hid hg9
       clear h9 hg9))
  have s9 : RowV 28 w9 (w.heap.size + 1) [.int .i64 t, .int .u16 id] := q9.out
  have m90 := s9.cell 0
  have m91 := s9.cell 1
  simp only [List.getElem?_cons_zero, List.getElem?_cons_succ] at m90 m91
  refine bodyPost_ret (v := .agg #[.int .i64 t, .int .u16 id]) (by simp [results, Try.results81, go_sem, m90, m91]) rfl ?_
  exact ⟨rfl, Gr.below hg9'.out hbx.out.1 (by omega)⟩

set_option maxRecDepth 100000 in
set_option maxHeartbeats 4000000 in
theorem ascR_any (q : Option Addr) (n c : Nat) (L : List RowD) (b : Bool) (hb : b = true ↔ L.Pairwise RlR) (w : World) (hr : RowsOn w q n c L) :
    Calls Try.prog 80 #[.slice q n c, .func (.func 81) #[] #[]] w (fun e w' => e = .returned (.bool b) ∧ Below w.heap.size w w') := by
  have hrr := Lib.hid hr
  have hrl := Lib.hid hr.len
  have hb' := Lib.hid hb
  have hrm := Nat.le_trans hr.le hr.cap
  unfold maxLen at hrm
  clear hr hb
  go_enter Try.func80, Try.ntmps80
  go_wp2
  go_loopw [5] (fun v5 wr => ∃ k : Nat, (k = 1 ∨ k ≤ n) ∧ 1 ≤ k ∧ v5 = .int .i64 k ∧ Hid (Below w.heap.size w wr) ∧ Hid (∀ (i : Nat) (x y : RowD), i + 1 < k → L[i]? = some x → L[i + 1]? = some y → RlR x y)) (fun v5 _ => n + 1 - (RowKit.intOf v5).toNat)
  case atStart => exact ⟨1, .inl rfl, Nat.le_refl _, rfl, (show Below _ _ _ from Below.refl _ _), fun i x y hi => by omega⟩
  case round =>
    obtain ⟨k, hk, hk1, rfl, hd, hq⟩ := hrel
    by_cases hlt : k < n
    · obtain ⟨m, rfl⟩ : ∃ m, k = m + 1 := ⟨k - 1, by omega⟩
      obtain ⟨K, hK⟩ : ∃ K, m + 1 = K := ⟨_, rfl⟩
      rw [hK] at hq hk1 hk hlt ⊢
      have hmn : m < n := by omega
      obtain ⟨A, ⟨⟨t, id⟩, v, s⟩, hqA, hx, hok, hcA⟩ := (hrr.out.below hd.out (Nat.le_refl _)).at hmn
      subst hqA
      obtain ⟨A', ⟨⟨t2, id2⟩, v2, s2⟩, hqB, hy, hok2, hcB⟩ := (hrr.out.below hd.out (Nat.le_refl _)).at hlt
      obtain rfl : A = A' := by cases hqB; rfl
      have hcA : Hid (∀ j x, ([.int .i64 t, .int .u16 id, .int .i64 v, .string s] : List Value)[j]? = some x → wr.cell? ((A.add (m * 4)).add j) = some x) := hcA
      have hcB : Hid (∀ j x, ([.int .i64 t2, .int .u16 id2, .int .i64 v2, .string s2] : List Value)[j]? = some x → wr.cell? ((A.add (K * 4)).add j) = some x) := hcB
      have hs1 := sizeRow t id v s
      have hs2 := sizeRow t2 id2 v2 s2
      have hx' := Lib.hid hx
      have hy' := Lib.hid hy
      have hK' := Lib.hid hK
      have i0 : (0 : Int) ≤ m := by omega
      have i1 : (m : Int) < n := by omega
      have i2 : (0 : Int) ≤ K := by omega
      have i3 : (K : Int) < n := by omega
      have e1 : IntKind.i64.wrap ((K : Int) - 1) = (m : Int) := by rw [IntWalk.i64_in _ (by omega)]; omega
      obtain ⟨z, hz⟩ : ∃ z, cmpK ⟨t, id⟩ ⟨t2, id2⟩ = z := ⟨_, rfl⟩
      have hcm := Lib.hid (fun u => compare_any ⟨t, id⟩ ⟨t2, id2⟩ u)
      rw [hz] at hcm
      obtain ⟨E, hE⟩ : ∃ E, decide ((0 : Int) ≤ z) = E := ⟨_, rfl⟩
      have hE' := Lib.hid hE
      have hz' := Lib.hid hz
      clear hx hy hok hok2 hqB hz
      go_wp2_with fail
      refine wp_region_held (S := fun u => Below wr.heap.size wr u) (by kernel_rfl) ?_
      change wpAnyH _ _ _ _ _ _ _ _ (World.drew wr)
      refine wpF.held _ _ _ ?_ _ (below_drew wr)
      refine fx (i := 0) (dst := some 12) (v := .func (.func 81) #[] #[]) rfl rfl (fx_read (fun u hu => by go_simp)) ?_; go_frame
      refine fx (i := 1) (dst := some 13) (v := .slice (some A) n c) rfl rfl (fx_read (fun u hu => by go_simp)) ?_; go_frame
      refine fx (i := 2) (dst := some 14) (v := .int .i64 (K : Int)) rfl rfl (fx_read (fun u hu => by go_simp)) ?_; go_frame
      refine fx (i := 3) (dst := some 15) (v := .int .i64 (m : Int)) rfl rfl (fx_read (fun u hu => by go_simp)) ?_; go_frame
      refine fx (i := 4) (dst := some 16) (v := .pointer (some (A.add (m * 4)))) rfl rfl (fx_read (fun u hu => by go_simp)) ?_; go_frame
      refine fx (i := 5) (dst := some 17) (v := .agg #[.int .i64 t, .int .u16 id, .int .i64 v, .string s]) rfl rfl (fx_load 30 (.tmp 16) (fun u hu => run_loadVar_at Try.underlying30 rfl hs1 _ (fun j x hj => cell_keeps hu (Nat.le_refl _) (hcA.out j x hj)))) ?_; go_frame
      refine fx (i := 6) (dst := some 18) (v := .agg #[.int .i64 t, .int .u16 id]) rfl rfl (fx_call (fun u hu => (keyR_any t id v s u).mono fun e y h => ⟨h.1, below_step h.2 hu⟩)) ?_; go_frame
      refine fx (i := 7) (dst := some 19) (v := .func (.func 81) #[] #[]) rfl rfl (fx_read (fun u hu => by go_simp)) ?_; go_frame
      refine fx (i := 8) (dst := some 20) (v := .slice (some A) n c) rfl rfl (fx_read (fun u hu => by go_simp)) ?_; go_frame
      refine fx (i := 9) (dst := some 21) (v := .int .i64 (K : Int)) rfl rfl (fx_read (fun u hu => by go_simp)) ?_; go_frame
      refine fx (i := 10) (dst := some 22) (v := .pointer (some (A.add (K * 4)))) rfl rfl (fx_read (fun u hu => by go_simp)) ?_; go_frame
      refine fx (i := 11) (dst := some 23) (v := .agg #[.int .i64 t2, .int .u16 id2, .int .i64 v2, .string s2]) rfl rfl (fx_load 30 (.tmp 22) (fun u hu => run_loadVar_at Try.underlying30 rfl hs2 _ (fun j x hj => cell_keeps hu (Nat.le_refl _) (hcB.out j x hj)))) ?_; go_frame
      refine fx (i := 12) (dst := some 24) (v := .agg #[.int .i64 t2, .int .u16 id2]) rfl rfl (fx_call (fun u hu => (keyR_any t2 id2 v2 s2 u).mono fun e y h => ⟨h.1, below_step h.2 hu⟩)) ?_; go_frame
      refine fx (i := 13) (dst := some 25) (v := .int .i64 z) rfl rfl (fx_call (fun u hu => (hcm.out u).mono fun e y h => ⟨h.1, below_step h.2 hu⟩)) ?_; go_frame
      refine fx (i := 14) (dst := some 26) (v := .bool E) rfl rfl (fx_read (fun u hu => by go_simp)) ?_; go_frame
      refine fx_done (fun w2 hu => ?_) (by kernel_rfl) _
      have hd2 := Lib.hid (below_step hu hd.out)
      clear hu hcA hcB hcm hs1 hs2 e1 hE
      cases E with
      | true =>
        obtain rfl : b = false := by
          cases b with
          | false => rfl
          | true =>
            have h1 := chain_rel (hb'.out.1 rfl) (show m < K by have := hK'.out; omega) hx'.out hy'.out
            unfold RlR at h1
            have h2 := of_decide_eq_true hE'.out
            have h3 := hz'.out
            simp only at h1
            omega
        go_wp2
        go_ret
        exact ⟨rfl, hd2.out⟩
      | false =>
        go_wp2
        go_roundw
        case rel =>
          refine ⟨K + 1, .inr (by omega), by omega, by go_num, hd2, fun i x y hi hxi hyi => ?_⟩
          rcases Nat.lt_or_ge (i + 1) K with h | h
          · exact hq.out i x y h hxi hyi
          · obtain rfl : i = m := by have := hK'.out; omega
            rw [hx'.out] at hxi
            rw [hK'.out, hy'.out] at hyi
            cases hxi
            cases hyi
            unfold RlR
            have h2 := of_decide_eq_false hE'.out
            have h3 := hz'.out
            simp only
            omega
        case measure => simp [RowKit.intOf]; omega
    · have hlt' : decide ((k : Int) < n) = false := decide_eq_false (by omega)
      obtain rfl : b = true := hb'.out.2 (rel_chain RlR.tr fun i x y hx hy => hq.out i x y (by have := (List.getElem?_eq_some_iff.1 hy).1; have := hrl.out; omega) hx hy)
      go_wp2
      go_ret
      exact ⟨rfl, hd.out⟩

set_option maxRecDepth 100000 in
set_option maxHeartbeats 1000000 in
theorem keyK_any (t id p : Int) (w : World) :
    Calls Try.prog 83 #[.agg #[.int .i64 t, .int .u16 id, .int .i64 p]] w (fun e w' => e = .returned (.agg #[.int .i64 t, .int .u16 id]) ∧ Below w.heap.size w w') := by
  obtain ⟨W, hW⟩ : ∃ W, (w.alloc (.cells #[.int .i64 t, .int .u16 id, .int .i64 p] 64)).alloc (.cells #[.int .i64 0, .int .u16 0] 28) = W := ⟨_, rfl⟩
  have hbx := Lib.hid (two_rows (xs := [.int .i64 t, .int .u16 id, .int .i64 p]) (ys := [.int .i64 0, .int .u16 0]) hW)
  have hs1 := sizeKey t id
  have k0 : Hid (∀ j x, ([.int .i64 t, .int .u16 id] : List Value)[j]? = some x → W.cell? ((⟨w.heap.size, 0, none⟩ : Addr).add j) = some x) := fun j x hj => hbx.out.2.1.boxed j x (by match j, hj with | 0, hj => exact hj | 1, hj => exact hj | j + 2, hj => simp at hj)
  have br := Lib.hid hbx.out.2.2.1
  go_enter Try.func83, Try.ntmps83
  go_wp2_with (first
    | (with_reducible refine wpList_load_at rfl 28 (.tmp 3) rfl Try.underlying28 rfl hs1 rfl k0.out ?_)
    | ((with_reducible refine wpList_store_at rfl 28 (.tmp 2) (.tmp 4) rfl (o := 0) (vs := [.int .i64 t, .int .u16 id]) rfl rfl br.out hs1 (Nat.le_refl _) (key_one t id) ?_)
       intro w9 h9 hg9
       have q9 := Lib.hid h9
       have hg9' := Lib.hid hg9
       clear h9 hg9))
  have s9 : RowV 28 w9 (w.heap.size + 1) [.int .i64 t, .int .u16 id] := q9.out
  have m90 := s9.cell 0
  have m91 := s9.cell 1
  simp only [List.getElem?_cons_zero, List.getElem?_cons_succ] at m90 m91
  refine bodyPost_ret (v := .agg #[.int .i64 t, .int .u16 id]) (by simp [results, Try.results83, go_sem, m90, m91]) rfl ?_
  exact ⟨rfl, Gr.below hg9'.out hbx.out.1 (by omega)⟩

set_option maxRecDepth 100000 in
set_option maxHeartbeats 4000000 in
theorem ascK_any (q : Option Addr) (n c : Nat) (L : List KidD) (b : Bool) (hb : b = true ↔ L.Pairwise RlK) (w : World) (hr : KidsOn w q n c L) :
    Calls Try.prog 82 #[.slice q n c, .func (.func 83) #[] #[]] w (fun e w' => e = .returned (.bool b) ∧ Below w.heap.size w w') := by
  have hrr := Lib.hid hr
  have hrl := Lib.hid hr.len
  have hb' := Lib.hid hb
  have hrm := Nat.le_trans hr.le hr.cap
  unfold maxLen at hrm
  clear hr hb
  go_enter Try.func82, Try.ntmps82
  go_wp2
  go_loopw [5] (fun v5 wr => ∃ k : Nat, (k = 1 ∨ k ≤ n) ∧ 1 ≤ k ∧ v5 = .int .i64 k ∧ Hid (Below w.heap.size w wr) ∧ Hid (∀ (i : Nat) (x y : KidD), i + 1 < k → L[i]? = some x → L[i + 1]? = some y → RlK x y)) (fun v5 _ => n + 1 - (RowKit.intOf v5).toNat)
  case atStart => exact ⟨1, .inl rfl, Nat.le_refl _, rfl, (show Below _ _ _ from Below.refl _ _), fun i x y hi => by omega⟩
  case round =>
    obtain ⟨k, hk, hk1, rfl, hd, hq⟩ := hrel
    by_cases hlt : k < n
    · obtain ⟨m, rfl⟩ : ∃ m, k = m + 1 := ⟨k - 1, by omega⟩
      obtain ⟨K, hK⟩ : ∃ K, m + 1 = K := ⟨_, rfl⟩
      rw [hK] at hq hk1 hk hlt ⊢
      have hmn : m < n := by omega
      obtain ⟨A, ⟨⟨t, id⟩, p⟩, hqA, hx, hok, hcA⟩ := (hrr.out.below hd.out (Nat.le_refl _)).at hmn
      subst hqA
      obtain ⟨A', ⟨⟨t2, id2⟩, p2⟩, hqB, hy, hok2, hcB⟩ := (hrr.out.below hd.out (Nat.le_refl _)).at hlt
      obtain rfl : A = A' := by cases hqB; rfl
      have hcA : Hid (∀ j x, ([.int .i64 t, .int .u16 id, .int .i64 p] : List Value)[j]? = some x → wr.cell? ((A.add (m * 3)).add j) = some x) := hcA
      have hcB : Hid (∀ j x, ([.int .i64 t2, .int .u16 id2, .int .i64 p2] : List Value)[j]? = some x → wr.cell? ((A.add (K * 3)).add j) = some x) := hcB
      have hs1 := sizeKid t id p
      have hs2 := sizeKid t2 id2 p2
      have hx' := Lib.hid hx
      have hy' := Lib.hid hy
      have hK' := Lib.hid hK
      have i0 : (0 : Int) ≤ m := by omega
      have i1 : (m : Int) < n := by omega
      have i2 : (0 : Int) ≤ K := by omega
      have i3 : (K : Int) < n := by omega
      have e1 : IntKind.i64.wrap ((K : Int) - 1) = (m : Int) := by rw [IntWalk.i64_in _ (by omega)]; omega
      obtain ⟨z, hz⟩ : ∃ z, cmpK ⟨t, id⟩ ⟨t2, id2⟩ = z := ⟨_, rfl⟩
      have hcm := Lib.hid (fun u => compare_any ⟨t, id⟩ ⟨t2, id2⟩ u)
      rw [hz] at hcm
      obtain ⟨E, hE⟩ : ∃ E, decide ((0 : Int) ≤ z) = E := ⟨_, rfl⟩
      have hE' := Lib.hid hE
      have hz' := Lib.hid hz
      clear hx hy hok hok2 hqB hz
      go_wp2_with fail
      refine wp_region_held (S := fun u => Below wr.heap.size wr u) (by kernel_rfl) ?_
      change wpAnyH _ _ _ _ _ _ _ _ (World.drew wr)
      refine wpF.held _ _ _ ?_ _ (below_drew wr)
      refine fx (i := 0) (dst := some 12) (v := .func (.func 83) #[] #[]) rfl rfl (fx_read (fun u hu => by go_simp)) ?_; go_frame
      refine fx (i := 1) (dst := some 13) (v := .slice (some A) n c) rfl rfl (fx_read (fun u hu => by go_simp)) ?_; go_frame
      refine fx (i := 2) (dst := some 14) (v := .int .i64 (K : Int)) rfl rfl (fx_read (fun u hu => by go_simp)) ?_; go_frame
      refine fx (i := 3) (dst := some 15) (v := .int .i64 (m : Int)) rfl rfl (fx_read (fun u hu => by go_simp)) ?_; go_frame
      refine fx (i := 4) (dst := some 16) (v := .pointer (some (A.add (m * 3)))) rfl rfl (fx_read (fun u hu => by go_simp)) ?_; go_frame
      refine fx (i := 5) (dst := some 17) (v := .agg #[.int .i64 t, .int .u16 id, .int .i64 p]) rfl rfl (fx_load 64 (.tmp 16) (fun u hu => run_loadVar_at Try.underlying64 rfl hs1 _ (fun j x hj => cell_keeps hu (Nat.le_refl _) (hcA.out j x hj)))) ?_; go_frame
      refine fx (i := 6) (dst := some 18) (v := .agg #[.int .i64 t, .int .u16 id]) rfl rfl (fx_call (fun u hu => (keyK_any t id p u).mono fun e y h => ⟨h.1, below_step h.2 hu⟩)) ?_; go_frame
      refine fx (i := 7) (dst := some 19) (v := .func (.func 83) #[] #[]) rfl rfl (fx_read (fun u hu => by go_simp)) ?_; go_frame
      refine fx (i := 8) (dst := some 20) (v := .slice (some A) n c) rfl rfl (fx_read (fun u hu => by go_simp)) ?_; go_frame
      refine fx (i := 9) (dst := some 21) (v := .int .i64 (K : Int)) rfl rfl (fx_read (fun u hu => by go_simp)) ?_; go_frame
      refine fx (i := 10) (dst := some 22) (v := .pointer (some (A.add (K * 3)))) rfl rfl (fx_read (fun u hu => by go_simp)) ?_; go_frame
      refine fx (i := 11) (dst := some 23) (v := .agg #[.int .i64 t2, .int .u16 id2, .int .i64 p2]) rfl rfl (fx_load 64 (.tmp 22) (fun u hu => run_loadVar_at Try.underlying64 rfl hs2 _ (fun j x hj => cell_keeps hu (Nat.le_refl _) (hcB.out j x hj)))) ?_; go_frame
      refine fx (i := 12) (dst := some 24) (v := .agg #[.int .i64 t2, .int .u16 id2]) rfl rfl (fx_call (fun u hu => (keyK_any t2 id2 p2 u).mono fun e y h => ⟨h.1, below_step h.2 hu⟩)) ?_; go_frame
      refine fx (i := 13) (dst := some 25) (v := .int .i64 z) rfl rfl (fx_call (fun u hu => (hcm.out u).mono fun e y h => ⟨h.1, below_step h.2 hu⟩)) ?_; go_frame
      refine fx (i := 14) (dst := some 26) (v := .bool E) rfl rfl (fx_read (fun u hu => by go_simp)) ?_; go_frame
      refine fx_done (fun w2 hu => ?_) (by kernel_rfl) _
      have hd2 := Lib.hid (below_step hu hd.out)
      clear hu hcA hcB hcm hs1 hs2 e1 hE
      cases E with
      | true =>
        obtain rfl : b = false := by
          cases b with
          | false => rfl
          | true =>
            have h1 := chain_rel (hb'.out.1 rfl) (show m < K by have := hK'.out; omega) hx'.out hy'.out
            unfold RlK at h1
            have h2 := of_decide_eq_true hE'.out
            have h3 := hz'.out
            simp only at h1
            omega
        go_wp2
        go_ret
        exact ⟨rfl, hd2.out⟩
      | false =>
        go_wp2
        go_roundw
        case rel =>
          refine ⟨K + 1, .inr (by omega), by omega, by go_num, hd2, fun i x y hi hxi hyi => ?_⟩
          rcases Nat.lt_or_ge (i + 1) K with h | h
          · exact hq.out i x y h hxi hyi
          · obtain rfl : i = m := by have := hK'.out; omega
            rw [hx'.out] at hxi
            rw [hK'.out, hy'.out] at hyi
            cases hxi
            cases hyi
            unfold RlK
            have h2 := of_decide_eq_false hE'.out
            have h3 := hz'.out
            simp only
            omega
        case measure => simp [RowKit.intOf]; omega
    · have hlt' : decide ((k : Int) < n) = false := decide_eq_false (by omega)
      obtain rfl : b = true := hb'.out.2 (rel_chain RlK.tr fun i x y hx hy => hq.out i x y (by have := (List.getElem?_eq_some_iff.1 hy).1; have := hrl.out; omega) hx hy)
      go_wp2
      go_ret
      exact ⟨rfl, hd.out⟩

set_option maxRecDepth 100000 in
set_option maxHeartbeats 4000000 in
theorem rises_any (v : CV) (c : ContD) (b : Bool) (hb : b = true ↔ RiseC c) (w : World) (h : v.On w c) :
    Calls Try.prog 58 #[v.val] w (fun e w' => e = .returned (.bool b) ∧ Below w.heap.size w w') := by
  obtain ⟨b1, hb1⟩ := bool_of (c.rows.Pairwise RlR)
  obtain ⟨b2, hb2⟩ := bool_of (c.kids.Pairwise RlK)
  have hA := Lib.hid (fun u (hu : Below w.heap.size w u) => ascR_any v.rq v.rn v.rc c.rows b1 hb1 u ((h.below hu (Nat.le_refl _)).rows))
  have hB := Lib.hid (fun u (hu : Below w.heap.size w u) => ascK_any v.kq v.kn v.kc c.kids b2 hb2 u ((h.below hu (Nat.le_refl _)).kids))
  have hbb : Hid (b = true ↔ b1 = true ∧ b2 = true) := by show _ ↔ _; rw [hb, hb1, hb2]; rfl
  obtain ⟨k, rq, rn, rc, kq, kn, kc⟩ := v
  obtain ⟨W, hW⟩ : ∃ W, w.alloc (.cells #[.int .i64 k, .slice rq rn rc, .slice kq kn kc] 25) = W := ⟨_, rfl⟩
  have hbx := Lib.hid (one_box (xs := [.int .i64 k, .slice rq rn rc, .slice kq kn kc]) hW)
  have c1 := hbx.out.2.1.cell 1 rfl
  simp only at hA hB
  clear h hb hb1 hb2
  show Calls _ _ #[.agg #[.int .i64 k, .slice rq rn rc, .slice kq kn kc]] _ _
  go_enter Try.func58, Try.ntmps58
  cases b1 with
  | false =>
    obtain rfl : b = false := by
      cases b with
      | false => rfl
      | true => exact absurd (hbb.out.1 rfl).1 (by decide)
    clear hB
    go_wp2_with (first
      | (go_at_call 80; refine (hA.out _ hbx.out.1).mono ?_; rintro e w1 ⟨rfl, hb1⟩; have hd := Lib.hid (below_step hb1 hbx.out.1); clear hb1))
    go_ret
    exact ⟨rfl, hd.out⟩
  | true =>
    obtain rfl : b2 = b := by
      cases b2 with
      | true => exact (hbb.out.2 ⟨rfl, rfl⟩).symm
      | false =>
        cases b with
        | false => rfl
        | true => exact absurd (hbb.out.1 rfl).2 (by decide)
    go_wp2_with (first
      | (go_at_call 80; refine (hA.out _ hbx.out.1).mono ?_; rintro e w1 ⟨rfl, hb1⟩; have hd := Lib.hid (below_step hb1 hbx.out.1); have c2 := (hbx.out.2.1.below hb1 (Nat.le_refl _)).cell 2 rfl; clear hb1)
      | (go_at_call 82; refine (hB.out _ hd.out).mono ?_; rintro e w2 ⟨rfl, hb2⟩; have hd2 := Lib.hid (below_step hb2 hd.out); clear hb2))
    go_ret
    exact ⟨rfl, hd2.out⟩

set_option maxRecDepth 100000 in
set_option maxHeartbeats 1000000 in
theorem taken2_any (t id a p : Int) (b : Nat) (w : World) (hc : w.cell? ⟨b, 2, none⟩ = some (.int .i64 p)) :
    Calls Try.prog 85 #[.agg #[.int .i64 t, .int .u16 id, .int .i64 a], .pointer (some ⟨b, 0, none⟩)] w (fun e w' => e = .returned (.bool (a == p)) ∧ Below w.heap.size w w') := by
  have hb := cell_in hc
  have hb2 : b < w.heap.size := hb
  have hd : Hid (Below w.heap.size w (w.alloc (.cells #[.int .i64 t, .int .u16 id, .int .i64 a] 64))) := (Below.refl _ _).alloc (Nat.le_refl _) _
  clear hb
  obtain ⟨W, hW⟩ : ∃ W, w.alloc (.cells #[.int .i64 t, .int .u16 id, .int .i64 a] 64) = W := ⟨_, rfl⟩
  have hbx := Lib.hid (one_box (xs := [.int .i64 t, .int .u16 id, .int .i64 a]) hW)
  have c2 := hbx.out.2.1.cell 2 rfl
  have d2 := cell_keeps hbx.out.1 (Nat.le_refl _) hc
  clear hc
  by_cases h : a = p
  · rw [show (a == p) = true by simpa using h]
    subst h
    go_enter Try.func85, Try.ntmps85
    go_wp2
    go_ret
    exact ⟨rfl, hbx.out.1⟩
  · have h2 : (a == p) = false := by simpa using h
    rw [h2]
    go_enter Try.func85, Try.ntmps85
    go_wp2
    go_ret
    exact ⟨rfl, hbx.out.1⟩

set_option maxRecDepth 100000 in
set_option maxHeartbeats 2000000 in
theorem index2_any (q : Option Addr) (n c : Nat) (L : List KidD) (p : Int) (b : Nat) (w : World) (hr : KidsOn w q n c L) (hc : w.cell? ⟨b, 2, none⟩ = some (.int .i64 p)) :
    Calls Try.prog 96 #[.slice q n c, .func (.func 85) #[] #[.pointer (some ⟨b, 0, none⟩)]] w (IdxPost w (hasP L p)) := by
  have hrr := Lib.hid hr
  have hm := Nat.le_trans hr.le hr.cap
  unfold maxLen at hm
  have hcc := Lib.hid hc
  have hT : Hid (∀ (i : Nat) (x : KidD), L[i]? = some x → x.page = p → hasP L p = true) := fun i x hx h => hasP_true hx h
  have hF : Hid ((∀ (i : Nat) (x : KidD), L[i]? = some x → x.page ≠ p) → hasP L p = false) := fun h => hasP_false h
  obtain ⟨E, hE⟩ : ∃ E, hasP L p = E := ⟨_, rfl⟩
  rw [hE] at hT hF ⊢
  clear hr hc hE
  go_enter Try.func96, Try.ntmps96
  go_wp2
  go_loopw [8] (fun v8 wr => ∃ k : Nat, k ≤ n ∧ v8 = .int .i64 k ∧ Hid (Below w.heap.size w wr) ∧ Hid (∀ (i : Nat) (x : KidD), i < k → L[i]? = some x → x.page ≠ p)) (fun v8 _ => n - (RowKit.intOf v8).toNat)
  case atStart => exact ⟨0, Nat.zero_le _, rfl, (show Below _ _ _ from Below.refl _ _), fun i x hi => by omega⟩
  case round =>
    obtain ⟨k, hk, rfl, hb, hp⟩ := hrel
    by_cases hlt : k < n
    · obtain ⟨A, ⟨⟨pt, pid⟩, pp⟩, hqA, hx, hok, hcA⟩ := (hrr.out.below hb.out (Nat.le_refl _)).at hlt
      subst hqA
      have hcell : Hid (∀ j x, ([.int .i64 pt, .int .u16 pid, .int .i64 pp] : List Value)[j]? = some x → wr.cell? ((A.add (k * 3)).add j) = some x) := hcA
      have hs2 := sizeKid pt pid pp
      have hx' := Lib.hid hx
      have htk := Lib.hid (taken2_any pt pid pp p b wr (cell_keeps hb.out (Nat.le_refl _) hcc.out))
      have i0 : (0 : Int) ≤ k := by omega
      have i1 : (k : Int) < n := by omega
      clear hx hok hcA
      by_cases h : pp = p
      · rw [show (pp == p) = true by simpa using h] at htk
        have h' := Lib.hid h
        clear h
        go_wp2_with (first
          | (with_reducible refine wpList_load_at rfl 64 (.tmp 14) rfl Try.underlying64 rfl hs2 rfl hcell.out ?_))
        refine htk.out.mono ?_
        clear htk
        rintro e w1 ⟨rfl, hb1⟩
        have hd := Lib.hid (hb.out.trans (hb1.mono hb.out.size))
        clear hb1
        go_wp2
        go_ret
        exact ⟨_, rfl, .inl ⟨i0, hT.out k _ hx'.out h'.out⟩, hd.out⟩
      · rw [show (pp == p) = false by simpa using h] at htk
        have h' := Lib.hid h
        clear h
        go_wp2_with (first
          | (with_reducible refine wpList_load_at rfl 64 (.tmp 14) rfl Try.underlying64 rfl hs2 rfl hcell.out ?_))
        refine htk.out.mono ?_
        clear htk
        rintro e w1 ⟨rfl, hb1⟩
        have hd := Lib.hid (hb.out.trans (hb1.mono hb.out.size))
        clear hb1
        go_wp2
        go_roundw
        case rel =>
          refine ⟨k + 1, by omega, by go_num, hd, fun i x hi hxi => ?_⟩
          rcases Nat.lt_or_ge i k with h | h
          · exact hp.out i x h hxi
          · obtain rfl : i = k := by omega
            rw [hx'.out] at hxi
            cases hxi
            exact h'.out
        case measure => simp [RowKit.intOf]; omega
    · obtain rfl : n = k := by omega
      have hno := Lib.hid (hF.out fun i x hx => hp.out i x (by have := (List.getElem?_eq_some_iff.1 hx).1; rw [hrr.out.len] at this; exact this) hx)
      go_wp2
      go_ret
      exact ⟨-1, rfl, .inr ⟨rfl, hno.out⟩, hb.out⟩

set_option maxRecDepth 100000 in
set_option maxHeartbeats 1000000 in
theorem contains2_any (q : Option Addr) (n c : Nat) (L : List KidD) (p : Int) (b : Nat) (w : World) (hr : KidsOn w q n c L) (hc : w.cell? ⟨b, 2, none⟩ = some (.int .i64 p)) :
    Calls Try.prog 84 #[.slice q n c, .func (.func 85) #[] #[.pointer (some ⟨b, 0, none⟩)]] w (fun e w' => e = .returned (.bool (hasP L p)) ∧ Below w.heap.size w w') := by
  have hi := index2_any q n c L p b w hr hc
  obtain ⟨E, hE⟩ : ∃ E, hasP L p = E := ⟨_, rfl⟩
  rw [hE] at hi ⊢
  have hi' := Lib.hid hi
  clear hi hE hc hr
  go_enter Try.func84, Try.ntmps84
  go_wp2_with fail
  refine hi'.out.mono ?_
  clear hi'
  rintro e w1 ⟨z, rfl, hz, hb1⟩
  have hb1' := Lib.hid hb1
  clear hb1
  rcases hz with ⟨h0, rfl⟩ | ⟨rfl, rfl⟩
  · go_wp2
    go_ret
    exact ⟨rfl, hb1'.out⟩
  · go_wp2
    go_ret
    exact ⟨rfl, hb1'.out⟩

theorem nodup_take {L : List KidD} (h : ∀ (i : Nat) x, L[i]? = some x → hasP (L.take i) x.page = false) : (L.map (·.page)).Nodup := by
  unfold List.Nodup
  rw [List.pairwise_map, List.pairwise_iff_getElem]
  intro i j hi hj hij
  refine hasP_iff.1 (h j _ (List.getElem?_eq_getElem hj)) L[i] ?_
  exact List.mem_iff_getElem?.2 ⟨i, by rw [List.getElem?_take_of_lt hij]; exact List.getElem?_eq_getElem hi⟩
theorem take_nodup {L : List KidD} (h : (L.map (·.page)).Nodup) {i : Nat} {x : KidD} (hx : L[i]? = some x) : hasP (L.take i) x.page = false := by
  refine hasP_iff.2 fun y hy e => ?_
  unfold List.Nodup at h
  rw [List.pairwise_map, List.pairwise_iff_getElem] at h
  obtain ⟨j, hj⟩ := List.mem_iff_getElem?.1 hy
  have hji : j < i := by
    have := (List.getElem?_eq_some_iff.1 hj).1
    rw [List.length_take] at this
    omega
  rw [List.getElem?_take_of_lt hji] at hj
  obtain ⟨lj, rfl⟩ := List.getElem?_eq_some_iff.1 hj
  obtain ⟨li, rfl⟩ := List.getElem?_eq_some_iff.1 hx
  exact h j i lj li hji e
set_option maxRecDepth 100000 in
set_option maxHeartbeats 4000000 in
theorem apart_any (v : CV) (c : ContD) (b : Bool) (hb : b = true ↔ ApartC c) (w : World) (h : v.On w c) :
    Calls Try.prog 59 #[v.val] w (fun e w' => e = .returned (.bool b) ∧ Below w.heap.size w w') := by
  have hk := Lib.hid (fun u (hu : Below w.heap.size w u) => (h.below hu (Nat.le_refl _)).kids)
  have hkl := Lib.hid h.kl
  have hb' := Lib.hid hb
  have hm := h.sm.2
  unfold maxLen at hm
  obtain ⟨k, rq, rn, rc, kq, kn, kc⟩ := v
  simp only at hk hkl hm
  obtain ⟨W, hW⟩ : ∃ W, w.alloc (.cells #[.int .i64 k, .slice rq rn rc, .slice kq kn kc] 25) = W := ⟨_, rfl⟩
  have hbx := Lib.hid (one_box (xs := [.int .i64 k, .slice rq rn rc, .slice kq kn kc]) hW)
  have c2 := hbx.out.2.1.cell 2 rfl
  clear h hb
  show Calls _ _ #[.agg #[.int .i64 k, .slice rq rn rc, .slice kq kn kc]] _ _
  go_enter Try.func59, Try.ntmps59
  go_wp2
  go_loopw [8] (fun v8 wr => ∃ j : Nat, j ≤ kn ∧ v8 = .int .i64 j ∧ Hid (Below W.heap.size W wr) ∧ Hid (∀ (i : Nat) x, i < j → c.kids[i]? = some x → hasP (c.kids.take i) x.page = false)) (fun v8 _ => kn - (RowKit.intOf v8).toNat)
  case atStart => exact ⟨0, Nat.zero_le _, rfl, (show Below _ _ _ from Below.refl _ _), fun i x hi => by omega⟩
  case round =>
    obtain ⟨j, hj, rfl, hd, hq⟩ := hrel
    have hdw := Lib.hid (below_step hd.out hbx.out.1)
    by_cases hlt : j < kn
    · obtain ⟨A, ⟨⟨t, id⟩, p⟩, hqA, hx, hok, hcA⟩ := (hk.out wr hdw.out).at hlt
      subst hqA
      have hcA : Hid (∀ j' x, ([.int .i64 t, .int .u16 id, .int .i64 p] : List Value)[j']? = some x → wr.cell? ((A.add (j * 3)).add j') = some x) := hcA
      have hs1 := sizeKid t id p
      have hx' := Lib.hid hx
      have i0 : (0 : Int) ≤ j := by omega
      have i1 : (j : Int) < kn := by omega
      have i2 : (j : Int) ≤ kn := by omega
      have i3 : (j : Int) ≤ kc := by have := (hk.out wr hdw.out).le; omega
      obtain ⟨w2, hw2⟩ : ∃ w2, wr.alloc (.cells #[.int .i64 t, .int .u16 id, .int .i64 p] 64) = w2 := ⟨_, rfl⟩
      have hbk := Lib.hid (one_box (xs := [.int .i64 t, .int .u16 id, .int .i64 p]) hw2)
      have hd2 := Lib.hid (below_step hbk.out.1 hd.out)
      have hdw2 := Lib.hid (below_step hd2.out hbx.out.1)
      obtain ⟨E, hE⟩ : ∃ E, hasP (c.kids.take j) p = E := ⟨_, rfl⟩
      have hcn := Lib.hid (contains2_any (some A) j kc (c.kids.take j) p wr.heap.size w2 ((hk.out w2 hdw2.out).front (Nat.le_of_lt hlt)) (hbk.out.2.1.cell 2 rfl))
      rw [hE] at hcn
      have hE' := Lib.hid hE
      have d2 := (hbx.out.2.1.below hd2.out (Nat.le_refl _)).cell 2 rfl
      clear hx hok hE c2
      go_wp2_with (first
        | (with_reducible refine wpList_load_at rfl 64 (.tmp 11) rfl Try.underlying64 rfl hs1 rfl hcA.out ?_))
      refine hcn.out.mono ?_
      clear hcn hw2 d2
      rintro e w3 ⟨rfl, hb3⟩
      have hd3 := Lib.hid (below_step hb3 hd2.out)
      clear hb3
      cases E with
      | true =>
        obtain rfl : b = false := by
          cases b with
          | false => rfl
          | true => exact absurd (take_nodup (hb'.out.1 rfl) hx'.out) (by rw [hE'.out]; decide)
        go_wp2
        go_ret
        exact ⟨rfl, below_step hd3.out hbx.out.1⟩
      | false =>
        go_wp2
        go_roundw
        case rel =>
          refine ⟨j + 1, by omega, by go_num, hd3, fun i x hi hxi => ?_⟩
          rcases Nat.lt_or_ge i j with h | h
          · exact hq.out i x h hxi
          · obtain rfl : i = j := by omega
            rw [hx'.out] at hxi
            cases hxi
            exact hE'.out
        case measure => simp [RowKit.intOf]; omega
    · obtain rfl : kn = j := by omega
      obtain rfl : b = true := hb'.out.2 (nodup_take fun i x hx => hq.out i x (by have := (List.getElem?_eq_some_iff.1 hx).1; have := hkl.out; omega) hx)
      go_wp2
      go_ret
      exact ⟨rfl, hdw.out⟩

abbrev longV (g : Nat) : Value := .func (.func 79) #[] #[.pointer (some ⟨g, 0, none⟩)]
theorem longer_any (n : Int) (w : World) :
    Calls Try.prog 57 #[.int .i64 n] w (fun e w' => e = .returned (longV w.heap.size) ∧ w'.cell? ⟨w.heap.size, 0, none⟩ = some (.int .i64 n) ∧ Below w.heap.size w w') := by
  obtain ⟨W, hW⟩ : ∃ W, w.alloc (.cells #[.int .i64 n] 3) = W := ⟨_, rfl⟩
  have hbx := Lib.hid (one_box (xs := [.int .i64 n]) hW)
  go_enter Try.func57, Try.ntmps57
  go_wp2
  go_ret
  exact ⟨rfl, hbx.out.2.1.cell 0 rfl, hbx.out.1⟩
set_option maxRecDepth 100000 in
set_option maxHeartbeats 4000000 in
theorem long1_any (v : CV) (c : ContD) (n : Int) (g : Nat) (b : Bool) (hb : b = true ↔ n < (sizeC c : Nat)) (w : World) (h : v.On w c) (hsm : sizeC c ≤ 1000000) (hc : w.cell? ⟨g, 0, none⟩ = some (.int .i64 n)) :
    Calls Try.prog 79 #[v.val, .pointer (some ⟨g, 0, none⟩)] w (fun e w' => e = .returned (.bool b) ∧ Below w.heap.size w w') := by
  have hz := Lib.hid (fun u (hu : Below w.heap.size w u) => psize_any v c u (h.below hu (Nat.le_refl _)) hsm)
  obtain ⟨s, hs⟩ : ∃ s, sizeC c = s := ⟨_, rfl⟩
  rw [hs] at hz hb
  have hbe : decide (n < (s : Int)) = b := by cases b <;> simp_all
  obtain ⟨k, rq, rn, rc, kq, kn, kc⟩ := v
  obtain ⟨W, hW⟩ : ∃ W, w.alloc (.cells #[.int .i64 k, .slice rq rn rc, .slice kq kn kc] 25) = W := ⟨_, rfl⟩
  have hbx := Lib.hid (one_box (xs := [.int .i64 k, .slice rq rn rc, .slice kq kn kc]) hW)
  have hsz := sizeCont (.int .i64 k) (.slice rq rn rc) (.slice kq kn kc)
  have hcc := Lib.hid hc
  clear h hs hb hc hsm
  show Calls _ _ #[.agg #[.int .i64 k, .slice rq rn rc, .slice kq kn kc], .pointer (some ⟨g, 0, none⟩)] _ _
  go_enter Try.func79, Try.ntmps79
  go_wp2_with fail
  refine wp_region_held (S := fun u => Below W.heap.size W u) (by kernel_rfl) ?_
  change wpAnyH _ _ _ _ _ _ _ _ (World.drew W)
  refine wpF.held _ _ _ ?_ _ (below_drew W)
  refine fx (i := 0) (dst := some 4) (v := .agg #[.int .i64 k, .slice rq rn rc, .slice kq kn kc]) rfl rfl (fx_load 25 (.tmp 2) (fun u hu => run_loadVar_at Try.underlying25 rfl hsz _ (hbx.out.2.1.below hu (Nat.le_refl _)).all)) ?_; go_frame
  refine fx (i := 1) (dst := some 5) (v := .int .i64 (s : Int)) rfl rfl (fx_call (fun u hu => (hz.out u (below_step hu hbx.out.1)).mono fun e y h => ⟨h.1, below_step h.2 hu⟩)) ?_; go_frame
  refine fx (i := 2) (dst := some 6) (v := .int .i64 n) rfl rfl (fx_read (fun u hu => by have c0 := cell_keeps (below_step hu hbx.out.1) (Nat.le_refl _) hcc.out; go_simp)) ?_; go_frame
  refine fx (i := 3) (dst := some 7) (v := .bool b) rfl rfl (fx_read (fun u hu => by go_simp)) ?_; go_frame
  refine fx (i := 4) (dst := some 3) (v := .bool b) rfl rfl (fx_read (fun u hu => by go_simp)) ?_; go_frame
  refine fx_done (fun w2 hu => ?_) (by kernel_rfl) _
  have hd2 := Lib.hid (below_step hu hbx.out.1)
  clear hu
  go_wp2
  go_ret
  exact ⟨rfl, hd2.out⟩

def Come3Post (P : Prop) (v : CV) (w : World) (e : Ending) (w' : World) : Prop := ∃ (u : CV) (x : Int), e = .returned (.tuple #[u.val, .int .i64 x]) ∧ ((P ∧ u = v ∧ x = 0) ∨ (¬ P ∧ u = zV ∧ x = 2)) ∧ Below w.heap.size w w'
set_option maxRecDepth 100000 in
set_option maxHeartbeats 8000000 in
theorem come3_any (v : CV) (c : ContD) (n : Int) (g b : Nat) (w : World) (h : v.On w c) (hsm : sizeC c ≤ 1000000) (hc : w.cell? ⟨g, 0, none⟩ = some (.int .i64 n)) (h0 : w.cell? ⟨b, 0, none⟩ = some (longV g)) (h1 : w.cell? ⟨b, 1, none⟩ = some (.func (.func 58) #[] #[])) (h2 : w.cell? ⟨b, 2, none⟩ = some (.func (.func 59) #[] #[])) :
    Calls Try.prog 55 #[v.val, .slice (some ⟨b, 0, none⟩) 3 3] w (Come3Post (n < (sizeC c : Nat) ∧ RiseC c ∧ ApartC c) v w) := by
  obtain ⟨b0, hb0⟩ := bool_of (n < (sizeC c : Nat))
  obtain ⟨b1, hb1⟩ := bool_of (RiseC c)
  obtain ⟨b2, hb2⟩ := bool_of (ApartC c)
  have hL := Lib.hid (fun u (hu : Below w.heap.size w u) => long1_any v c n g b0 hb0 u (h.below hu (Nat.le_refl _)) hsm (cell_keeps hu (Nat.le_refl _) hc))
  have hR := Lib.hid (fun u (hu : Below w.heap.size w u) => rises_any v c b1 hb1 u (h.below hu (Nat.le_refl _)))
  have hA := Lib.hid (fun u (hu : Below w.heap.size w u) => apart_any v c b2 hb2 u (h.below hu (Nat.le_refl _)))
  obtain ⟨P, hP⟩ : ∃ P, (n < (sizeC c : Nat) ∧ RiseC c ∧ ApartC c) = P := ⟨_, rfl⟩
  have hPb : Hid (P ↔ b0 = true ∧ b1 = true ∧ b2 = true) := by show _ ↔ _; rw [← hP, hb0, hb1, hb2]
  rw [hP]
  obtain ⟨k, rq, rn, rc, kq, kn, kc⟩ := v
  obtain ⟨W, hW⟩ : ∃ W, (w.alloc (.cells #[.int .i64 k, .slice rq rn rc, .slice kq kn kc] 25)).alloc (.cells #[.int .i64 0, .slice none 0 0, .slice none 0 0] 25) = W := ⟨_, rfl⟩
  have hbx := Lib.hid (two_rows (xs := [.int .i64 k, .slice rq rn rc, .slice kq kn kc]) (ys := [.int .i64 0, .slice none 0 0, .slice none 0 0]) hW)
  have hs := sizeCont (.int .i64 k) (.slice rq rn rc) (.slice kq kn kc)
  have hz := sizeCont (.int .i64 0) (.slice none 0 0) (.slice none 0 0)
  have hn0 := Lib.hid h0
  have hn1 := Lib.hid h1
  have hn2 := Lib.hid h2
  have hw1 : Hid (w.heap.size ≤ w.heap.size + 1) := Nat.le_succ _
  clear h hb0 hb1 hb2 hP hc h0 h1 h2 hsm
  show Calls _ _ #[.agg #[.int .i64 k, .slice rq rn rc, .slice kq kn kc], .slice (some ⟨b, 0, none⟩) 3 3] _ _
  go_enter Try.func55, Try.ntmps55
  go_wp2
  go_loopw [10] (fun v10 wr => ∃ j : Int, v10 = .int .i64 j ∧ Hid (Below W.heap.size W wr) ∧ (j = 0 ∨ (j = 1 ∧ b0 = true) ∨ (j = 2 ∧ b0 = true ∧ b1 = true) ∨ (j = 3 ∧ b0 = true ∧ b1 = true ∧ b2 = true))) (fun v10 _ => 3 - (RowKit.intOf v10).toNat)
  case atStart => exact ⟨0, rfl, (show Below _ _ _ from Below.refl _ _), .inl rfl⟩
  case round =>
    obtain ⟨j, rfl, hbr, hj⟩ := hrel
    have hdr := Lib.hid (below_step hbr.out hbx.out.1)
    have bx := Lib.hid ((hbx.out.2.1.below hbr.out).boxed)
    have br := Lib.hid (hbx.out.2.2.1.below hbr.out)
    rcases hj with rfl | ⟨rfl, rfl⟩ | ⟨rfl, rfl, rfl⟩ | ⟨rfl, rfl, rfl, rfl⟩
    · have cb := cell_keeps hdr.out (Nat.le_refl _) hn0.out
      go_wp2_with (first
        | (with_reducible refine wpList_load_at rfl 25 (.tmp 2) rfl Try.underlying25 rfl hs rfl bx.out.all ?_))
      refine (hL.out wr hdr.out).mono ?_
      clear cb
      rintro e w1 ⟨rfl, hb1⟩
      have hd1 := Lib.hid (below_step hb1 hdr.out)
      have hc1 := Lib.hid (below_step hb1 hbr.out)
      have br1 := Lib.hid (br.out.below hb1)
      clear hb1 hL hR hA
      cases b0 with
      | false =>
        have hn : Hid (¬ P) := fun h => by have := hPb.out.1 h; simp at this
        go_wp2_with (first
          | ((with_reducible refine wpList_store_at rfl 25 (.tmp 4) (.tmp 18) rfl (o := 0) (vs := [.int .i64 0, .slice none 0 0, .slice none 0 0]) rfl rfl br1.out hz (Nat.le_refl _) (cont_one _ _ _ _ _ _ _) ?_)
             intro w9 h9 hg9
             have q9 := Lib.hid h9
             have hg9' := Lib.hid hg9
             clear h9 hg9))
        have s9 : RowV 25 w9 (w.heap.size + 1) [.int .i64 0, .slice none 0 0, .slice none 0 0] := q9.out
        have m90 := s9.cell 0
        have m91 := s9.cell 1
        have m92 := s9.cell 2
        simp only [List.getElem?_cons_zero, List.getElem?_cons_succ] at m90 m91 m92
        refine bodyPost_ret (v := .tuple #[CV.val zV, .int .i64 2]) (by simp [results, Try.results55, go_sem, m90, m91, m92, zV]) rfl ?_
        exact ⟨zV, 2, rfl, .inr ⟨hn.out, rfl, rfl⟩, Gr.below hg9'.out hd1.out hw1.out⟩
      | true =>
        go_wp2
        go_roundw
        case rel => exact ⟨1, by go_num, hc1, .inr (.inl ⟨rfl, by simp⟩)⟩
        case measure => simp [RowKit.intOf]
    · have cb := cell_keeps hdr.out (Nat.le_refl _) hn1.out
      go_wp2_with (first
        | (with_reducible refine wpList_load_at rfl 25 (.tmp 2) rfl Try.underlying25 rfl hs rfl bx.out.all ?_))
      refine (hR.out wr hdr.out).mono ?_
      clear cb
      rintro e w1 ⟨rfl, hb1⟩
      have hd1 := Lib.hid (below_step hb1 hdr.out)
      have hc1 := Lib.hid (below_step hb1 hbr.out)
      have br1 := Lib.hid (br.out.below hb1)
      clear hb1 hL hR hA
      cases b1 with
      | false =>
        have hn : Hid (¬ P) := fun h => by have := hPb.out.1 h; simp at this
        go_wp2_with (first
          | ((with_reducible refine wpList_store_at rfl 25 (.tmp 4) (.tmp 18) rfl (o := 0) (vs := [.int .i64 0, .slice none 0 0, .slice none 0 0]) rfl rfl br1.out hz (Nat.le_refl _) (cont_one _ _ _ _ _ _ _) ?_)
             intro w9 h9 hg9
             have q9 := Lib.hid h9
             have hg9' := Lib.hid hg9
             clear h9 hg9))
        have s9 : RowV 25 w9 (w.heap.size + 1) [.int .i64 0, .slice none 0 0, .slice none 0 0] := q9.out
        have m90 := s9.cell 0
        have m91 := s9.cell 1
        have m92 := s9.cell 2
        simp only [List.getElem?_cons_zero, List.getElem?_cons_succ] at m90 m91 m92
        refine bodyPost_ret (v := .tuple #[CV.val zV, .int .i64 2]) (by simp [results, Try.results55, go_sem, m90, m91, m92, zV]) rfl ?_
        exact ⟨zV, 2, rfl, .inr ⟨hn.out, rfl, rfl⟩, Gr.below hg9'.out hd1.out hw1.out⟩
      | true =>
        go_wp2
        go_roundw
        case rel => exact ⟨2, by go_num, hc1, .inr (.inr (.inl ⟨rfl, by simp, by simp⟩))⟩
        case measure => simp [RowKit.intOf]
    · have cb := cell_keeps hdr.out (Nat.le_refl _) hn2.out
      go_wp2_with (first
        | (with_reducible refine wpList_load_at rfl 25 (.tmp 2) rfl Try.underlying25 rfl hs rfl bx.out.all ?_))
      refine (hA.out wr hdr.out).mono ?_
      clear cb
      rintro e w1 ⟨rfl, hb1⟩
      have hd1 := Lib.hid (below_step hb1 hdr.out)
      have hc1 := Lib.hid (below_step hb1 hbr.out)
      have br1 := Lib.hid (br.out.below hb1)
      clear hb1 hL hR hA
      cases b2 with
      | false =>
        have hn : Hid (¬ P) := fun h => by have := hPb.out.1 h; simp at this
        go_wp2_with (first
          | ((with_reducible refine wpList_store_at rfl 25 (.tmp 4) (.tmp 18) rfl (o := 0) (vs := [.int .i64 0, .slice none 0 0, .slice none 0 0]) rfl rfl br1.out hz (Nat.le_refl _) (cont_one _ _ _ _ _ _ _) ?_)
             intro w9 h9 hg9
             have q9 := Lib.hid h9
             have hg9' := Lib.hid hg9
             clear h9 hg9))
        have s9 : RowV 25 w9 (w.heap.size + 1) [.int .i64 0, .slice none 0 0, .slice none 0 0] := q9.out
        have m90 := s9.cell 0
        have m91 := s9.cell 1
        have m92 := s9.cell 2
        simp only [List.getElem?_cons_zero, List.getElem?_cons_succ] at m90 m91 m92
        refine bodyPost_ret (v := .tuple #[CV.val zV, .int .i64 2]) (by simp [results, Try.results55, go_sem, m90, m91, m92, zV]) rfl ?_
        exact ⟨zV, 2, rfl, .inr ⟨hn.out, rfl, rfl⟩, Gr.below hg9'.out hd1.out hw1.out⟩
      | true =>
        go_wp2
        go_roundw
        case rel => exact ⟨3, by go_num, hc1, .inr (.inr (.inr ⟨rfl, by simp, by simp, by simp⟩))⟩
        case measure => simp [RowKit.intOf]
    · have hG : Hid P := hPb.out.2 ⟨rfl, rfl, rfl⟩
      clear hL hR hA
      go_wp2_with (first
        | (with_reducible refine wpList_load_at rfl 25 (.tmp 2) rfl Try.underlying25 rfl hs rfl bx.out.all ?_)
        | ((with_reducible refine wpList_store_at rfl 25 (.tmp 4) (.tmp 20) rfl (o := 0) (vs := [.int .i64 k, .slice rq rn rc, .slice kq kn kc]) rfl rfl br.out hs (Nat.le_refl _) (cont_one _ _ _ _ _ _ _) ?_)
           intro w9 h9 hg9
           have q9 := Lib.hid h9
           have hg9' := Lib.hid hg9
           clear h9 hg9))
      have s9 : RowV 25 w9 (w.heap.size + 1) [.int .i64 k, .slice rq rn rc, .slice kq kn kc] := q9.out
      have m90 := s9.cell 0
      have m91 := s9.cell 1
      have m92 := s9.cell 2
      simp only [List.getElem?_cons_zero, List.getElem?_cons_succ] at m90 m91 m92
      refine bodyPost_ret (v := .tuple #[.agg #[.int .i64 k, .slice rq rn rc, .slice kq kn kc], .int .i64 0]) (by simp [results, Try.results55, go_sem, m90, m91, m92]) rfl ?_
      exact ⟨⟨k, rq, rn, rc, kq, kn, kc⟩, 0, rfl, .inl ⟨hG.out, rfl, rfl⟩, Gr.below hg9'.out hdr.out hw1.out⟩
end Go.Proofs.Ytaiepdhmlmnggaa
