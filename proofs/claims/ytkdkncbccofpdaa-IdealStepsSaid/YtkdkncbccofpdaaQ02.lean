/- Parts of the proof: mustBe of row, with one need and with all three; CheckKey, CheckRow and CheckList of row; CheckList of row -/
import Derived.Test.YtkdkncbccofpdaaQ01
import Derived.Deep.RegionHeld3
namespace Go.Proofs.Ytkdkncbccofpdaa
open Go.RowKit
def fnV (k : Nat) : Value := .func (.func k) #[] #[]
theorem rowE_of {bs : List BdD} {r : RowD} (h1 : keyE bs r.key = 0) (h2 : noteE r = 0) : rowE bs r = boundE bs r := by unfold rowE; rw [if_pos h1, if_pos h2]
theorem rowE_key {bs : List BdD} {r : RowD} (h1 : keyE bs r.key ≠ 0) : rowE bs r = 151 := by unfold rowE; rw [if_neg h1]
theorem rowE_note {bs : List BdD} {r : RowD} (h1 : keyE bs r.key = 0) (h2 : noteE r ≠ 0) : rowE bs r = 3 := by unfold rowE; rw [if_pos h1, if_neg h2]
theorem keyE_ne {bs : List BdD} {k : KeyD} (h : keyE bs k ≠ 0) : keyE bs k = 151 := by
 rcases keyE_or bs k with ⟨_, _, e⟩ | ⟨_, e⟩
 · exact absurd e h
 · exact e
theorem noteE_ne {r : RowD} (h : noteE r ≠ 0) : noteE r = 3 := by
 rcases noteE_or r with ⟨_, e⟩ | ⟨_, e⟩
 · exact absurd e h
 · exact e
set_option maxRecDepth 100000 in
set_option maxHeartbeats 2000000 in
theorem must3_any (q : Option Addr) (n c : Nat) (bs : List BdD) (t id v : Int) (s : ByteArray) (g : Nat) (w : World) (h : SchOn w q n c bs) (hs : s.size ≤ maxLen)
 (hg : Boxed w g [fnV 54, fnV 55, fnV 56]) :
 Calls Try.prog 53 #[.agg #[.slice q n c], .agg #[.int .i64 t, .int .u16 id, .int .i64 v, .string s], .slice (some ⟨g, 0, none⟩) 3 3] w (fun e w' => e = .returned (.int .i64 (rowE bs ⟨⟨t, id⟩, v, s⟩)) ∧ Below w.heap.size w w') := by
 have hl := h.len
 have hm := Nat.le_trans h.le h.cap
 unfold maxLen at hm
 obtain ⟨W, hW⟩ : ∃ W, (w.alloc (.cells #[.slice q n c] 24)).alloc (.cells #[.int .i64 t, .int .u16 id, .int .i64 v, .string s] 68) = W := ⟨_, rfl⟩
 have hB : Hid (Below w.heap.size w W) := by show Below _ _ _; rw [← hW]; exact ((Below.refl _ _).alloc (Nat.le_refl _) _).alloc (by simp) _
 have b1 : Hid (Boxed W w.heap.size [.slice q n c]) := by
  show Boxed _ _ _
  rw [← hW]
  exact (Boxed.made w _).below ((Below.refl _ _).alloc (Nat.le_refl _) _) (by simp)
 have b2 : Hid (Boxed W (w.heap.size + 1) [.int .i64 t, .int .u16 id, .int .i64 v, .string s]) := by
  show Boxed _ _ _
  rw [← hW]
  have := Boxed.made (T := 68) (w.alloc (.cells #[.slice q n c] 24)) [.int .i64 t, .int .u16 id, .int .i64 v, .string s]
  simpa using this
 have hh := Lib.hid (h.below hB.out (Nat.le_refl _))
 have hf := Lib.hid (hg.below hB.out (Nat.le_refl _))
 have hs1 : (Try.prog.info? 24).map (·.size) = some [Value.slice q n c].length := by kernel_rfl
 have hs2 := sizeRow t id v s
 have hk1 : Hid (∀ u, Calls Try.prog 54 #[.agg #[.slice q n c], .agg #[.int .i64 t, .int .u16 id, .int .i64 v, .string s]] u (fun e w' => e = .returned (.int .i64 (keyE bs ⟨t, id⟩)) ∧ Below u.heap.size u w')) := fun u => keyed_any q n c bs t id v s u hl (by omega)
 have hk2 : Hid (∀ u, Calls Try.prog 55 #[.agg #[.slice q n c], .agg #[.int .i64 t, .int .u16 id, .int .i64 v, .string s]] u (fun e w' => e = .returned (.int .i64 (noteE ⟨⟨t, id⟩, v, s⟩)) ∧ Below u.heap.size u w')) := fun u => noted_any q n c ⟨⟨t, id⟩, v, s⟩ t id v s rfl u hs
 have hk3 : Hid (keyE bs ⟨t, id⟩ = 0 → ∀ u, Below W.heap.size W u → Calls Try.prog 56 #[.agg #[.slice q n c], .agg #[.int .i64 t, .int .u16 id, .int .i64 v, .string s]] u (fun e w' => e = .returned (.int .i64 (boundE bs ⟨⟨t, id⟩, v, s⟩)) ∧ Below u.heap.size u w')) := fun e u hu => by
  rcases keyE_or bs ⟨t, id⟩ with ⟨h1, h2, _⟩ | ⟨_, e'⟩
  · exact bounded_any q n c bs t id v s u (hh.out.below hu (Nat.le_refl _)) h1 (by rw [← hl]; exact h2)
  · rw [e] at e'; cases e'
 have hr0 := Lib.hid (rowE_key (bs := bs) (r := ⟨⟨t, id⟩, v, s⟩))
 have hr1 := Lib.hid (rowE_note (bs := bs) (r := ⟨⟨t, id⟩, v, s⟩))
 have hr2 := Lib.hid (rowE_of (bs := bs) (r := ⟨⟨t, id⟩, v, s⟩))
 obtain ⟨eK, hK⟩ : ∃ x, keyE bs ⟨t, id⟩ = x := ⟨_, rfl⟩
 obtain ⟨eN, hN⟩ : ∃ x, noteE ⟨⟨t, id⟩, v, s⟩ = x := ⟨_, rfl⟩
 obtain ⟨eB, hBd⟩ : ∃ x, boundE bs ⟨⟨t, id⟩, v, s⟩ = x := ⟨_, rfl⟩
 obtain ⟨eR, hR⟩ : ∃ x, rowE bs ⟨⟨t, id⟩, v, s⟩ = x := ⟨_, rfl⟩
 have hKne : eK ≠ 0 → eK = 151 := fun hx => by rw [← hK]; exact keyE_ne (by rw [hK]; exact hx)
 have hNne : eN ≠ 0 → eN = 3 := fun hx => by rw [← hN]; exact noteE_ne (by rw [hN]; exact hx)
 rw [hK] at hk1 hk3 hr0 hr1 hr2
 rw [hN] at hk2 hr1 hr2
 rw [hBd] at hk3 hr2
 rw [hR] at hr0 hr1 hr2 ⊢
 have hKne' := Lib.hid hKne
 have hNne' := Lib.hid hNne
 clear hK hN hBd hR hKne hNne h hg hl hm hs
 go_enter Try.func53, Try.ntmps53
 go_wp2
 clear hW
 go_loopw [12] (fun v12 wr => ∃ k : Nat, k ≤ 3 ∧ v12 = .int .i64 k ∧ Hid (Below W.heap.size W wr) ∧ Hid (0 < k → eK = 0) ∧ Hid (1 < k → eN = 0) ∧ Hid (2 < k → eB = 0)) (fun v12 _ => 3 - (intOf v12).toNat)
 case atStart => exact ⟨0, by omega, rfl, Below.refl _ _, (fun h => by omega), (fun h => by omega), (fun h => by omega)⟩
 case round =>
  obtain ⟨k, hk, rfl, hb, i1, i2, i3⟩ := hrel
  have d1 := Lib.hid (b1.out.below hb.out (Nat.le_refl _))
  have d2 := Lib.hid (b2.out.below hb.out (Nat.le_refl _))
  have d3 := Lib.hid (hf.out.below hb.out (Nat.le_refl _))
  match k, hk with
  | 0, _ =>
    have c0 : wr.cell? ⟨g, 0, none⟩ = some (.func (.func 54) #[] #[]) := d3.out.cell 0 rfl
    by_cases hz : eK = 0
    · subst hz
      go_wp2_with (first
       | (with_reducible refine wpList_load_at rfl 24 (.tmp 3) rfl Try.underlying24 rfl hs1 rfl d1.out.all ?_)
       | (with_reducible refine wpList_load_at rfl 68 (.tmp 4) rfl Try.underlying68 rfl hs2 rfl d2.out.all ?_)
       | (go_at_call 54; refine (hk1.out _).mono ?_; rintro e w' ⟨rfl, hb2⟩; have hb3 := Lib.hid (hb.out.trans (hb2.mono hb.out.size)); clear hb2))
      go_roundw
      case rel => exact ⟨1, by omega, by go_num, hb3, (by simp [Hid]), (by simp [Hid]), (by simp [Hid])⟩
      case measure => simp [intOf]
    · go_wp2_with (first
       | (with_reducible refine wpList_load_at rfl 24 (.tmp 3) rfl Try.underlying24 rfl hs1 rfl d1.out.all ?_)
       | (with_reducible refine wpList_load_at rfl 68 (.tmp 4) rfl Try.underlying68 rfl hs2 rfl d2.out.all ?_)
       | (go_at_call 54; refine (hk1.out _).mono ?_; rintro e w' ⟨rfl, hb2⟩; have hb3 := Lib.hid (hb.out.trans (hb2.mono hb.out.size)); clear hb2))
      go_ret
      exact ⟨ret_i (by rw [hr0.out hz, hKne'.out hz]), hB.out.trans (hb3.out.mono hB.out.size)⟩
  | 1, _ =>
    have c0 : wr.cell? ⟨g, 1, none⟩ = some (.func (.func 55) #[] #[]) := d3.out.cell 1 rfl
    obtain rfl : 0 = eK := (i1.out (by omega)).symm
    by_cases hz : eN = 0
    · subst hz
      go_wp2_with (first
       | (with_reducible refine wpList_load_at rfl 24 (.tmp 3) rfl Try.underlying24 rfl hs1 rfl d1.out.all ?_)
       | (with_reducible refine wpList_load_at rfl 68 (.tmp 4) rfl Try.underlying68 rfl hs2 rfl d2.out.all ?_)
       | (go_at_call 55; refine (hk2.out _).mono ?_; rintro e w' ⟨rfl, hb2⟩; have hb3 := Lib.hid (hb.out.trans (hb2.mono hb.out.size)); clear hb2))
      go_roundw
      case rel => exact ⟨2, by omega, by go_num, hb3, (by simp [Hid]), (by simp [Hid]), (by simp [Hid])⟩
      case measure => simp [intOf]
    · go_wp2_with (first
       | (with_reducible refine wpList_load_at rfl 24 (.tmp 3) rfl Try.underlying24 rfl hs1 rfl d1.out.all ?_)
       | (with_reducible refine wpList_load_at rfl 68 (.tmp 4) rfl Try.underlying68 rfl hs2 rfl d2.out.all ?_)
       | (go_at_call 55; refine (hk2.out _).mono ?_; rintro e w' ⟨rfl, hb2⟩; have hb3 := Lib.hid (hb.out.trans (hb2.mono hb.out.size)); clear hb2))
      go_ret
      exact ⟨ret_i (by rw [hr1.out (by simp) hz, hNne'.out hz]), hB.out.trans (hb3.out.mono hB.out.size)⟩
  | 2, _ =>
    have c0 : wr.cell? ⟨g, 2, none⟩ = some (.func (.func 56) #[] #[]) := d3.out.cell 2 rfl
    obtain rfl : 0 = eK := (i1.out (by omega)).symm
    obtain rfl : 0 = eN := (i2.out (by omega)).symm
    by_cases hz : eB = 0
    · subst hz
      go_wp2_with (first
       | (with_reducible refine wpList_load_at rfl 24 (.tmp 3) rfl Try.underlying24 rfl hs1 rfl d1.out.all ?_)
       | (with_reducible refine wpList_load_at rfl 68 (.tmp 4) rfl Try.underlying68 rfl hs2 rfl d2.out.all ?_)
       | (go_at_call 56; refine (hk3.out (by simp) _ hb.out).mono ?_; rintro e w' ⟨rfl, hb2⟩; have hb3 := Lib.hid (hb.out.trans (hb2.mono hb.out.size)); clear hb2))
      go_roundw
      case rel => exact ⟨3, by omega, by go_num, hb3, (by simp [Hid]), (by simp [Hid]), (by simp [Hid])⟩
      case measure => simp [intOf]
    · go_wp2_with (first
       | (with_reducible refine wpList_load_at rfl 24 (.tmp 3) rfl Try.underlying24 rfl hs1 rfl d1.out.all ?_)
       | (with_reducible refine wpList_load_at rfl 68 (.tmp 4) rfl Try.underlying68 rfl hs2 rfl d2.out.all ?_)
       | (go_at_call 56; refine (hk3.out (by simp) _ hb.out).mono ?_; rintro e w' ⟨rfl, hb2⟩; have hb3 := Lib.hid (hb.out.trans (hb2.mono hb.out.size)); clear hb2))
      go_ret
      exact ⟨ret_i ((hr2.out (by simp) (by simp)).symm), hB.out.trans (hb3.out.mono hB.out.size)⟩
  | 3, _ =>
    obtain rfl : 0 = eK := (i1.out (by omega)).symm
    obtain rfl : 0 = eN := (i2.out (by omega)).symm
    obtain rfl : 0 = eB := (i3.out (by omega)).symm
    go_wp2
    go_ret
    exact ⟨ret_i (hr2.out (by simp) (by simp)).symm, hB.out.trans (hb.out.mono hB.out.size)⟩
set_option maxRecDepth 100000 in
set_option maxHeartbeats 2000000 in
theorem must1_any (q : Option Addr) (n c : Nat) (bs : List BdD) (t id v : Int) (s : ByteArray) (g : Nat) (w : World) (h : SchOn w q n c bs)
 (hg : Boxed w g [fnV 54]) :
 Calls Try.prog 53 #[.agg #[.slice q n c], .agg #[.int .i64 t, .int .u16 id, .int .i64 v, .string s], .slice (some ⟨g, 0, none⟩) 1 1] w (fun e w' => e = .returned (.int .i64 (keyE bs ⟨t, id⟩)) ∧ Below w.heap.size w w') := by
 have hl := h.len
 have hm := Nat.le_trans h.le h.cap
 unfold maxLen at hm
 obtain ⟨W, hW⟩ : ∃ W, (w.alloc (.cells #[.slice q n c] 24)).alloc (.cells #[.int .i64 t, .int .u16 id, .int .i64 v, .string s] 68) = W := ⟨_, rfl⟩
 have hB : Hid (Below w.heap.size w W) := by show Below _ _ _; rw [← hW]; exact ((Below.refl _ _).alloc (Nat.le_refl _) _).alloc (by simp) _
 have b1 : Hid (Boxed W w.heap.size [.slice q n c]) := by
  show Boxed _ _ _
  rw [← hW]
  exact (Boxed.made w _).below ((Below.refl _ _).alloc (Nat.le_refl _) _) (by simp)
 have b2 : Hid (Boxed W (w.heap.size + 1) [.int .i64 t, .int .u16 id, .int .i64 v, .string s]) := by
  show Boxed _ _ _
  rw [← hW]
  have := Boxed.made (T := 68) (w.alloc (.cells #[.slice q n c] 24)) [.int .i64 t, .int .u16 id, .int .i64 v, .string s]
  simpa using this
 have hf := Lib.hid (hg.below hB.out (Nat.le_refl _))
 have hs1 : (Try.prog.info? 24).map (·.size) = some [Value.slice q n c].length := by kernel_rfl
 have hs2 := sizeRow t id v s
 have hk1 : Hid (∀ u, Calls Try.prog 54 #[.agg #[.slice q n c], .agg #[.int .i64 t, .int .u16 id, .int .i64 v, .string s]] u (fun e w' => e = .returned (.int .i64 (keyE bs ⟨t, id⟩)) ∧ Below u.heap.size u w')) := fun u => keyed_any q n c bs t id v s u hl (by omega)
 obtain ⟨eK, hK⟩ : ∃ x, keyE bs ⟨t, id⟩ = x := ⟨_, rfl⟩
 rw [hK] at hk1 ⊢
 clear hK h hg hl hm
 go_enter Try.func53, Try.ntmps53
 go_wp2
 clear hW
 go_loopw [12] (fun v12 wr => ∃ k : Nat, k ≤ 1 ∧ v12 = .int .i64 k ∧ Hid (Below W.heap.size W wr) ∧ Hid (0 < k → eK = 0)) (fun v12 _ => 1 - (intOf v12).toNat)
 case atStart => exact ⟨0, by omega, rfl, Below.refl _ _, (fun h => by omega)⟩
 case round =>
  obtain ⟨k, hk, rfl, hb, i1⟩ := hrel
  have d1 := Lib.hid (b1.out.below hb.out (Nat.le_refl _))
  have d2 := Lib.hid (b2.out.below hb.out (Nat.le_refl _))
  have d3 := Lib.hid (hf.out.below hb.out (Nat.le_refl _))
  match k, hk with
  | 0, _ =>
    have c0 : wr.cell? ⟨g, 0, none⟩ = some (.func (.func 54) #[] #[]) := d3.out.cell 0 rfl
    by_cases hz : eK = 0
    · subst hz
      go_wp2_with (first
       | (with_reducible refine wpList_load_at rfl 24 (.tmp 3) rfl Try.underlying24 rfl hs1 rfl d1.out.all ?_)
       | (with_reducible refine wpList_load_at rfl 68 (.tmp 4) rfl Try.underlying68 rfl hs2 rfl d2.out.all ?_)
       | (go_at_call 54; refine (hk1.out _).mono ?_; rintro e w' ⟨rfl, hb2⟩; have hb3 := Lib.hid (hb.out.trans (hb2.mono hb.out.size)); clear hb2))
      go_roundw
      case rel => exact ⟨1, by omega, by go_num, hb3, (by simp [Hid])⟩
      case measure => simp [intOf]
    · go_wp2_with (first
       | (with_reducible refine wpList_load_at rfl 24 (.tmp 3) rfl Try.underlying24 rfl hs1 rfl d1.out.all ?_)
       | (with_reducible refine wpList_load_at rfl 68 (.tmp 4) rfl Try.underlying68 rfl hs2 rfl d2.out.all ?_)
       | (go_at_call 54; refine (hk1.out _).mono ?_; rintro e w' ⟨rfl, hb2⟩; have hb3 := Lib.hid (hb.out.trans (hb2.mono hb.out.size)); clear hb2))
      go_ret
      exact ⟨rfl, hB.out.trans (hb3.out.mono hB.out.size)⟩
  | 1, _ =>
    obtain rfl : 0 = eK := (i1.out (by omega)).symm
    go_wp2
    go_ret
    exact ⟨rfl, hB.out.trans (hb.out.mono hB.out.size)⟩
end Go.Proofs.Ytkdkncbccofpdaa
namespace Go.Proofs.Ytkdkncbccofpdaa
open Go.RowKit
def chkKey (bs : List BdD) (k : KeyD) : Int := if okS bs = true then keyE bs k else 150
def chkRow (bs : List BdD) (r : RowD) : Int := if okS bs = true then rowE bs r else 150
theorem sizeSch (q : Option Addr) (n c : Nat) : (Try.prog.info? 24).map (·.size) = some [Value.slice q n c].length := by kernel_rfl
set_option maxRecDepth 100000 in
set_option maxHeartbeats 2000000 in
theorem checkKey_any (q : Option Addr) (n c : Nat) (bs : List BdD) (t id : Int) (w : World) (h : SchOn w q n c bs) :
 Calls Try.prog 69 #[.agg #[.slice q n c], .agg #[.int .i64 t, .int .u16 id]] w (fun e w' => e = .returned (.int .i64 (chkKey bs ⟨t, id⟩)) ∧ Below w.heap.size w w') := by
 have h1 := Lib.hid h
 clear h
 obtain ⟨W, hW⟩ : ∃ W, (w.alloc (.cells #[.slice q n c] 24)).alloc (.cells #[.int .i64 t, .int .u16 id] 28) = W := ⟨_, rfl⟩
 have hbx := Lib.hid (two_boxes (xs := [.slice q n c]) (ys := [.int .i64 t, .int .u16 id]) hW)
 have hs1 := sizeSch q n c
 have hs2 := sizeKey t id
 have e1 := Lib.hid hbx.out.2.1
 by_cases ho : okS bs = true
 · have hv : chkKey bs ⟨t, id⟩ = keyE bs ⟨t, id⟩ := if_pos ho
   have hc1 := Lib.hid (check_any q n c bs W (h1.out.below hbx.out.1 (Nat.le_refl _)))
   rw [hv]
   rw [schE_ok ho] at hc1
   clear hv ho
   go_enter Try.func69, Try.ntmps69
   go_wp2_with (first
    | (with_reducible refine wpList_load_at rfl 24 (.tmp 2) rfl Try.underlying24 rfl hs1 rfl e1.out.all ?_)
    | (go_at_call 39; refine hc1.out.mono ?_; rintro e w1 ⟨rfl, hb1⟩; have hb2 := Lib.hid hb1; have hb := Lib.hid (hbx.out.1.trans (hb1.mono hbx.out.1.size)); have f1 := Lib.hid (hbx.out.2.1.below hb1 (Nat.le_refl _)); have f2 := Lib.hid (hbx.out.2.2.1.below hb1 (Nat.le_refl _)); clear hb1)
    | (with_reducible refine wpList_load_at rfl 24 (.tmp 2) rfl Try.underlying24 rfl hs1 rfl f1.out.all ?_)
    | (with_reducible refine wpList_load_at rfl 28 (.tmp 3) rfl Try.underlying28 rfl hs2 rfl f2.out.all ?_)
    | (go_at_call 53
       refine (must1_any q n c bs t id 0 _ _ _ ((h1.out.below hb.out (Nat.le_refl _)).below ((Below.refl _ _).alloc (Nat.le_refl _) _) (Nat.le_refl _)) (Boxed.made w1 [fnV 54])).mono ?_
       rintro e w2 ⟨rfl, hb3⟩
       have hb4 := Lib.hid (hb.out.trans ((((Below.refl w1.heap.size w1).alloc (Nat.le_refl _) _).trans (hb3.mono (by simp))).mono hb.out.size))
       clear hb3))
   go_ret
   exact ⟨rfl, hb4.out⟩
 · have hv : chkKey bs ⟨t, id⟩ = 150 := if_neg ho
   have hc1 := Lib.hid (check_any q n c bs W (h1.out.below hbx.out.1 (Nat.le_refl _)))
   rw [hv]
   rw [schE_no ho] at hc1
   clear hv ho
   go_enter Try.func69, Try.ntmps69
   go_wp2_with (first
    | (with_reducible refine wpList_load_at rfl 24 (.tmp 2) rfl Try.underlying24 rfl hs1 rfl e1.out.all ?_)
    | (go_at_call 39; refine hc1.out.mono ?_; rintro e w1 ⟨rfl, hb1⟩; have hb := Lib.hid (hbx.out.1.trans (hb1.mono hbx.out.1.size)); clear hb1))
   go_ret
   exact ⟨rfl, hb.out⟩
set_option maxRecDepth 100000 in
set_option maxHeartbeats 2000000 in
theorem checkRow_any (q : Option Addr) (n c : Nat) (bs : List BdD) (t id v : Int) (s : ByteArray) (w : World) (h : SchOn w q n c bs) (hs : s.size ≤ maxLen) :
 Calls Try.prog 85 #[.agg #[.slice q n c], .agg #[.int .i64 t, .int .u16 id, .int .i64 v, .string s]] w (fun e w' => e = .returned (.int .i64 (chkRow bs ⟨⟨t, id⟩, v, s⟩)) ∧ Below w.heap.size w w') := by
 have h1 := Lib.hid h
 have hss := Lib.hid hs
 clear h hs
 obtain ⟨W, hW⟩ : ∃ W, (w.alloc (.cells #[.slice q n c] 24)).alloc (.cells #[.int .i64 t, .int .u16 id, .int .i64 v, .string s] 68) = W := ⟨_, rfl⟩
 have hbx := Lib.hid (two_boxes (xs := [.slice q n c]) (ys := [.int .i64 t, .int .u16 id, .int .i64 v, .string s]) hW)
 have hs1 := sizeSch q n c
 have hs2 := sizeRow t id v s
 have e1 := Lib.hid hbx.out.2.1
 by_cases ho : okS bs = true
 · have hv : chkRow bs ⟨⟨t, id⟩, v, s⟩ = rowE bs ⟨⟨t, id⟩, v, s⟩ := if_pos ho
   have hc1 := Lib.hid (check_any q n c bs W (h1.out.below hbx.out.1 (Nat.le_refl _)))
   rw [hv]
   rw [schE_ok ho] at hc1
   clear hv ho
   go_enter Try.func85, Try.ntmps85
   go_wp2_with (first
    | (with_reducible refine wpList_load_at rfl 24 (.tmp 2) rfl Try.underlying24 rfl hs1 rfl e1.out.all ?_)
    | (go_at_call 39; refine hc1.out.mono ?_; rintro e w1 ⟨rfl, hb1⟩; have hb2 := Lib.hid hb1; have hb := Lib.hid (hbx.out.1.trans (hb1.mono hbx.out.1.size)); have f1 := Lib.hid (hbx.out.2.1.below hb1 (Nat.le_refl _)); have f2 := Lib.hid (hbx.out.2.2.1.below hb1 (Nat.le_refl _)); clear hb1)
    | (with_reducible refine wpList_load_at rfl 24 (.tmp 2) rfl Try.underlying24 rfl hs1 rfl f1.out.all ?_)
    | (with_reducible refine wpList_load_at rfl 68 (.tmp 3) rfl Try.underlying68 rfl hs2 rfl f2.out.all ?_)
    | (go_at_call 53
       refine (must3_any q n c bs t id v s _ _ ((h1.out.below hb.out (Nat.le_refl _)).below ((Below.refl _ _).alloc (Nat.le_refl _) _) (Nat.le_refl _)) hss.out (Boxed.made w1 [fnV 54, fnV 55, fnV 56])).mono ?_
       rintro e w2 ⟨rfl, hb3⟩
       have hb4 := Lib.hid (hb.out.trans ((((Below.refl w1.heap.size w1).alloc (Nat.le_refl _) _).trans (hb3.mono (by simp))).mono hb.out.size))
       clear hb3))
   go_ret
   exact ⟨rfl, hb4.out⟩
 · have hv : chkRow bs ⟨⟨t, id⟩, v, s⟩ = 150 := if_neg ho
   have hc1 := Lib.hid (check_any q n c bs W (h1.out.below hbx.out.1 (Nat.le_refl _)))
   rw [hv]
   rw [schE_no ho] at hc1
   clear hv ho
   go_enter Try.func85, Try.ntmps85
   go_wp2_with (first
    | (with_reducible refine wpList_load_at rfl 24 (.tmp 2) rfl Try.underlying24 rfl hs1 rfl e1.out.all ?_)
    | (go_at_call 39; refine hc1.out.mono ?_; rintro e w1 ⟨rfl, hb1⟩; have hb := Lib.hid (hbx.out.1.trans (hb1.mono hbx.out.1.size)); clear hb1))
   go_ret
   exact ⟨rfl, hb.out⟩
end Go.Proofs.Ytkdkncbccofpdaa
namespace Go.Proofs.Ytkdkncbccofpdaa
open Go.RowKit
def okAt (bs : List BdD) (l : List RowD) (i : Nat) : Prop := ∀ r, l[i]? = some r → rowE bs r = 0 ∧ ∀ j p, i = j + 1 → l[j]? = some p → cmpK p.key r.key < 0
def stepB (bs : List BdD) : List RowD → Bool
 | [] => true
 | a :: l => (rowE bs a == 0) && ((match l with | [] => true | b :: _ => decide (cmpK a.key b.key < 0)) && stepB bs l)
def okL (bs : List BdD) (l : List RowD) : Bool := decide (l.length ≤ 60) && stepB bs l
theorem stepB_iff (bs : List BdD) : ∀ l : List RowD, stepB bs l = true ↔ ∀ i, okAt bs l i
 | [] => by simp [stepB, okAt]
 | [a] => by
   simp only [stepB, Bool.and_true, beq_iff_eq]
   constructor
   · intro h i r hr
     match i, hr with
     | 0, hr => simp at hr; subst hr; exact ⟨h, fun j p hj => by omega⟩
     | i + 1, hr => simp at hr
   · intro h
     exact (h 0 a rfl).1
 | a :: b :: l => by
   have ih := stepB_iff bs (b :: l)
   simp only [stepB, Bool.and_eq_true, beq_iff_eq, decide_eq_true_eq] at ih ⊢
   constructor
   · rintro ⟨h1, h2, h3⟩ i r hr
     match i, hr with
     | 0, hr => simp at hr; subst hr; exact ⟨h1, fun j p hj => by omega⟩
     | i + 1, hr =>
       have hi := ih.1 h3 i r (by simpa using hr)
       refine ⟨hi.1, fun j p hj hp => ?_⟩
       obtain rfl : i = j := by omega
       match i, hp, hr with
       | 0, hp, hr => simp at hp hr; subst hp hr; exact h2
       | i + 1, hp, hr => exact hi.2 i p rfl (by simpa using hp)
   · intro h
     refine ⟨(h 0 a rfl).1, (h 1 b rfl).2 0 a rfl rfl, ih.2 fun i r hr => ?_⟩
     have hi := h (i + 1) r (by simpa using hr)
     refine ⟨hi.1, fun j p hj hp => hi.2 (j + 1) p (by omega) (by simpa using hp)⟩
theorem okL_iff (bs : List BdD) (l : List RowD) : okL bs l = true ↔ l.length ≤ 60 ∧ ∀ i, okAt bs l i := by
 unfold okL
 rw [Bool.and_eq_true, decide_eq_true_eq, stepB_iff]
def chkList (bs : List BdD) (l : List RowD) : Int := if okS bs = true then (if okL bs l = true then 0 else 151) else 150
theorem add0 (a : Addr) : a.add 0 = a := by unfold Addr.add; simp
def LstRel (W wr : World) (bs : List BdD) (l : List RowD) (k : Nat) : Prop := Below W.heap.size W wr ∧ ∀ i, i < k → okAt bs l i
set_option maxRecDepth 100000 in
set_option maxHeartbeats 1000000 in
theorem checkList_any (q : Option Addr) (n c : Nat) (bs : List BdD) (lq : Option Addr) (ln lc : Nat) (l : List RowD) (w : World) (h : SchOn w q n c bs) (hr : RowsOn w lq ln lc l) :
 Calls Try.prog 28 #[.agg #[.slice q n c], .slice lq ln lc] w (fun e w' => e = .returned (.int .i64 (chkList bs l)) ∧ Below w.heap.size w w') := by
 have hll := Lib.hid hr.len
 have hm := Nat.le_trans hr.le hr.cap
 unfold maxLen at hm
 obtain ⟨W, hW⟩ : ∃ W, w.alloc (.cells #[.slice q n c] 24) = W := ⟨_, rfl⟩
 have hbx := Lib.hid (one_box (xs := [.slice q n c]) hW)
 have hs1 := sizeSch q n c
 have e1 := Lib.hid hbx.out.2.1
 have hc1 := Lib.hid (check_any q n c bs W (h.below hbx.out.1 (Nat.le_refl _)))
 have hh := Lib.hid (h.below hbx.out.1 (Nat.le_refl _))
 have hrr := Lib.hid (hr.below hbx.out.1 (Nat.le_refl _))
 clear h hr
 by_cases ho : okS bs = true
 · have hv : chkList bs l = if okL bs l = true then 0 else 151 := if_pos ho
   rw [hv]
   rw [schE_ok ho] at hc1
   clear hv ho
   by_cases h60 : ln ≤ 60
   · have hv0 : Hid ((∀ i, i < ln → okAt bs l i) → (if okL bs l = true then (0 : Int) else 151) = 0) := fun hk => if_pos ((okL_iff bs l).2 ⟨by rw [hll.out]; exact h60, fun i r hr => hk i (by have := (List.getElem?_eq_some_iff.1 hr).1; rw [hll.out] at this; exact this) r hr⟩)
     have hv1 : Hid (∀ i, ¬ okAt bs l i → (if okL bs l = true then (0 : Int) else 151) = 151) := fun i hk => if_neg fun ho => hk (((okL_iff bs l).1 ho).2 i)
     obtain ⟨E, hE⟩ : ∃ E : Int, (if okL bs l = true then (0 : Int) else 151) = E := ⟨_, rfl⟩
     rw [hE] at hv0 hv1 ⊢
     clear hE
     go_enter Try.func28, Try.ntmps28
     go_wp2_with (first
      | (with_reducible refine wpList_load_at rfl 24 (.tmp 2) rfl Try.underlying24 rfl hs1 rfl e1.out.all ?_)
      | (go_at_call 39; refine hc1.out.mono ?_; rintro e w1 ⟨rfl, hb1⟩; have hr0 : Hid (LstRel W w1 bs l 0) := ⟨hb1, fun i hi => by omega⟩; clear hb1))
     clear hW
     go_loopw [18] (fun v18 wr => ∃ k : Nat, k ≤ ln ∧ v18 = .int .i64 k ∧ Hid (LstRel W wr bs l k)) (fun v18 _ => ln - (intOf v18).toNat)
     case atStart => exact ⟨0, Nat.zero_le _, rfl, hr0⟩
     case round =>
      obtain ⟨k, hk, rfl, hrl⟩ := hrel
      by_cases hlt : k < ln
      · obtain ⟨a, ⟨⟨t, id⟩, v, s⟩, rfl, hx, hok, hc⟩ := (hrr.out.below hrl.out.1 (Nat.le_refl _)).at hlt
        have hcell : Hid (∀ j x, ([.int .i64 t, .int .u16 id, .int .i64 v, .string s] : List Value)[j]? = some x → wr.cell? ((a.add (k * 4)).add j) = some x) := hc
        have hsn := Lib.hid hok.note
        have hx' := Lib.hid hx
        have hs2 := sizeRow t id v s
        have hbw := Lib.hid hrl.out.1
        have f1 := Lib.hid ((e1.out.below hbw.out (Nat.le_refl _)).below ((Below.refl _ _).alloc (Nat.le_refl _) (.cells #[.int .i64 t, .int .u16 id, .int .i64 v, .string s] 68)) (Nat.le_refl _))
        have f2 := Lib.hid (Boxed.made (T := 68) wr [.int .i64 t, .int .u16 id, .int .i64 v, .string s])
        obtain ⟨W2, hW2⟩ : ∃ W2, (wr.alloc (.cells #[.int .i64 t, .int .u16 id, .int .i64 v, .string s] 68)).alloc (.cells #[.func (.func 54) #[] #[], .func (.func 55) #[] #[], .func (.func 56) #[] #[]] 102) = W2 := ⟨_, rfl⟩
        have hb2 := Lib.hid (two_boxes (xs := [.int .i64 t, .int .u16 id, .int .i64 v, .string s]) (ys := [fnV 54, fnV 55, fnV 56]) hW2)
        have hmust := Lib.hid (must3_any q n c bs t id v s _ W2 ((hh.out.below hbw.out (Nat.le_refl _)).below hb2.out.1 (Nat.le_refl _)) hsn.out hb2.out.2.2.1)
        clear hx hok hc
        obtain ⟨E2, hE2⟩ : ∃ E2, rowE bs ⟨⟨t, id⟩, v, s⟩ = E2 := ⟨_, rfl⟩
        rw [hE2] at hmust
        by_cases hz : E2 = 0
        · subst hz
          have hE3 := Lib.hid hE2
          clear hE2
          rcases Nat.eq_zero_or_pos k with hk0 | hpos
          · subst hk0
            go_wp2_with (first
             | (with_reducible refine wpList_load_at rfl 68 (.tmp 21) rfl Try.underlying68 rfl hs2 rfl hcell.out ?_)
             | (with_reducible refine wpList_load_at rfl 24 (.tmp 2) rfl Try.underlying24 rfl hs1 rfl f1.out.all ?_)
             | (with_reducible refine wpList_load_at rfl 68 (.tmp 7) rfl Try.underlying68 rfl hs2 rfl f2.out.all ?_)
             | (go_at_call 53; refine hmust.out.mono ?_; rintro e w3 ⟨rfl, hb3⟩; have hb4 := Lib.hid (hbw.out.trans ((hb2.out.1.trans (hb3.mono hb2.out.1.size)).mono hbw.out.size)); have f3 := Lib.hid (hb2.out.2.1.below hb3 (Nat.le_refl _)); have hb5 := Lib.hid (hb2.out.1.trans (hb3.mono hb2.out.1.size)); clear hb3))
            go_quiet (fail)
            go_wp2
            go_roundw
            case rel =>
             refine ⟨1, by omega, by go_num, hb4.out.trans ((below_drewN _ _).mono hb4.out.size), fun i hi r hr => ?_⟩
             obtain rfl : i = 0 := by omega
             rw [hx'.out] at hr
             cases hr
             exact ⟨hE3.out, fun j p hj => by omega⟩
            case measure => simp [intOf]; omega
          · obtain ⟨m, rfl⟩ : ∃ m, k = m + 1 := ⟨k - 1, by omega⟩
            obtain ⟨a', ⟨⟨pt, pid⟩, pv, ps⟩, ha', hy, hok, hc⟩ := (hrr.out.below hrl.out.1 (Nat.le_refl _)).at (show m < ln by omega)
            cases ha'
            have hy' := Lib.hid hy
            have hcy := Lib.hid hc
            clear hy hok hc
            have hpos' : (0 : Int) < (m : Int) + 1 := by omega
            go_wp2_with (first
             | (with_reducible refine wpList_load_at rfl 68 (.tmp 21) rfl Try.underlying68 rfl hs2 rfl hcell.out ?_)
             | (with_reducible refine wpList_load_at rfl 24 (.tmp 2) rfl Try.underlying24 rfl hs1 rfl f1.out.all ?_)
             | (with_reducible refine wpList_load_at rfl 68 (.tmp 7) rfl Try.underlying68 rfl hs2 rfl f2.out.all ?_)
             | (go_at_call 53; refine hmust.out.mono ?_; rintro e w3 ⟨rfl, hb3⟩; have hb4 := Lib.hid (hbw.out.trans ((hb2.out.1.trans (hb3.mono hb2.out.1.size)).mono hbw.out.size)); have f3 := Lib.hid (hb2.out.2.1.below hb3 (Nat.le_refl _)); have hb5 := Lib.hid (hb2.out.1.trans (hb3.mono hb2.out.1.size)); clear hb3))
            have g0 : w3.cell? (a.add (m * 4)) = some (.int .i64 pt) := by have h := cell_keeps hb5.out (Nat.le_refl _) (hcy.out 0 _ rfl); rwa [add0] at h
            have g1 : w3.cell? ⟨(a.add (m * 4)).block, (a.add (m * 4)).off + 1, none⟩ = some (.int .u16 pid) := cell_keeps hb5.out (Nat.le_refl _) (hcy.out 1 _ rfl)
            have g2 := f3.out.cell 0 rfl
            have g3 := f3.out.cell 1 rfl
            have w0 : IntKind.i64.wrap ((m : Int) + 1 - 1) = m := by rw [Int.add_sub_cancel]; exact IntWalk.i64_in (m : Int) (by omega)
            have w1' : IntKind.i64.wrap (m : Int) = m := IntWalk.i64_in (m : Int) (by omega)
            have i0 : (0 : Int) ≤ m := by omega
            have i1 : (m : Int) < ln := by omega
            have hcmp := Lib.hid (fun u => compare_any ⟨pt, pid⟩ ⟨t, id⟩ u)
            obtain ⟨x, hxx⟩ : ∃ x, cmpK ⟨pt, pid⟩ ⟨t, id⟩ = x := ⟨_, rfl⟩
            rw [hxx] at hcmp
            have hx2 := Lib.hid hxx
            clear hxx
            obtain ⟨B3, hB3⟩ : ∃ B, w3.heap.size = B := ⟨_, rfl⟩
            have hB4 := Lib.hid hB3
            clear hB3
            by_cases hlt0 : x < 0
            · have hge : ¬ 0 ≤ x := by omega
              go_region_held3 (fun u => u.cell? (a.add (m * 4)) = some (.int .i64 pt) ∧ u.cell? ⟨(a.add (m * 4)).block, (a.add (m * 4)).off + 1, none⟩ = some (.int .u16 pid) ∧ u.cell? ⟨wr.heap.size, 0, none⟩ = some (.int .i64 t) ∧ u.cell? ⟨wr.heap.size, 1, none⟩ = some (.int .u16 id))
               (first | go_keep | (go_split_ands; exact ⟨cell_keeps hb6.out (Nat.le_refl _) g0, cell_keeps hb6.out (Nat.le_refl _) g1, cell_keeps hb6.out (Nat.le_refl _) g2, cell_keeps hb6.out (Nat.le_refl _) g3⟩))
               (first | (go_at_call 57; refine (hcmp.out _).mono ?_; rintro e w6 ⟨rfl, hb6'⟩; have hb6 := Lib.hid hb6'; clear hb6'))
              have hb8 := Lib.hid (hb4.out.trans (((below_drew w3).trans hb6.out).mono hb4.out.size))
              clear w0 w1'
              go_wp2
              go_roundw
              case rel =>
               refine ⟨m + 1 + 1, by omega, by go_num, hb8.out, fun i hi r hr => ?_⟩
               rcases Nat.lt_or_ge i (m + 1) with h | h
               · exact hrl.out.2 i h r hr
               · obtain rfl : i = m + 1 := by omega
                 rw [hx'.out] at hr
                 cases hr
                 refine ⟨hE3.out, fun j p hj hp => ?_⟩
                 obtain rfl : m = j := by omega
                 rw [hy'.out] at hp
                 cases hp
                 rw [hx2.out]
                 exact hlt0
              case measure => simp [intOf]; omega
            · have hge : 0 ≤ x := by omega
              have hno := Lib.hid (show ¬ okAt bs l (m + 1) from fun hh => by have := (hh _ hx'.out).2 m _ rfl hy'.out; rw [hx2.out] at this; omega)
              go_region_held3 (fun u => u.cell? (a.add (m * 4)) = some (.int .i64 pt) ∧ u.cell? ⟨(a.add (m * 4)).block, (a.add (m * 4)).off + 1, none⟩ = some (.int .u16 pid) ∧ u.cell? ⟨wr.heap.size, 0, none⟩ = some (.int .i64 t) ∧ u.cell? ⟨wr.heap.size, 1, none⟩ = some (.int .u16 id))
               (first | go_keep | (go_split_ands; exact ⟨cell_keeps hb6.out (Nat.le_refl _) g0, cell_keeps hb6.out (Nat.le_refl _) g1, cell_keeps hb6.out (Nat.le_refl _) g2, cell_keeps hb6.out (Nat.le_refl _) g3⟩))
               (first | (go_at_call 57; refine (hcmp.out _).mono ?_; rintro e w6 ⟨rfl, hb6'⟩; have hb6 := Lib.hid hb6'; clear hb6'))
              have hb8 := Lib.hid (hb4.out.trans (((below_drew w3).trans hb6.out).mono hb4.out.size))
              clear w0 w1'
              go_wp2
              go_ret
              exact ⟨ret_i (hv1.out _ hno.out).symm, hbx.out.1.trans (hb8.out.mono hbx.out.1.size)⟩
        · have hno := Lib.hid (show ¬ okAt bs l k from fun hh => hz (by rw [← hE2]; exact (hh _ hx'.out).1))
          clear hE2
          go_wp2_with (first
           | (with_reducible refine wpList_load_at rfl 68 (.tmp 21) rfl Try.underlying68 rfl hs2 rfl hcell.out ?_)
           | (with_reducible refine wpList_load_at rfl 24 (.tmp 2) rfl Try.underlying24 rfl hs1 rfl f1.out.all ?_)
           | (with_reducible refine wpList_load_at rfl 68 (.tmp 7) rfl Try.underlying68 rfl hs2 rfl f2.out.all ?_)
           | (go_at_call 53; refine hmust.out.mono ?_; rintro e w3 ⟨rfl, hb3⟩; have hb4 := Lib.hid (hbx.out.1.trans ((hbw.out.trans ((hb2.out.1.trans (hb3.mono hb2.out.1.size)).mono hbw.out.size)).mono hbx.out.1.size)); clear hb3))
          go_ret
          exact ⟨ret_i (hv1.out k hno.out).symm, hb4.out⟩
      · obtain rfl : ln = k := by omega
        go_wp2
        go_ret
        exact ⟨ret_i (hv0.out hrl.out.2).symm, hbx.out.1.trans (hrl.out.1.mono hbx.out.1.size)⟩
   · have hv : ¬ okL bs l = true := fun hk => h60 (by rw [← hll.out]; exact ((okL_iff bs l).1 hk).1)
     rw [if_neg hv]
     clear hv
     go_enter Try.func28, Try.ntmps28
     go_wp2_with (first
      | (with_reducible refine wpList_load_at rfl 24 (.tmp 2) rfl Try.underlying24 rfl hs1 rfl e1.out.all ?_)
      | (go_at_call 39; refine hc1.out.mono ?_; rintro e w1 ⟨rfl, hb1⟩; have hb := Lib.hid (hbx.out.1.trans (hb1.mono hbx.out.1.size)); clear hb1))
     go_ret
     exact ⟨rfl, hb.out⟩
 · have hv : chkList bs l = 150 := if_neg ho
   rw [hv]
   rw [schE_no ho] at hc1
   clear hv ho
   go_enter Try.func28, Try.ntmps28
   go_wp2_with (first
    | (with_reducible refine wpList_load_at rfl 24 (.tmp 2) rfl Try.underlying24 rfl hs1 rfl e1.out.all ?_)
    | (go_at_call 39; refine hc1.out.mono ?_; rintro e w1 ⟨rfl, hb1⟩; have hb := Lib.hid (hbx.out.1.trans (hb1.mono hbx.out.1.size)); clear hb1))
   go_ret
   exact ⟨rfl, hb.out⟩
end Go.Proofs.Ytkdkncbccofpdaa
