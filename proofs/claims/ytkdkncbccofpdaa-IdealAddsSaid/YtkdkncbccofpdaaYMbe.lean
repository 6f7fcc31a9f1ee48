/- mustBe of row, with one need and with all three. -/
import Derived.Test.YtkdkncbccofpdaaYMust
namespace Go.Proofs.Ytkdkncbccofpdaa
open Go.RowKit

theorem fn_eval (k : Nat) : (Value.func (.func k) #[] #[]) = Value.func (.func k) #[] #[] := rfl
def fnV (k : Nat) : Value := .func (.func k) #[] #[]

theorem rowE_of {bs : List BdD} {r : RowD} (h1 : keyE bs r.key = 0) (h2 : noteE r = 0) : rowE bs r = boundE bs r := by unfold rowE; rw [if_pos h1, if_pos h2]
theorem rowE_key {bs : List BdD} {r : RowD} (h1 : keyE bs r.key ≠ 0) : rowE bs r = 151 := by unfold rowE; rw [if_neg h1]
theorem rowE_note {bs : List BdD} {r : RowD} (h1 : keyE bs r.key = 0) (h2 : noteE r ≠ 0) : rowE bs r = 3 := by unfold rowE; rw [if_pos h1, if_neg h2]
theorem keyE_ne {bs : List BdD} {k : KeyD} (h : keyE bs k ≠ 0) : keyE bs k = 151 := by
  rcases keyE_or bs k with ⟨_, _, e⟩ | ⟨_, e⟩
  · exact absurd e h
  · exact e
theorem noteE_ne {r : RowD} (h : noteE r ≠ 0) : noteE r = 3 := by
  rcases noteE_or r with ⟨_, e⟩ | ⟨_, e⟩
  · exact absurd e h
  · exact e

set_option maxRecDepth 100000 in
set_option maxHeartbeats 2000000 in
theorem must3_any (q : Option Addr) (n c : Nat) (bs : List BdD) (t id v : Int) (s : ByteArray) (g : Nat) (w : World) (h : SchOn w q n c bs) (hs : s.size ≤ maxLen)
    (hg : Boxed w g [fnV 54, fnV 55, fnV 56]) :
    Calls Try.prog 53 #[.agg #[.slice q n c], .agg #[.int .i64 t, .int .u16 id, .int .i64 v, .string s], .slice (some ⟨g, 0, none⟩) 3 3] w (fun e w' => e = .returned (.int .i64 (rowE bs ⟨⟨t, id⟩, v, s⟩)) ∧ Below w.heap.size w w') := by
  have hl := h.len
  have hm := Nat.le_trans h.le h.cap
  unfold maxLen at hm
  obtain ⟨W, hW⟩ : ∃ W, (w.alloc (.cells #[.slice q n c] 24)).alloc (.cells #[.int .i64 t, .int .u16 id, .int .i64 v, .string s] 68) = W := ⟨_, rfl⟩
  have hB : Hid (Below w.heap.size w W) := by show Below _ _ _; rw [← hW]; exact ((Below.refl _ _).alloc (Nat.le_refl _) _).alloc (by simp) _
  have b1 : Hid (Boxed W w.heap.size [.slice q n c]) := by
    show Boxed _ _ _
    rw [← hW]
    exact (Boxed.made w _).below ((Below.refl _ _).alloc (Nat.le_refl _) _) (by simp)
  have b2 : Hid (Boxed W (w.heap.size + 1) [.int .i64 t, .int .u16 id, .int .i64 v, .string s]) := by
    show Boxed _ _ _
    rw [← hW]
    have := Boxed.made (T := 68) (w.alloc (.cells #[.slice q n c] 24)) [.int .i64 t, .int .u16 id, .int .i64 v, .string s]
    simpa using this
  have hh := Lib.hid (h.below hB.out (Nat.le_refl _))
  have hf := Lib.hid (hg.below hB.out (Nat.le_refl _))
  have hs1 : (Try.prog.info? 24).map (·.size) = some [Value.slice q n c].length := by kernel_rfl
  have hs2 := sizeRow t id v s
  have hk1 : Hid (∀ u, Calls Try.prog 54 #[.agg #[.slice q n c], .agg #[.int .i64 t, .int .u16 id, .int .i64 v, .string s]] u (fun e w' => e = .returned (.int .i64 (keyE bs ⟨t, id⟩)) ∧ Below u.heap.size u w')) := fun u => keyed_any q n c bs t id v s u hl (by omega)
  have hk2 : Hid (∀ u, Calls Try.prog 55 #[.agg #[.slice q n c], .agg #[.int .i64 t, .int .u16 id, .int .i64 v, .string s]] u (fun e w' => e = .returned (.int .i64 (noteE ⟨⟨t, id⟩, v, s⟩)) ∧ Below u.heap.size u w')) := fun u => noted_any q n c ⟨⟨t, id⟩, v, s⟩ t id v s rfl u hs
  have hk3 : Hid (keyE bs ⟨t, id⟩ = 0 → ∀ u, Below W.heap.size W u → Calls Try.prog 56 #[.agg #[.slice q n c], .agg #[.int .i64 t, .int .u16 id, .int .i64 v, .string s]] u (fun e w' => e = .returned (.int .i64 (boundE bs ⟨⟨t, id⟩, v, s⟩)) ∧ Below u.heap.size u w')) := fun e u hu => by
    rcases keyE_or bs ⟨t, id⟩ with ⟨h1, h2, _⟩ | ⟨_, e'⟩
    · exact bounded_any q n c bs t id v s u (hh.out.below hu (Nat.le_refl _)) h1 (by rw [← hl]; exact h2)
    · rw [e] at e'; cases e'
  have hr0 := Lib.hid (rowE_key (bs := bs) (r := ⟨⟨t, id⟩, v, s⟩))
  have hr1 := Lib.hid (rowE_note (bs := bs) (r := ⟨⟨t, id⟩, v, s⟩))
  have hr2 := Lib.hid (rowE_of (bs := bs) (r := ⟨⟨t, id⟩, v, s⟩))
  obtain ⟨eK, hK⟩ : ∃ x, keyE bs ⟨t, id⟩ = x := ⟨_, rfl⟩
  obtain ⟨eN, hN⟩ : ∃ x, noteE ⟨⟨t, id⟩, v, s⟩ = x := ⟨_, rfl⟩
  obtain ⟨eB, hBd⟩ : ∃ x, boundE bs ⟨⟨t, id⟩, v, s⟩ = x := ⟨_, rfl⟩
  obtain ⟨eR, hR⟩ : ∃ x, rowE bs ⟨⟨t, id⟩, v, s⟩ = x := ⟨_, rfl⟩
  have hKne : eK ≠ 0 → eK = 151 := fun hx => by rw [← hK]; exact keyE_ne (by rw [hK]; exact hx)
  have hNne : eN ≠ 0 → eN = 3 := fun hx => by rw [← hN]; exact noteE_ne (by rw [hN]; exact hx)
  rw [hK] at hk1 hk3 hr0 hr1 hr2
  rw [hN] at hk2 hr1 hr2
  rw [hBd] at hk3 hr2
  rw [hR] at hr0 hr1 hr2 ⊢
  have hKne' := Lib.hid hKne
  have hNne' := Lib.hid hNne
  clear hK hN hBd hR hKne hNne h hg hl hm hs
  go_enter Try.func53, Try.ntmps53
  go_wp2
  clear hW
  go_loopw [12] (fun v12 wr => ∃ k : Nat, k ≤ 3 ∧ v12 = .int .i64 k ∧ Hid (Below W.heap.size W wr) ∧ Hid (0 < k → eK = 0) ∧ Hid (1 < k → eN = 0) ∧ Hid (2 < k → eB = 0)) (fun v12 _ => 3 - (intOf v12).toNat)
  case atStart => exact ⟨0, by omega, rfl, Below.refl _ _, (fun h => by omega), (fun h => by omega), (fun h => by omega)⟩
  case round =>
    obtain ⟨k, hk, rfl, hb, i1, i2, i3⟩ := hrel
    have d1 := Lib.hid (b1.out.below hb.out (Nat.le_refl _))
    have d2 := Lib.hid (b2.out.below hb.out (Nat.le_refl _))
    have d3 := Lib.hid (hf.out.below hb.out (Nat.le_refl _))
    match k, hk with
    | 0, _ =>
      have c0 : wr.cell? ⟨g, 0, none⟩ = some (.func (.func 54) #[] #[]) := d3.out.cell 0 rfl
      by_cases hz : eK = 0
      · subst hz
        go_wp2_with (first
          | (with_reducible refine wpList_load_at rfl 24 (.tmp 3) rfl Try.underlying24 rfl hs1 rfl d1.out.all ?_)
          | (with_reducible refine wpList_load_at rfl 68 (.tmp 4) rfl Try.underlying68 rfl hs2 rfl d2.out.all ?_)
          | (go_at_call 54; refine (hk1.out _).mono ?_; rintro e w' ⟨rfl, hb2⟩; have hb3 := Lib.hid (hb.out.trans (hb2.mono hb.out.size)); clear hb2))
        go_roundw
        case rel => exact ⟨1, by omega, by go_num, hb3, (by simp [Hid]), (by simp [Hid]), (by simp [Hid])⟩
        case measure => simp [intOf]
      · go_wp2_with (first
          | (with_reducible refine wpList_load_at rfl 24 (.tmp 3) rfl Try.underlying24 rfl hs1 rfl d1.out.all ?_)
          | (with_reducible refine wpList_load_at rfl 68 (.tmp 4) rfl Try.underlying68 rfl hs2 rfl d2.out.all ?_)
          | (go_at_call 54; refine (hk1.out _).mono ?_; rintro e w' ⟨rfl, hb2⟩; have hb3 := Lib.hid (hb.out.trans (hb2.mono hb.out.size)); clear hb2))
        go_ret
        exact ⟨ret_i (by rw [hr0.out hz, hKne'.out hz]), hB.out.trans (hb3.out.mono hB.out.size)⟩
    | 1, _ =>
      have c0 : wr.cell? ⟨g, 1, none⟩ = some (.func (.func 55) #[] #[]) := d3.out.cell 1 rfl
      obtain rfl : 0 = eK := (i1.out (by omega)).symm
      by_cases hz : eN = 0
      · subst hz
        go_wp2_with (first
          | (with_reducible refine wpList_load_at rfl 24 (.tmp 3) rfl Try.underlying24 rfl hs1 rfl d1.out.all ?_)
          | (with_reducible refine wpList_load_at rfl 68 (.tmp 4) rfl Try.underlying68 rfl hs2 rfl d2.out.all ?_)
          | (go_at_call 55; refine (hk2.out _).mono ?_; rintro e w' ⟨rfl, hb2⟩; have hb3 := Lib.hid (hb.out.trans (hb2.mono hb.out.size)); clear hb2))
        go_roundw
        case rel => exact ⟨2, by omega, by go_num, hb3, (by simp [Hid]), (by simp [Hid]), (by simp [Hid])⟩
        case measure => simp [intOf]
      · go_wp2_with (first
          | (with_reducible refine wpList_load_at rfl 24 (.tmp 3) rfl Try.underlying24 rfl hs1 rfl d1.out.all ?_)
          | (with_reducible refine wpList_load_at rfl 68 (.tmp 4) rfl Try.underlying68 rfl hs2 rfl d2.out.all ?_)
          | (go_at_call 55; refine (hk2.out _).mono ?_; rintro e w' ⟨rfl, hb2⟩; have hb3 := Lib.hid (hb.out.trans (hb2.mono hb.out.size)); clear hb2))
        go_ret
        exact ⟨ret_i (by rw [hr1.out (by simp) hz, hNne'.out hz]), hB.out.trans (hb3.out.mono hB.out.size)⟩
    | 2, _ =>
      have c0 : wr.cell? ⟨g, 2, none⟩ = some (.func (.func 56) #[] #[]) := d3.out.cell 2 rfl
      obtain rfl : 0 = eK := (i1.out (by omega)).symm
      obtain rfl : 0 = eN := (i2.out (by omega)).symm
      by_cases hz : eB = 0
      · subst hz
        go_wp2_with (first
          | (with_reducible refine wpList_load_at rfl 24 (.tmp 3) rfl Try.underlying24 rfl hs1 rfl d1.out.all ?_)
          | (with_reducible refine wpList_load_at rfl 68 (.tmp 4) rfl Try.underlying68 rfl hs2 rfl d2.out.all ?_)
          | (go_at_call 56; refine (hk3.out (by simp) _ hb.out).mono ?_; rintro e w' ⟨rfl, hb2⟩; have hb3 := Lib.hid (hb.out.trans (hb2.mono hb.out.size)); clear hb2))
        go_roundw
        case rel => exact ⟨3, by omega, by go_num, hb3, (by simp [Hid]), (by simp [Hid]), (by simp [Hid])⟩
        case measure => simp [intOf]
      · go_wp2_with (first
          | (with_reducible refine wpList_load_at rfl 24 (.tmp 3) rfl Try.underlying24 rfl hs1 rfl d1.out.all ?_)
          | (with_reducible refine wpList_load_at rfl 68 (.tmp 4) rfl Try.underlying68 rfl hs2 rfl d2.out.all ?_)
          | (go_at_call 56; refine (hk3.out (by simp) _ hb.out).mono ?_; rintro e w' ⟨rfl, hb2⟩; have hb3 := Lib.hid (hb.out.trans (hb2.mono hb.out.size)); clear hb2))
        go_ret
        exact ⟨ret_i ((hr2.out (by simp) (by simp)).symm), hB.out.trans (hb3.out.mono hB.out.size)⟩
    | 3, _ =>
      obtain rfl : 0 = eK := (i1.out (by omega)).symm
      obtain rfl : 0 = eN := (i2.out (by omega)).symm
      obtain rfl : 0 = eB := (i3.out (by omega)).symm
      go_wp2
      go_ret
      exact ⟨ret_i (hr2.out (by simp) (by simp)).symm, hB.out.trans (hb.out.mono hB.out.size)⟩

set_option maxRecDepth 100000 in
set_option maxHeartbeats 2000000 in
theorem must1_any (q : Option Addr) (n c : Nat) (bs : List BdD) (t id v : Int) (s : ByteArray) (g : Nat) (w : World) (h : SchOn w q n c bs)
    (hg : Boxed w g [fnV 54]) :
    Calls Try.prog 53 #[.agg #[.slice q n c], .agg #[.int .i64 t, .int .u16 id, .int .i64 v, .string s], .slice (some ⟨g, 0, none⟩) 1 1] w (fun e w' => e = .returned (.int .i64 (keyE bs ⟨t, id⟩)) ∧ Below w.heap.size w w') := by
  have hl := h.len
  have hm := Nat.le_trans h.le h.cap
  unfold maxLen at hm
  obtain ⟨W, hW⟩ : ∃ W, (w.alloc (.cells #[.slice q n c] 24)).alloc (.cells #[.int .i64 t, .int .u16 id, .int .i64 v, .string s] 68) = W := ⟨_, rfl⟩
  have hB : Hid (Below w.heap.size w W) := by show Below _ _ _; rw [← hW]; exact ((Below.refl _ _).alloc (Nat.le_refl _) _).alloc (by simp) _
  have b1 : Hid (Boxed W w.heap.size [.slice q n c]) := by
    show Boxed _ _ _
    rw [← hW]
    exact (Boxed.made w _).below ((Below.refl _ _).alloc (Nat.le_refl _) _) (by simp)
  have b2 : Hid (Boxed W (w.heap.size + 1) [.int .i64 t, .int .u16 id, .int .i64 v, .string s]) := by
    show Boxed _ _ _
    rw [← hW]
    have := Boxed.made (T := 68) (w.alloc (.cells #[.slice q n c] 24)) [.int .i64 t, .int .u16 id, .int .i64 v, .string s]
    simpa using this
  have hf := Lib.hid (hg.below hB.out (Nat.le_refl _))
  have hs1 : (Try.prog.info? 24).map (·.size) = some [Value.slice q n c].length := by kernel_rfl
  have hs2 := sizeRow t id v s
  have hk1 : Hid (∀ u, Calls Try.prog 54 #[.agg #[.slice q n c], .agg #[.int .i64 t, .int .u16 id, .int .i64 v, .string s]] u (fun e w' => e = .returned (.int .i64 (keyE bs ⟨t, id⟩)) ∧ Below u.heap.size u w')) := fun u => keyed_any q n c bs t id v s u hl (by omega)
  obtain ⟨eK, hK⟩ : ∃ x, keyE bs ⟨t, id⟩ = x := ⟨_, rfl⟩
  rw [hK] at hk1 ⊢
  clear hK h hg hl hm
  go_enter Try.func53, Try.ntmps53
  go_wp2
  clear hW
  go_loopw [12] (fun v12 wr => ∃ k : Nat, k ≤ 1 ∧ v12 = .int .i64 k ∧ Hid (Below W.heap.size W wr) ∧ Hid (0 < k → eK = 0)) (fun v12 _ => 1 - (intOf v12).toNat)
  case atStart => exact ⟨0, by omega, rfl, Below.refl _ _, (fun h => by omega)⟩
  case round =>
    obtain ⟨k, hk, rfl, hb, i1⟩ := hrel
    have d1 := Lib.hid (b1.out.below hb.out (Nat.le_refl _))
    have d2 := Lib.hid (b2.out.below hb.out (Nat.le_refl _))
    have d3 := Lib.hid (hf.out.below hb.out (Nat.le_refl _))
    match k, hk with
    | 0, _ =>
      have c0 : wr.cell? ⟨g, 0, none⟩ = some (.func (.func 54) #[] #[]) := d3.out.cell 0 rfl
      by_cases hz : eK = 0
      · subst hz
        go_wp2_with (first
          | (with_reducible refine wpList_load_at rfl 24 (.tmp 3) rfl Try.underlying24 rfl hs1 rfl d1.out.all ?_)
          | (with_reducible refine wpList_load_at rfl 68 (.tmp 4) rfl Try.underlying68 rfl hs2 rfl d2.out.all ?_)
          | (go_at_call 54; refine (hk1.out _).mono ?_; rintro e w' ⟨rfl, hb2⟩; have hb3 := Lib.hid (hb.out.trans (hb2.mono hb.out.size)); clear hb2))
        go_roundw
        case rel => exact ⟨1, by omega, by go_num, hb3, (by simp [Hid])⟩
        case measure => simp [intOf]
      · go_wp2_with (first
          | (with_reducible refine wpList_load_at rfl 24 (.tmp 3) rfl Try.underlying24 rfl hs1 rfl d1.out.all ?_)
          | (with_reducible refine wpList_load_at rfl 68 (.tmp 4) rfl Try.underlying68 rfl hs2 rfl d2.out.all ?_)
          | (go_at_call 54; refine (hk1.out _).mono ?_; rintro e w' ⟨rfl, hb2⟩; have hb3 := Lib.hid (hb.out.trans (hb2.mono hb.out.size)); clear hb2))
        go_ret
        exact ⟨rfl, hB.out.trans (hb3.out.mono hB.out.size)⟩
    | 1, _ =>
      obtain rfl : 0 = eK := (i1.out (by omega)).symm
      go_wp2
      go_ret
      exact ⟨rfl, hB.out.trans (hb.out.mono hB.out.size)⟩
end Go.Proofs.Ytkdkncbccofpdaa
