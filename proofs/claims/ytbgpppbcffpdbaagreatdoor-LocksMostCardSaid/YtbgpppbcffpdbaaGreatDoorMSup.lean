/- least and Sup. -/
import Derived.Test.YtbgpppbcffpdbaaGreatDoorMGoe
namespace Go.Proofs.YtbgpppbcffpdbaaGreatDoor
open Go.RowKit

def stepL (of sup m : Nat) : Nat := if hol (cT m) of && hol (cT sup) (2 ^ m) then m else sup
def supK (of : Nat) : Nat → Nat
  | 0 => 5
  | k + 1 => stepL of (supK of k) k
theorem supK_lt (of : Nat) : ∀ k, k ≤ 7 → supK of k < 7
  | 0, _ => by show 5 < 7; decide
  | k + 1, h => by
    have ih := supK_lt of k (by omega)
    show stepL of (supK of k) k < 7
    unfold stepL
    split <;> omega

set_option maxRecDepth 100000 in
theorem least_any (of : Nat) (w : World) (hC : LaidC w) (ho : of < 128) :
    Calls Tryz.prog 144 #[.int .u8 of] w (fun e w' => e = .returned (.int .i64 (supK of 7 : Nat)) ∧ Below w.heap.size w w') := by
  have hC1 := Lib.hid hC
  clear hC
  go_enter Tryz.func144, Tryz.ntmps144
  go_wp2
  go_loopw [3, 5] (fun v3 v5 wr => ∃ k : Nat, k ≤ 7 ∧ v5 = .int .i64 k ∧ v3 = .int .i64 (supK of k : Nat) ∧ Hid (Below w.heap.size w wr)) (fun _ v5 _ => 7 - (intOf v5).toNat)
  case atStart => exact ⟨0, Nat.zero_le _, rfl, rfl, Below.refl _ _⟩
  case round =>
    obtain ⟨k, hk, rfl, rfl, hr⟩ := hrel
    by_cases hlt : k < 7
    · have c0 := (hC1.out.below hr.out) k hlt
      have hs7 := supK_lt of k hk
      obtain ⟨s, hs⟩ : ∃ s, supK of k = s := ⟨_, rfl⟩
      rw [hs] at hs7 ⊢
      have c1 := (hC1.out.below hr.out) s hs7
      have hho := Lib.hid (fun u => holds_any (cT k) of u (cT_lt k hlt) ho)
      have hk7 : (k : Int) < 7 := by omega
      have hsi : (s : Int) < 7 := by omega
      rcases Bool.eq_false_or_eq_true (hol (cT k) of) with h1 | h1
      · rw [h1] at hho
        have hso := Lib.hid (fun g u h => setOf_any g 1 1 [k] u rfl h (by decide) (by simpa using hlt))
        rw [setN_one] at hso
        have hh2 := Lib.hid (fun u => holds_any (cT s) (2 ^ k) u (cT_lt s hs7) (two_lt k hlt))
        obtain ⟨t, ht⟩ : ∃ t, 2 ^ k = t := ⟨_, rfl⟩
        rw [ht] at hso hh2
        rcases Bool.eq_false_or_eq_true (hol (cT s) t) with h2 | h2
        all_goals
          rw [h2] at hh2
          have hnx : Hid (supK of (k + 1) = if hol (cT s) t then k else s) := by
            show stepL of (supK of k) k = _
            unfold stepL
            rw [hs, h1, ht, h2]; rfl
          rw [h2] at hnx
          clear hs h1 h2 ht
          go_wp2
          go_region_held3 (fun u => u.cell? ⟨0, k, none⟩ = some (.int .u8 (cT k : Nat)) ∧ u.cell? ⟨0, s, none⟩ = some (.int .u8 (cT s : Nat)) ∧ Below w.heap.size w u)
            (first | exact ⟨c0, c1, below_step (below_drew _) hr.out⟩ | (go_split_ands; exact ⟨by assumption, by assumption, by assumption⟩) | (go_split_ands; exact ⟨cell_keeps (below_alloc _ _) (Nat.le_refl _) (by assumption), cell_keeps (below_alloc _ _) (Nat.le_refl _) (by assumption), below_step (below_alloc _ _) (by assumption)⟩))
            (first
              | (go_at_call 56; (with_reducible refine (hho.out _).mono ?_); rintro e u3 ⟨rfl, rfl⟩)
              | (go_at_call 56; (with_reducible refine (hh2.out _).mono ?_); rintro e u3 ⟨rfl, rfl⟩)
              | (go_at_call 57; refine (hso.out _ _ ?_).mono ?_; (· exact Ints.new _ [(k : Int)] _ _ _ (by simp) rfl); rintro e u2 ⟨rfl, rfl⟩))
          go_wp2
          go_roundw
          case rel =>
            refine ⟨k + 1, by omega, by go_num, by rw [hnx.out]; rfl, ?_⟩
            show Below _ _ _
            go_split_ands
            assumption
          case measure => simp [intOf]; omega
      · rw [h1] at hho
        have hnx : Hid (supK of (k + 1) = s) := by
          show stepL of (supK of k) k = _
          unfold stepL
          rw [hs, h1]; rfl
        clear hs h1
        go_wp2
        have c0' : (wr.drew).cell? ⟨0, k, none⟩ = some (.int .u8 (cT k : Nat)) := c0
        refine wp_region_held (S := fun u => u.cell? ⟨0, k, none⟩ = some (.int .u8 (cT k : Nat))) (by kernel_rfl) ?_
        have hW1 : ({ wr with drawn := wr.drawn + 1 } : World) = wr.drew := rfl
        rw [hW1]
        clear hW1
        refine held_take (i := 0) (dst := some 8) rfl rfl (by kernel_rfl) (by kernel_rfl) (by kernel_rfl) (fun _ _ _ h => h) (y_move (.tmp 4) rfl rfl rfl) c0' ?_
        go_frame
        refine held_take (i := 1) (dst := some 9) (v := .pointer (some ⟨0, k, none⟩)) rfl rfl (by kernel_rfl) (by kernel_rfl) (by kernel_rfl) (fun _ _ _ h => h) (.inl ⟨rfl, fun W hW => by go_simp⟩) c0' ?_
        go_frame
        refine held_take (i := 2) (dst := some 10) (v := .int .u8 (cT k : Nat)) rfl rfl (by kernel_rfl) (by kernel_rfl) (by kernel_rfl) (fun _ _ _ h => h) (.inl ⟨rfl, fun W hW => by have c9 : W.cell? ⟨0, k, none⟩ = some (.int .u8 (cT k : Nat)) := hW; go_simp⟩) c0' ?_
        go_frame
        refine held_take (i := 3) (dst := some 11) rfl rfl (by kernel_rfl) (by kernel_rfl) (by kernel_rfl) (fun _ _ _ h => h) (y_move (.tmp 0) rfl rfl rfl) c0' ?_
        go_frame
        refine held_call (i := 4) (dst := some 12) rfl rfl (by kernel_rfl) rfl (by go_simp) (hho.out _) ?_
        rintro e u1 ⟨rfl, rfl⟩
        refine ⟨_, rfl, c0', ?_⟩
        go_frame
        refine held_take (i := 5) (dst := some 13) rfl rfl (by kernel_rfl) (by kernel_rfl) (by kernel_rfl) (fun _ _ _ h => h) (y_move (.tmp 12) rfl rfl rfl) c0' ?_
        go_frame
        refine held_take (i := 6) (dst := some 14) (v := undef) rfl rfl (by kernel_rfl) (by kernel_rfl) (by kernel_rfl) (fun _ _ _ h => h) (.inr ⟨rfl, rfl⟩) c0' ?_
        go_frame
        refine held_take (i := 7) (dst := some 15) (v := undef) rfl rfl (by kernel_rfl) (by kernel_rfl) (by kernel_rfl) (fun _ _ _ h => h) (.inr ⟨rfl, rfl⟩) c0' ?_
        go_frame
        refine held_take (i := 8) (dst := some 16) (v := undef) rfl rfl (by kernel_rfl) (by kernel_rfl) (by kernel_rfl) (fun _ _ _ h => h) (.inr ⟨rfl, rfl⟩) c0' ?_
        go_frame
        refine held_take (i := 9) (dst := some 17) (v := undef) rfl rfl (by kernel_rfl) (by kernel_rfl) (by kernel_rfl) (fun _ _ _ h => h) (.inr ⟨rfl, rfl⟩) c0' ?_
        go_frame
        refine held_take (i := 10) (dst := some 18) (v := undef) rfl rfl (by kernel_rfl) (by kernel_rfl) (by kernel_rfl) (fun _ _ _ h => h) (.inr ⟨rfl, rfl⟩) c0' ?_
        go_frame
        refine held_take (i := 11) (dst := some 19) (v := undef) rfl rfl (by kernel_rfl) (by kernel_rfl) (by kernel_rfl) (fun _ _ _ h => h) (.inr ⟨rfl, rfl⟩) c0' ?_
        go_frame
        refine held_take (i := 12) (dst := some 20) (v := undef) rfl rfl (by kernel_rfl) (by kernel_rfl) (by kernel_rfl) (fun _ _ _ h => h) (.inr ⟨rfl, rfl⟩) c0' ?_
        go_frame
        refine held_take (i := 13) (dst := some 21) (v := .bool false) rfl rfl (by kernel_rfl) (by kernel_rfl) (by kernel_rfl) (fun _ _ _ h => h) (.inl ⟨rfl, fun W hW => by go_simp⟩) c0' ?_
        go_frame
        refine wpAnyH_done (by kernel_rfl) ?_ _
        go_wp2
        go_roundw
        case rel => exact ⟨k + 1, by omega, by go_num, by rw [hnx.out], below_step (below_drew _) hr.out⟩
        case measure => simp [intOf]; omega
    · obtain rfl : k = 7 := by omega
      go_wp2
      go_ret
      exact ⟨rfl, hr.out⟩

def tabs (x y : Nat) : Bool := hol 63 (setN [x, y])
def keyz (x y : Nat) : Bool := hol 105 (setN [x, y])
def supT (x y : Nat) : Nat := supK (setN [x, y]) 7

set_option maxRecDepth 100000 in
theorem sup_arg (x y : Nat) (hx : x < 7) (hy : y < 7) (w : World) (h1 : tabs x y = false) (h2 : keyz x y = false) :
    Calls Tryz.prog 107 #[.int .i64 x, .int .i64 y] w (fun e w' => e = .returned (.tuple #[.int .i64 0, .int .i64 2]) ∧ Below w.heap.size w w') := by
  have hm : allM [(x : Int), (y : Int)] = true := by unfold allM; simp [isM_of hx, isM_of hy]
  have ham := Lib.hid (fun g u h => areModes_any g 2 2 [(x : Int), (y : Int)] u rfl h (by decide))
  rw [hm] at ham
  have hl : ∀ m ∈ [x, y], m < 7 := by simp [hx, hy]
  have hso := Lib.hid (fun g u h => setOf_any g 2 2 [x, y] u rfl h (by decide) hl)
  have hlt := setN_lt hl
  obtain ⟨t, ht⟩ : ∃ t, setN [x, y] = t := ⟨_, rfl⟩
  rw [ht] at hso hlt
  try rw [ht] at ho
  have hht := Lib.hid (fun u => holds_any 63 t u (by decide) hlt)
  have hhk := Lib.hid (fun u => holds_any 105 t u (by decide) hlt)
  unfold tabs at h1
  unfold keyz at h2
  rw [ht] at h1 h2
  rw [h1] at hht
  rw [h2] at hhk
  clear h1 h2
  clear hm ht
  obtain ⟨W, hW⟩ : ∃ W, w.alloc (.cells #[.int .i64 x, .int .i64 y] 3) = W := ⟨_, rfl⟩
  have hi : Hid (Ints W w.heap.size [(x : Int), (y : Int)]) := by rw [← hW]; exact Ints.new w [(x : Int), (y : Int)] _ _ _ rfl rfl
  have hb : Hid (Below w.heap.size w W) := by rw [← hW]; exact below_alloc _ _
  go_enter Tryz.func107, Tryz.ntmps107
  go_wp2_with fail
  clear hW
  refine (ham.out _ _ hi.out).mono ?_
  rintro e w1 ⟨rfl, rfl⟩
  obtain ⟨W2, hW2⟩ : ∃ W2, W.alloc (.cells #[.int .i64 x, .int .i64 y] 3) = W2 := ⟨_, rfl⟩
  have hi2 : Hid (Ints W2 W.heap.size [(x : Int), (y : Int)]) := by rw [← hW2]; exact Ints.new W [(x : Int), (y : Int)] _ _ _ rfl rfl
  have hb2 : Hid (Below w.heap.size w W2) := by rw [← hW2]; exact below_step (below_alloc _ _) hb.out
  go_wp2_with fail
  clear hW2
  refine (hso.out _ _ hi2.out).mono ?_
  rintro e w2 ⟨rfl, rfl⟩
  go_wp2_with fail
  refine (tables_any _).mono ?_
  rintro e w3 ⟨rfl, hb3'⟩
  have hb3 := Lib.hid (below_step hb3' hb2.out)
  clear hb3'
  go_wp2_with fail
  refine (hht.out _).mono ?_
  rintro e w4 ⟨rfl, rfl⟩
  go_wp2_with fail
  refine (keys_any _).mono ?_
  rintro e w5 ⟨rfl, hb5'⟩
  have hb5 := Lib.hid (below_step hb5' hb3.out)
  clear hb5'
  go_wp2_with fail
  refine (hhk.out _).mono ?_
  rintro e w6 ⟨rfl, rfl⟩
  go_wp2
  go_ret2
  exact ⟨rfl, hb5.out⟩

set_option maxRecDepth 100000 in
theorem sup_tab (x y : Nat) (hx : x < 7) (hy : y < 7) (w : World) (hC : LaidC w) (h1 : tabs x y = true) :
    Calls Tryz.prog 107 #[.int .i64 x, .int .i64 y] w (fun e w' => e = .returned (.tuple #[.int .i64 (supT x y : Nat), .int .i64 0]) ∧ Below w.heap.size w w') := by
  have hm : allM [(x : Int), (y : Int)] = true := by unfold allM; simp [isM_of hx, isM_of hy]
  have ham := Lib.hid (fun g u h => areModes_any g 2 2 [(x : Int), (y : Int)] u rfl h (by decide))
  rw [hm] at ham
  have hl : ∀ m ∈ [x, y], m < 7 := by simp [hx, hy]
  have hso := Lib.hid (fun g u h => setOf_any g 2 2 [x, y] u rfl h (by decide) hl)
  have hlt := setN_lt hl
  obtain ⟨t, ht⟩ : ∃ t, setN [x, y] = t := ⟨_, rfl⟩
  rw [ht] at hso hlt
  try rw [ht] at ho
  have hht := Lib.hid (fun u => holds_any 63 t u (by decide) hlt)
  have hhk := Lib.hid (fun u => holds_any 105 t u (by decide) hlt)
  have hle := Lib.hid (fun u h => least_any t u h hlt)
  have hC1 := Lib.hid hC
  clear hC
  have hs : supT x y = supK t 7 := by unfold supT; rw [ht]
  rw [hs]
  clear hs
  unfold tabs at h1
  rw [ht] at h1
  rw [h1] at hht
  clear h1
  clear hm ht
  obtain ⟨W, hW⟩ : ∃ W, w.alloc (.cells #[.int .i64 x, .int .i64 y] 3) = W := ⟨_, rfl⟩
  have hi : Hid (Ints W w.heap.size [(x : Int), (y : Int)]) := by rw [← hW]; exact Ints.new w [(x : Int), (y : Int)] _ _ _ rfl rfl
  have hb : Hid (Below w.heap.size w W) := by rw [← hW]; exact below_alloc _ _
  go_enter Tryz.func107, Tryz.ntmps107
  go_wp2_with fail
  clear hW
  refine (ham.out _ _ hi.out).mono ?_
  rintro e w1 ⟨rfl, rfl⟩
  obtain ⟨W2, hW2⟩ : ∃ W2, W.alloc (.cells #[.int .i64 x, .int .i64 y] 3) = W2 := ⟨_, rfl⟩
  have hi2 : Hid (Ints W2 W.heap.size [(x : Int), (y : Int)]) := by rw [← hW2]; exact Ints.new W [(x : Int), (y : Int)] _ _ _ rfl rfl
  have hb2 : Hid (Below w.heap.size w W2) := by rw [← hW2]; exact below_step (below_alloc _ _) hb.out
  go_wp2_with fail
  clear hW2
  refine (hso.out _ _ hi2.out).mono ?_
  rintro e w2 ⟨rfl, rfl⟩
  go_wp2_with fail
  refine (tables_any _).mono ?_
  rintro e w3 ⟨rfl, hb3'⟩
  have hb3 := Lib.hid (below_step hb3' hb2.out)
  clear hb3'
  go_wp2_with fail
  refine (hht.out _).mono ?_
  rintro e w4 ⟨rfl, rfl⟩
  go_wp2_with fail
  refine (hle.out _ (hC1.out.below hb3.out)).mono ?_
  rintro e w7 ⟨rfl, hb7⟩
  go_wp2
  go_ret2
  exact ⟨rfl, below_step hb7 hb3.out⟩

set_option maxRecDepth 100000 in
theorem sup_key (x y : Nat) (hx : x < 7) (hy : y < 7) (w : World) (hC : LaidC w) (h1 : tabs x y = false) (h2 : keyz x y = true) :
    Calls Tryz.prog 107 #[.int .i64 x, .int .i64 y] w (fun e w' => e = .returned (.tuple #[.int .i64 (supT x y : Nat), .int .i64 0]) ∧ Below w.heap.size w w') := by
  have hm : allM [(x : Int), (y : Int)] = true := by unfold allM; simp [isM_of hx, isM_of hy]
  have ham := Lib.hid (fun g u h => areModes_any g 2 2 [(x : Int), (y : Int)] u rfl h (by decide))
  rw [hm] at ham
  have hl : ∀ m ∈ [x, y], m < 7 := by simp [hx, hy]
  have hso := Lib.hid (fun g u h => setOf_any g 2 2 [x, y] u rfl h (by decide) hl)
  have hlt := setN_lt hl
  obtain ⟨t, ht⟩ : ∃ t, setN [x, y] = t := ⟨_, rfl⟩
  rw [ht] at hso hlt
  try rw [ht] at ho
  have hht := Lib.hid (fun u => holds_any 63 t u (by decide) hlt)
  have hhk := Lib.hid (fun u => holds_any 105 t u (by decide) hlt)
  have hle := Lib.hid (fun u h => least_any t u h hlt)
  have hC1 := Lib.hid hC
  clear hC
  have hs : supT x y = supK t 7 := by unfold supT; rw [ht]
  rw [hs]
  clear hs
  unfold tabs at h1
  unfold keyz at h2
  rw [ht] at h1 h2
  rw [h1] at hht
  rw [h2] at hhk
  clear h1 h2
  clear hm ht
  obtain ⟨W, hW⟩ : ∃ W, w.alloc (.cells #[.int .i64 x, .int .i64 y] 3) = W := ⟨_, rfl⟩
  have hi : Hid (Ints W w.heap.size [(x : Int), (y : Int)]) := by rw [← hW]; exact Ints.new w [(x : Int), (y : Int)] _ _ _ rfl rfl
  have hb : Hid (Below w.heap.size w W) := by rw [← hW]; exact below_alloc _ _
  go_enter Tryz.func107, Tryz.ntmps107
  go_wp2_with fail
  clear hW
  refine (ham.out _ _ hi.out).mono ?_
  rintro e w1 ⟨rfl, rfl⟩
  obtain ⟨W2, hW2⟩ : ∃ W2, W.alloc (.cells #[.int .i64 x, .int .i64 y] 3) = W2 := ⟨_, rfl⟩
  have hi2 : Hid (Ints W2 W.heap.size [(x : Int), (y : Int)]) := by rw [← hW2]; exact Ints.new W [(x : Int), (y : Int)] _ _ _ rfl rfl
  have hb2 : Hid (Below w.heap.size w W2) := by rw [← hW2]; exact below_step (below_alloc _ _) hb.out
  go_wp2_with fail
  clear hW2
  refine (hso.out _ _ hi2.out).mono ?_
  rintro e w2 ⟨rfl, rfl⟩
  go_wp2_with fail
  refine (tables_any _).mono ?_
  rintro e w3 ⟨rfl, hb3'⟩
  have hb3 := Lib.hid (below_step hb3' hb2.out)
  clear hb3'
  go_wp2_with fail
  refine (hht.out _).mono ?_
  rintro e w4 ⟨rfl, rfl⟩
  go_wp2_with fail
  refine (keys_any _).mono ?_
  rintro e w5 ⟨rfl, hb5'⟩
  have hb5 := Lib.hid (below_step hb5' hb3.out)
  clear hb5'
  go_wp2_with fail
  refine (hhk.out _).mono ?_
  rintro e w6 ⟨rfl, rfl⟩
  go_wp2_with fail
  refine (hle.out _ (hC1.out.below hb5.out)).mono ?_
  rintro e w7 ⟨rfl, hb7⟩
  go_wp2
  go_ret2
  exact ⟨rfl, below_step hb7 hb5.out⟩

theorem sup_no (a b : Int) (w : World) (hm : allM [a, b] = false) :
    Calls Tryz.prog 107 #[.int .i64 a, .int .i64 b] w (fun e w' => e = .returned (.tuple #[.int .i64 0, .int .i64 170]) ∧ Below w.heap.size w w') := by
  have ham := Lib.hid (fun g u h => areModes_any g 2 2 [a, b] u rfl h (by decide))
  rw [hm] at ham
  clear hm
  obtain ⟨W, hW⟩ : ∃ W, w.alloc (.cells #[.int .i64 a, .int .i64 b] 3) = W := ⟨_, rfl⟩
  have hi : Hid (Ints W w.heap.size [a, b]) := by rw [← hW]; exact Ints.new w [a, b] _ _ _ rfl rfl
  have hb : Hid (Below w.heap.size w W) := by rw [← hW]; exact below_alloc _ _
  go_enter Tryz.func107, Tryz.ntmps107
  go_wp2_with fail
  clear hW
  refine (ham.out _ _ hi.out).mono ?_
  rintro e w1 ⟨rfl, rfl⟩
  go_wp2
  go_ret2
  exact ⟨rfl, hb.out⟩

/-- what Sup answers -/
def supE (a b : Int) : Int := if isM a && isM b then (if tabs a.toNat b.toNat || keyz a.toNat b.toNat then 0 else 2) else 170
def supM (a b : Int) : Int := if isM a && isM b && (tabs a.toNat b.toNat || keyz a.toNat b.toNat) then (supT a.toNat b.toNat : Nat) else 0

theorem sup_any (a b : Int) (w : World) (hC : LaidC w) :
    Calls Tryz.prog 107 #[.int .i64 a, .int .i64 b] w (fun e w' => e = .returned (.tuple #[.int .i64 (supM a b), .int .i64 (supE a b)]) ∧ Below w.heap.size w w') := by
  rcases Bool.eq_false_or_eq_true (isM a) with ha | ha
  · rcases Bool.eq_false_or_eq_true (isM b) with hb | hb
    · obtain ⟨x, hx, rfl⟩ := isM_nat ha
      obtain ⟨y, hy, rfl⟩ := isM_nat hb
      rcases Bool.eq_false_or_eq_true (tabs x y) with h1 | h1
      · have e1 : supM x y = (supT x y : Nat) := by simp [supM, ha, hb, h1]
        have e2 : supE x y = 0 := by simp [supE, ha, hb, h1]
        rw [e1, e2]
        exact sup_tab x y hx hy w hC h1
      · rcases Bool.eq_false_or_eq_true (keyz x y) with h2 | h2
        · have e1 : supM x y = (supT x y : Nat) := by simp [supM, ha, hb, h1, h2]
          have e2 : supE x y = 0 := by simp [supE, ha, hb, h1, h2]
          rw [e1, e2]
          exact sup_key x y hx hy w hC h1 h2
        · have e1 : supM x y = 0 := by simp [supM, ha, hb, h1, h2]
          have e2 : supE x y = 2 := by simp [supE, ha, hb, h1, h2]
          rw [e1, e2]
          exact sup_arg x y hx hy w h1 h2
    · have e1 : supM a b = 0 := by simp [supM, hb]
      have e2 : supE a b = 170 := by simp [supE, hb]
      rw [e1, e2]
      exact sup_no a b w (by unfold allM; simp [hb])
  · have e1 : supM a b = 0 := by simp [supM, ha]
    have e2 : supE a b = 170 := by simp [supE, ha]
    rw [e1, e2]
    exact sup_no a b w (by unfold allM; simp [ha])

end Go.Proofs.YtbgpppbcffpdbaaGreatDoor
