/- Goes, Covers, OfTables, OfKeys. -/
import Derived.Test.YtbgpppbcffpdbaaGreatDoorMMth
import Derived.Deep.RegionHeld3
import Derived.Deep.DeepCutAuto
import Derived.Test.YtbgpppbcffpdbaaGreatDoorHeld
namespace Go.Proofs.YtbgpppbcffpdbaaGreatDoor
open Go.RowKit

/-- the tables lie where the program laid them -/
def LaidG (w : World) : Prop := ∀ i, i < 7 → w.cell? ⟨1, i, none⟩ = some (.int .u8 (gT i : Nat))
def LaidC (w : World) : Prop := ∀ i, i < 7 → w.cell? ⟨0, i, none⟩ = some (.int .u8 (cT i : Nat))
theorem cell_keeps {B : Nat} {w w' : World} (hb : Below B w w') (hB : w.heap.size ≤ B) {a : Addr} {v : Value} (h : w.cell? a = some v) : w'.cell? a = some v := by
  rw [hb.cell (Nat.lt_of_lt_of_le (World.block_lt_of_cell? w _ h) hB)]; exact h
theorem LaidG.below {w w' : World} (h : LaidG w) (hb : Below w.heap.size w w') : LaidG w' := fun i hi => cell_keeps hb (Nat.le_refl _) (h i hi)
theorem LaidC.below {w w' : World} (h : LaidC w) (hb : Below w.heap.size w w') : LaidC w' := fun i hi => cell_keeps hb (Nat.le_refl _) (h i hi)
theorem LaidG.size {w : World} (h : LaidG w) : 0 < w.heap.size := Nat.lt_of_le_of_lt (Nat.zero_le _) (World.block_lt_of_cell? w _ (h 0 (by decide)))
theorem below_drew (w : World) : Below w.heap.size w w.drew := ⟨rfl, rfl, rfl, Nat.le_refl _, fun _ _ => rfl⟩
theorem below_step {W u v : World} (h2 : Below u.heap.size u v) (h : Below W.heap.size W u) : Below W.heap.size W v := h.trans (h2.mono h.size)
theorem below_alloc (w : World) (b : Obj) : Below w.heap.size w (w.alloc b) := (Below.refl _ _).alloc (Nat.le_refl _) b

theorem Ints.new (w : World) (l : List Int) (T : TypeId) (cs : Array Value) (g : Nat) (hg : w.heap.size = g) (h : cs = (l.map (Value.int .i64)).toArray) : Ints (w.alloc (.cells cs T)) g l := by
  subst hg
  exact Ints.built w l T cs h
def goesB (a b : Int) : Bool := isM a && isM b && hol (gT a.toNat) (2 ^ b.toNat)
def covB (a b : Int) : Bool := isM a && isM b && hol (cT a.toNat) (2 ^ b.toNat)
theorem setN_one (b : Nat) : setN [b] = 2 ^ b := by simp [setN]
theorem two_lt : ∀ m : Nat, m < 7 → 2 ^ m < 128 := by decide

theorem goes_in (a b : Nat) (ha : a < 7) (hb : b < 7) (w : World) (hG : LaidG w) :
    Calls Tryz.prog 54 #[.int .i64 a, .int .i64 b] w (fun e w' => e = .returned (.bool (hol (gT a) (2 ^ b))) ∧ Below w.heap.size w w') := by
  have c0 := hG a ha
  have hm : allM [(a : Int), (b : Int)] = true := by unfold allM; simp [isM_of ha, isM_of hb]
  have ham := Lib.hid (fun g u h => areModes_any g 2 2 [(a : Int), (b : Int)] u rfl h (by decide))
  rw [hm] at ham
  have hso := Lib.hid (fun g u h => setOf_any g 1 1 [b] u rfl h (by decide) (by simpa using hb))
  rw [setN_one] at hso
  have hho := Lib.hid (fun u => holds_any (gT a) (2 ^ b) u (gT_lt a ha) (two_lt b hb))
  have ha7 : (a : Int) < 7 := by omega
  clear hm hG
  go_enter Tryz.func54, Tryz.ntmps54
  go_wp2
  go_region_held3 (fun u => u.cell? ⟨1, a, none⟩ = some (.int .u8 (gT a : Nat)) ∧ Below w.heap.size w u)
    (first | exact ⟨c0, below_drew _⟩ | (go_split_ands; exact ⟨by assumption, by assumption⟩) | (go_split_ands; exact ⟨cell_keeps (below_alloc _ _) (Nat.le_refl _) (by assumption), below_step (below_alloc _ _) (by assumption)⟩))
    (first
      | (go_at_call 55; refine (ham.out _ _ ?_).mono ?_; (· exact Ints.new _ [(a : Int), (b : Int)] _ _ _ (by simp) rfl); rintro e u1 ⟨rfl, rfl⟩)
      | (go_at_call 57; refine (hso.out _ _ ?_).mono ?_; (· exact Ints.new _ [(b : Int)] _ _ _ (by simp) rfl); rintro e u2 ⟨rfl, rfl⟩)
      | (go_at_call 56; refine (hho.out _).mono ?_; rintro e u3 ⟨rfl, rfl⟩))
  go_wp2
  go_ret
  refine ⟨rfl, ?_⟩
  go_split_ands
  assumption

theorem goes_out (a b : Int) (w : World) (hm : allM [a, b] = false) : Calls Tryz.prog 54 #[.int .i64 a, .int .i64 b] w (fun e w' => e = .returned (.bool false) ∧ Below w.heap.size w w') := by
  have ham := Lib.hid (fun g u h => areModes_any g 2 2 [a, b] u rfl h (by decide))
  rw [hm] at ham
  clear hm
  go_enter Tryz.func54, Tryz.ntmps54
  go_wp2
  refine wp_region_held (S := fun _ => True) (by kernel_rfl) ?_
  have hW1 : ({ w with drawn := w.drawn + 1 } : World) = w.drew := rfl
  rw [hW1]
  clear hW1
  have hi : Hid (Ints (w.drew.alloc (.cells #[.int .i64 a, .int .i64 b] 3)) w.heap.size [a, b]) := Ints.new w.drew [a, b] _ _ _ rfl rfl
  have hbl : Hid (Below w.heap.size w (w.drew.alloc (.cells #[.int .i64 a, .int .i64 b] 3))) := below_step (below_alloc _ _) (below_drew _)
  obtain ⟨W, hW⟩ : ∃ W, w.drew.alloc (.cells #[.int .i64 a, .int .i64 b] 3) = W := ⟨_, rfl⟩
  rw [hW] at hi hbl
  refine held_take (i := 0) (dst := some 5) rfl rfl (by kernel_rfl) (by kernel_rfl) (by kernel_rfl) (fun _ _ _ h => h) (y_move (.tmp 0) rfl rfl rfl) trivial ?_
  go_frame
  refine held_take (i := 1) (dst := some 6) rfl rfl (by kernel_rfl) (by kernel_rfl) (by kernel_rfl) (fun _ _ _ h => h) (y_move (.tmp 1) rfl rfl rfl) trivial ?_
  go_frame
  refine held_value (i := 2) (dst := some 7) (w' := W) (v := .slice (some ⟨w.heap.size, 0, none⟩) 2 2) rfl rfl (by kernel_rfl) rfl (by rw [← hW]; go_simp) trivial ?_
  go_frame
  clear hW
  refine held_call (i := 3) (dst := some 8) rfl rfl (by kernel_rfl) rfl (by go_simp) (ham.out _ _ hi.out) ?_
  rintro e u1 ⟨rfl, rfl⟩
  refine ⟨_, rfl, trivial, ?_⟩
  go_frame
  refine held_take (i := 4) (dst := some 9) rfl rfl (by kernel_rfl) (by kernel_rfl) (by kernel_rfl) (fun _ _ _ h => h) (y_move (.tmp 8) rfl rfl rfl) trivial ?_
  go_frame
  refine held_take (i := 5) (dst := some 10) (v := undef) rfl rfl (by kernel_rfl) (by kernel_rfl) (by kernel_rfl) (fun _ _ _ h => h) (.inr ⟨rfl, rfl⟩) trivial ?_
  go_frame
  refine held_take (i := 6) (dst := some 11) (v := undef) rfl rfl (by kernel_rfl) (by kernel_rfl) (by kernel_rfl) (fun _ _ _ h => h) (.inr ⟨rfl, rfl⟩) trivial ?_
  go_frame
  refine held_take (i := 7) (dst := some 12) (v := undef) rfl rfl (by kernel_rfl) (by kernel_rfl) (by kernel_rfl) (fun _ _ _ h => h) (.inr ⟨rfl, rfl⟩) trivial ?_
  go_frame
  refine held_take (i := 8) (dst := some 13) (v := undef) rfl rfl (by kernel_rfl) (by kernel_rfl) (by kernel_rfl) (fun _ _ _ h => h) (.inr ⟨rfl, rfl⟩) trivial ?_
  go_frame
  refine held_take (i := 9) (dst := some 14) (v := undef) rfl rfl (by kernel_rfl) (by kernel_rfl) (by kernel_rfl) (fun _ _ _ h => h) (.inr ⟨rfl, rfl⟩) trivial ?_
  go_frame
  refine held_take (i := 10) (dst := some 15) (v := undef) rfl rfl (by kernel_rfl) (by kernel_rfl) (by kernel_rfl) (fun _ _ _ h => h) (.inr ⟨rfl, rfl⟩) trivial ?_
  go_frame
  refine held_take (i := 11) (dst := some 16) (v := undef) rfl rfl (by kernel_rfl) (by kernel_rfl) (by kernel_rfl) (fun _ _ _ h => h) (.inr ⟨rfl, rfl⟩) trivial ?_
  go_frame
  refine held_take (i := 12) (dst := some 17) (v := .bool false) rfl rfl (by kernel_rfl) (by kernel_rfl) (by kernel_rfl) (fun _ _ _ h => h) (.inl ⟨rfl, fun W _ => by go_simp⟩) trivial ?_
  go_frame
  refine held_take (i := 13) (dst := some 4) (v := .bool false) rfl rfl (by kernel_rfl) (by kernel_rfl) (by kernel_rfl) (fun _ _ _ h => h) (.inl ⟨rfl, fun W _ => by go_simp⟩) trivial ?_
  go_frame
  refine wpAnyH_done (by kernel_rfl) ?_ _
  go_wp2
  go_ret
  exact ⟨rfl, hbl.out⟩

theorem goes_any (a b : Int) (w : World) (hG : LaidG w) : Calls Tryz.prog 54 #[.int .i64 a, .int .i64 b] w (fun e w' => e = .returned (.bool (goesB a b)) ∧ Below w.heap.size w w') := by
  rcases Bool.eq_false_or_eq_true (isM a) with ha | ha
  · rcases Bool.eq_false_or_eq_true (isM b) with hb | hb
    · obtain ⟨x, hx, rfl⟩ := isM_nat ha
      obtain ⟨y, hy, rfl⟩ := isM_nat hb
      have e : goesB x y = hol (gT x) (2 ^ y) := by unfold goesB; rw [ha, hb]; rfl
      rw [e]
      exact goes_in x y hx hy w hG
    · have e : goesB a b = false := by unfold goesB; rw [ha, hb]; rfl
      rw [e]
      exact goes_out a b w (by unfold allM; simp [ha, hb])
  · have e : goesB a b = false := by unfold goesB; rw [ha]; rfl
    rw [e]
    exact goes_out a b w (by unfold allM; simp [ha])

theorem cov_in (a b : Nat) (ha : a < 7) (hb : b < 7) (w : World) (hC : LaidC w) :
    Calls Tryz.prog 28 #[.int .i64 a, .int .i64 b] w (fun e w' => e = .returned (.bool (hol (cT a) (2 ^ b))) ∧ Below w.heap.size w w') := by
  have c0 := hC a ha
  have hm : allM [(a : Int), (b : Int)] = true := by unfold allM; simp [isM_of ha, isM_of hb]
  have ham := Lib.hid (fun g u h => areModes_any g 2 2 [(a : Int), (b : Int)] u rfl h (by decide))
  rw [hm] at ham
  have hso := Lib.hid (fun g u h => setOf_any g 1 1 [b] u rfl h (by decide) (by simpa using hb))
  rw [setN_one] at hso
  have hho := Lib.hid (fun u => holds_any (cT a) (2 ^ b) u (cT_lt a ha) (two_lt b hb))
  have ha7 : (a : Int) < 7 := by omega
  clear hm hC
  go_enter Tryz.func28, Tryz.ntmps28
  go_wp2
  go_region_held3 (fun u => u.cell? ⟨0, a, none⟩ = some (.int .u8 (cT a : Nat)) ∧ Below w.heap.size w u)
    (first | exact ⟨c0, below_drew _⟩ | (go_split_ands; exact ⟨by assumption, by assumption⟩) | (go_split_ands; exact ⟨cell_keeps (below_alloc _ _) (Nat.le_refl _) (by assumption), below_step (below_alloc _ _) (by assumption)⟩))
    (first
      | (go_at_call 55; refine (ham.out _ _ ?_).mono ?_; (· exact Ints.new _ [(a : Int), (b : Int)] _ _ _ (by simp) rfl); rintro e u1 ⟨rfl, rfl⟩)
      | (go_at_call 57; refine (hso.out _ _ ?_).mono ?_; (· exact Ints.new _ [(b : Int)] _ _ _ (by simp) rfl); rintro e u2 ⟨rfl, rfl⟩)
      | (go_at_call 56; refine (hho.out _).mono ?_; rintro e u3 ⟨rfl, rfl⟩))
  go_wp2
  go_ret
  refine ⟨rfl, ?_⟩
  go_split_ands
  assumption

theorem cov_out (a b : Int) (w : World) (hm : allM [a, b] = false) : Calls Tryz.prog 28 #[.int .i64 a, .int .i64 b] w (fun e w' => e = .returned (.bool false) ∧ Below w.heap.size w w') := by
  have ham := Lib.hid (fun g u h => areModes_any g 2 2 [a, b] u rfl h (by decide))
  rw [hm] at ham
  clear hm
  go_enter Tryz.func28, Tryz.ntmps28
  go_wp2
  refine wp_region_held (S := fun _ => True) (by kernel_rfl) ?_
  have hW1 : ({ w with drawn := w.drawn + 1 } : World) = w.drew := rfl
  rw [hW1]
  clear hW1
  have hi : Hid (Ints (w.drew.alloc (.cells #[.int .i64 a, .int .i64 b] 3)) w.heap.size [a, b]) := Ints.new w.drew [a, b] _ _ _ rfl rfl
  have hbl : Hid (Below w.heap.size w (w.drew.alloc (.cells #[.int .i64 a, .int .i64 b] 3))) := below_step (below_alloc _ _) (below_drew _)
  obtain ⟨W, hW⟩ : ∃ W, w.drew.alloc (.cells #[.int .i64 a, .int .i64 b] 3) = W := ⟨_, rfl⟩
  rw [hW] at hi hbl
  refine held_take (i := 0) (dst := some 5) rfl rfl (by kernel_rfl) (by kernel_rfl) (by kernel_rfl) (fun _ _ _ h => h) (y_move (.tmp 0) rfl rfl rfl) trivial ?_
  go_frame
  refine held_take (i := 1) (dst := some 6) rfl rfl (by kernel_rfl) (by kernel_rfl) (by kernel_rfl) (fun _ _ _ h => h) (y_move (.tmp 1) rfl rfl rfl) trivial ?_
  go_frame
  refine held_value (i := 2) (dst := some 7) (w' := W) (v := .slice (some ⟨w.heap.size, 0, none⟩) 2 2) rfl rfl (by kernel_rfl) rfl (by rw [← hW]; go_simp) trivial ?_
  go_frame
  clear hW
  refine held_call (i := 3) (dst := some 8) rfl rfl (by kernel_rfl) rfl (by go_simp) (ham.out _ _ hi.out) ?_
  rintro e u1 ⟨rfl, rfl⟩
  refine ⟨_, rfl, trivial, ?_⟩
  go_frame
  refine held_take (i := 4) (dst := some 9) rfl rfl (by kernel_rfl) (by kernel_rfl) (by kernel_rfl) (fun _ _ _ h => h) (y_move (.tmp 8) rfl rfl rfl) trivial ?_
  go_frame
  refine held_take (i := 5) (dst := some 10) (v := undef) rfl rfl (by kernel_rfl) (by kernel_rfl) (by kernel_rfl) (fun _ _ _ h => h) (.inr ⟨rfl, rfl⟩) trivial ?_
  go_frame
  refine held_take (i := 6) (dst := some 11) (v := undef) rfl rfl (by kernel_rfl) (by kernel_rfl) (by kernel_rfl) (fun _ _ _ h => h) (.inr ⟨rfl, rfl⟩) trivial ?_
  go_frame
  refine held_take (i := 7) (dst := some 12) (v := undef) rfl rfl (by kernel_rfl) (by kernel_rfl) (by kernel_rfl) (fun _ _ _ h => h) (.inr ⟨rfl, rfl⟩) trivial ?_
  go_frame
  refine held_take (i := 8) (dst := some 13) (v := undef) rfl rfl (by kernel_rfl) (by kernel_rfl) (by kernel_rfl) (fun _ _ _ h => h) (.inr ⟨rfl, rfl⟩) trivial ?_
  go_frame
  refine held_take (i := 9) (dst := some 14) (v := undef) rfl rfl (by kernel_rfl) (by kernel_rfl) (by kernel_rfl) (fun _ _ _ h => h) (.inr ⟨rfl, rfl⟩) trivial ?_
  go_frame
  refine held_take (i := 10) (dst := some 15) (v := undef) rfl rfl (by kernel_rfl) (by kernel_rfl) (by kernel_rfl) (fun _ _ _ h => h) (.inr ⟨rfl, rfl⟩) trivial ?_
  go_frame
  refine held_take (i := 11) (dst := some 16) (v := undef) rfl rfl (by kernel_rfl) (by kernel_rfl) (by kernel_rfl) (fun _ _ _ h => h) (.inr ⟨rfl, rfl⟩) trivial ?_
  go_frame
  refine held_take (i := 12) (dst := some 17) (v := .bool false) rfl rfl (by kernel_rfl) (by kernel_rfl) (by kernel_rfl) (fun _ _ _ h => h) (.inl ⟨rfl, fun W _ => by go_simp⟩) trivial ?_
  go_frame
  refine held_take (i := 13) (dst := some 4) (v := .bool false) rfl rfl (by kernel_rfl) (by kernel_rfl) (by kernel_rfl) (fun _ _ _ h => h) (.inl ⟨rfl, fun W _ => by go_simp⟩) trivial ?_
  go_frame
  refine wpAnyH_done (by kernel_rfl) ?_ _
  go_wp2
  go_ret
  exact ⟨rfl, hbl.out⟩

theorem cov_any (a b : Int) (w : World) (hC : LaidC w) : Calls Tryz.prog 28 #[.int .i64 a, .int .i64 b] w (fun e w' => e = .returned (.bool (covB a b)) ∧ Below w.heap.size w w') := by
  rcases Bool.eq_false_or_eq_true (isM a) with ha | ha
  · rcases Bool.eq_false_or_eq_true (isM b) with hb | hb
    · obtain ⟨x, hx, rfl⟩ := isM_nat ha
      obtain ⟨y, hy, rfl⟩ := isM_nat hb
      have e : covB x y = hol (cT x) (2 ^ y) := by unfold covB; rw [ha, hb]; rfl
      rw [e]
      exact cov_in x y hx hy w hC
    · have e : covB a b = false := by unfold covB; rw [ha, hb]; rfl
      rw [e]
      exact cov_out a b w (by unfold allM; simp [ha, hb])
  · have e : covB a b = false := by unfold covB; rw [ha]; rfl
    rw [e]
    exact cov_out a b w (by unfold allM; simp [ha])

def ofT (m : Int) : Bool := isM m && hol 63 (2 ^ m.toNat)
def ofK (m : Int) : Bool := isM m && hol 105 (2 ^ m.toNat)

theorem ofT_any (m : Int) (w : World) : Calls Tryz.prog 141 #[.int .i64 m] w (fun e w' => e = .returned (.bool (ofT m)) ∧ Below w.heap.size w w') := by
  have ham := Lib.hid (fun g u h => areModes_any g 1 1 [m] u rfl h (by decide))
  obtain ⟨W, hW⟩ : ∃ W, w.alloc (.cells #[.int .i64 m] 3) = W := ⟨_, rfl⟩
  have hi : Hid (Ints W w.heap.size [m]) := by rw [← hW]; exact Ints.new w [m] _ _ _ rfl rfl
  have hb : Hid (Below w.heap.size w W) := by rw [← hW]; exact below_alloc _ _
  rcases Bool.eq_false_or_eq_true (isM m) with hm | hm
  · obtain ⟨x, hx, rfl⟩ := isM_nat hm
    have e : ofT x = hol 63 (2 ^ x) := by unfold ofT; rw [hm]; rfl
    have e2 : allM [(x : Int)] = true := by unfold allM; simp [hm]
    rw [e]
    rw [e2] at ham
    have hso := Lib.hid (fun g u h => setOf_any g 1 1 [x] u rfl h (by decide) (by simpa using hx))
    rw [setN_one] at hso
    have hho := Lib.hid (fun u => holds_any 63 (2 ^ x) u (by decide) (two_lt x hx))
    clear hm e e2
    go_enter Tryz.func141, Tryz.ntmps141
    go_wp2_with fail
    clear hW
    refine (ham.out _ _ hi.out).mono ?_
    rintro e w1 ⟨rfl, rfl⟩
    go_wp2_with fail
    refine (tables_any _).mono ?_
    rintro e w2 ⟨rfl, hb2⟩
    have hb3 := Lib.hid (below_step hb2 hb.out)
    clear hb2
    obtain ⟨W3, hW3⟩ : ∃ W3, w2.alloc (.cells #[.int .i64 x] 3) = W3 := ⟨_, rfl⟩
    have hi3 : Hid (Ints W3 w2.heap.size [(x : Int)]) := by rw [← hW3]; exact Ints.new w2 [(x : Int)] _ _ _ rfl rfl
    have hb4 : Hid (Below w.heap.size w W3) := by rw [← hW3]; exact below_step (below_alloc _ _) hb3.out
    go_wp2_with fail
    clear hW3
    refine (hso.out _ _ hi3.out).mono ?_
    rintro e w4 ⟨rfl, rfl⟩
    go_wp2_with fail
    refine (hho.out _).mono ?_
    rintro e w4 ⟨rfl, rfl⟩
    go_wp2
    go_ret
    exact ⟨rfl, hb4.out⟩
  · have e : ofT m = false := by unfold ofT; rw [hm]; rfl
    have e2 : allM [m] = false := by unfold allM; simp [hm]
    rw [e]
    rw [e2] at ham
    clear hm e e2
    go_enter Tryz.func141, Tryz.ntmps141
    go_wp2_with fail
    clear hW
    refine (ham.out _ _ hi.out).mono ?_
    rintro e w1 ⟨rfl, rfl⟩
    go_wp2
    go_ret
    exact ⟨rfl, hb.out⟩

theorem ofK_any (m : Int) (w : World) : Calls Tryz.prog 140 #[.int .i64 m] w (fun e w' => e = .returned (.bool (ofK m)) ∧ Below w.heap.size w w') := by
  have ham := Lib.hid (fun g u h => areModes_any g 1 1 [m] u rfl h (by decide))
  obtain ⟨W, hW⟩ : ∃ W, w.alloc (.cells #[.int .i64 m] 3) = W := ⟨_, rfl⟩
  have hi : Hid (Ints W w.heap.size [m]) := by rw [← hW]; exact Ints.new w [m] _ _ _ rfl rfl
  have hb : Hid (Below w.heap.size w W) := by rw [← hW]; exact below_alloc _ _
  rcases Bool.eq_false_or_eq_true (isM m) with hm | hm
  · obtain ⟨x, hx, rfl⟩ := isM_nat hm
    have e : ofK x = hol 105 (2 ^ x) := by unfold ofK; rw [hm]; rfl
    have e2 : allM [(x : Int)] = true := by unfold allM; simp [hm]
    rw [e]
    rw [e2] at ham
    have hso := Lib.hid (fun g u h => setOf_any g 1 1 [x] u rfl h (by decide) (by simpa using hx))
    rw [setN_one] at hso
    have hho := Lib.hid (fun u => holds_any 105 (2 ^ x) u (by decide) (two_lt x hx))
    clear hm e e2
    go_enter Tryz.func140, Tryz.ntmps140
    go_wp2_with fail
    clear hW
    refine (ham.out _ _ hi.out).mono ?_
    rintro e w1 ⟨rfl, rfl⟩
    go_wp2_with fail
    refine (keys_any _).mono ?_
    rintro e w2 ⟨rfl, hb2⟩
    have hb3 := Lib.hid (below_step hb2 hb.out)
    clear hb2
    obtain ⟨W3, hW3⟩ : ∃ W3, w2.alloc (.cells #[.int .i64 x] 3) = W3 := ⟨_, rfl⟩
    have hi3 : Hid (Ints W3 w2.heap.size [(x : Int)]) := by rw [← hW3]; exact Ints.new w2 [(x : Int)] _ _ _ rfl rfl
    have hb4 : Hid (Below w.heap.size w W3) := by rw [← hW3]; exact below_step (below_alloc _ _) hb3.out
    go_wp2_with fail
    clear hW3
    refine (hso.out _ _ hi3.out).mono ?_
    rintro e w4 ⟨rfl, rfl⟩
    go_wp2_with fail
    refine (hho.out _).mono ?_
    rintro e w4 ⟨rfl, rfl⟩
    go_wp2
    go_ret
    exact ⟨rfl, hb4.out⟩
  · have e : ofK m = false := by unfold ofK; rw [hm]; rfl
    have e2 : allM [m] = false := by unfold allM; simp [hm]
    rw [e]
    rw [e2] at ham
    clear hm e e2
    go_enter Tryz.func140, Tryz.ntmps140
    go_wp2_with fail
    clear hW
    refine (ham.out _ _ hi.out).mono ?_
    rintro e w1 ⟨rfl, rfl⟩
    go_wp2
    go_ret
    exact ⟨rfl, hb.out⟩

end Go.Proofs.YtbgpppbcffpdbaaGreatDoor
