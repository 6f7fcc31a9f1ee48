/- Compare of row: how two keys stand. -/
import Derived.Test.YtkdkncbccofpdaaYBase
import Derived.Test.YtkdkncbccofpdaaHeld
import Derived.StillTailTactics
import Derived.BigQuiet
import Derived.Deep.QuietTactic
namespace Go.Proofs.Ytkdkncbccofpdaa
open Go.RowKit

def cmpI (a b : Int) : Int := if a < b then -1 else if b < a then 1 else 0
def orI (x y : Int) : Int := if x = 0 then y else x
def cmpK (a b : KeyD) : Int := orI (cmpI a.t b.t) (cmpI a.id b.id)
def eqK (a b : KeyD) : Bool := a.t == b.t && a.id == b.id

theorem cmpI_cases (a b : Int) : (a < b ∧ cmpI a b = -1) ∨ (b < a ∧ cmpI a b = 1) ∨ (a = b ∧ cmpI a b = 0) := by
  unfold cmpI
  by_cases h1 : a < b
  · exact .inl ⟨h1, if_pos h1⟩
  · by_cases h2 : b < a
    · exact .inr (.inl ⟨h2, by rw [if_neg h1, if_pos h2]⟩)
    · exact .inr (.inr ⟨by omega, by rw [if_neg h1, if_neg h2]⟩)
theorem cmpK_cases (a b : KeyD) : (a.t < b.t ∧ cmpK a b = -1) ∨ (b.t < a.t ∧ cmpK a b = 1) ∨ (a.t = b.t ∧ ((a.id < b.id ∧ cmpK a b = -1) ∨ (b.id < a.id ∧ cmpK a b = 1) ∨ (a.id = b.id ∧ cmpK a b = 0))) := by
  unfold cmpK orI
  rcases cmpI_cases a.t b.t with ⟨h, e⟩ | ⟨h, e⟩ | ⟨h, e⟩
  · exact .inl ⟨h, by rw [e]; rfl⟩
  · exact .inr (.inl ⟨h, by rw [e]; rfl⟩)
  · refine .inr (.inr ⟨h, ?_⟩)
    rw [e, if_pos rfl]
    exact cmpI_cases a.id b.id
theorem cmpK_range (a b : KeyD) : -1 ≤ cmpK a b ∧ cmpK a b ≤ 1 := by
  rcases cmpK_cases a b with ⟨_, e⟩ | ⟨_, e⟩ | ⟨_, ⟨_, e⟩ | ⟨_, e⟩ | ⟨_, e⟩⟩ <;> rw [e] <;> omega
theorem KeyD.ext' {a b : KeyD} (h1 : a.t = b.t) (h2 : a.id = b.id) : a = b := by
  cases a; cases b; simp_all
theorem cmpK_zero {a b : KeyD} : cmpK a b = 0 ↔ a = b := by
  constructor
  · intro h
    rcases cmpK_cases a b with ⟨_, e⟩ | ⟨_, e⟩ | ⟨h1, ⟨_, e⟩ | ⟨_, e⟩ | ⟨h2, e⟩⟩ <;> first | omega | exact KeyD.ext' h1 h2
  · rintro rfl
    rcases cmpK_cases a a with ⟨_, e⟩ | ⟨_, e⟩ | ⟨h1, ⟨_, e⟩ | ⟨_, e⟩ | ⟨h2, e⟩⟩ <;> omega
theorem cmpK_anti (a b : KeyD) : cmpK a b = -cmpK b a := by
  rcases cmpK_cases a b with ⟨h, e⟩ | ⟨h, e⟩ | ⟨h, ⟨h1, e⟩ | ⟨h1, e⟩ | ⟨h1, e⟩⟩ <;> rcases cmpK_cases b a with ⟨k, f⟩ | ⟨k, f⟩ | ⟨k, ⟨k1, f⟩ | ⟨k1, f⟩ | ⟨k1, f⟩⟩ <;> omega
theorem cmpK_trans {a b c : KeyD} (h1 : cmpK a b ≤ 0) (h2 : cmpK b c ≤ 0) : cmpK a c ≤ 0 := by
  rcases cmpK_cases a b with ⟨h, e⟩ | ⟨h, e⟩ | ⟨h, ⟨h1, e⟩ | ⟨h1, e⟩ | ⟨h1, e⟩⟩ <;> rcases cmpK_cases b c with ⟨k, f⟩ | ⟨k, f⟩ | ⟨k, ⟨k1, f⟩ | ⟨k1, f⟩ | ⟨k1, f⟩⟩ <;> rcases cmpK_cases a c with ⟨l, g⟩ | ⟨l, g⟩ | ⟨l, ⟨l1, g⟩ | ⟨l1, g⟩ | ⟨l1, g⟩⟩ <;> omega
theorem cmpK_trans' {a b c : KeyD} (h1 : cmpK a b < 0) (h2 : cmpK b c < 0) : cmpK a c < 0 := by
  rcases cmpK_cases a b with ⟨h, e⟩ | ⟨h, e⟩ | ⟨h, ⟨h1, e⟩ | ⟨h1, e⟩ | ⟨h1, e⟩⟩ <;> rcases cmpK_cases b c with ⟨k, f⟩ | ⟨k, f⟩ | ⟨k, ⟨k1, f⟩ | ⟨k1, f⟩ | ⟨k1, f⟩⟩ <;> rcases cmpK_cases a c with ⟨l, g⟩ | ⟨l, g⟩ | ⟨l, ⟨l1, g⟩ | ⟨l1, g⟩ | ⟨l1, g⟩⟩ <;> omega
theorem eqK_iff {a b : KeyD} : eqK a b = true ↔ a = b := by
  unfold eqK
  constructor
  · intro h
    simp only [Bool.and_eq_true, beq_iff_eq] at h
    exact KeyD.ext' h.1 h.2
  · rintro rfl; simp
theorem eqK_cmp (a b : KeyD) : eqK a b = (cmpK a b == 0) := by
  rw [Bool.eq_iff_iff, eqK_iff, beq_iff_eq, cmpK_zero]

set_option maxRecDepth 100000 in
theorem nan_int (x : Int) (w : World) : Calls Try.prog 82 #[.int .i64 x] w (fun e w' => e = .returned (.bool false) ∧ w' = w) := by
  go_enter Try.func82, Try.ntmps82
  go_wp2
  go_ret
  exact ⟨by simp, rfl⟩
set_option maxRecDepth 100000 in
theorem nan_u16 (x : Int) (w : World) : Calls Try.prog 83 #[.int .u16 x] w (fun e w' => e = .returned (.bool false) ∧ w' = w) := by
  go_enter Try.func83, Try.ntmps83
  go_wp2
  go_ret
  exact ⟨by simp, rfl⟩

theorem ret_i {a b : Int} {k : IntKind} (h : a = b) : Ending.returned (.int k a) = .returned (.int k b) := by rw [h]

set_option maxRecDepth 100000 in
theorem cmp_int (x y : Int) (w : World) : Calls Try.prog 67 #[.int .i64 x, .int .i64 y] w (fun e w' => e = .returned (.int .i64 (cmpI x y)) ∧ w' = w) := by
  rcases cmpI_cases x y with ⟨h, e⟩ | ⟨h, e⟩ | ⟨h, e⟩
  all_goals
    rw [e]
    clear e
  · go_enter Try.func67, Try.ntmps67
    go_wp2_with (go_at_call 82; refine (nan_int _ _).mono ?_; rintro e w' ⟨rfl, hw⟩; obtain rfl := hw.symm)
    go_ret
    exact ⟨rfl, rfl⟩
  · have h2 : ¬ x < y := by omega
    go_enter Try.func67, Try.ntmps67
    go_wp2_with (go_at_call 82; refine (nan_int _ _).mono ?_; rintro e w' ⟨rfl, hw⟩; obtain rfl := hw.symm)
    go_ret
    exact ⟨rfl, rfl⟩
  · subst h
    go_enter Try.func67, Try.ntmps67
    go_wp2_with (go_at_call 82; refine (nan_int _ _).mono ?_; rintro e w' ⟨rfl, hw⟩; obtain rfl := hw.symm)
    go_ret
    exact ⟨rfl, rfl⟩
set_option maxRecDepth 100000 in
theorem cmp_u16 (x y : Int) (w : World) : Calls Try.prog 68 #[.int .u16 x, .int .u16 y] w (fun e w' => e = .returned (.int .i64 (cmpI x y)) ∧ w' = w) := by
  rcases cmpI_cases x y with ⟨h, e⟩ | ⟨h, e⟩ | ⟨h, e⟩
  all_goals
    rw [e]
    clear e
  · go_enter Try.func68, Try.ntmps68
    go_wp2_with (go_at_call 83; refine (nan_u16 _ _).mono ?_; rintro e w' ⟨rfl, hw⟩; obtain rfl := hw.symm)
    go_ret
    exact ⟨rfl, rfl⟩
  · have h2 : ¬ x < y := by omega
    go_enter Try.func68, Try.ntmps68
    go_wp2_with (go_at_call 83; refine (nan_u16 _ _).mono ?_; rintro e w' ⟨rfl, hw⟩; obtain rfl := hw.symm)
    go_ret
    exact ⟨rfl, rfl⟩
  · subst h
    go_enter Try.func68, Try.ntmps68
    go_wp2_with (go_at_call 83; refine (nan_u16 _ _).mono ?_; rintro e w' ⟨rfl, hw⟩; obtain rfl := hw.symm)
    go_ret
    exact ⟨rfl, rfl⟩

set_option maxRecDepth 100000 in
set_option maxHeartbeats 1000000 in
theorem or2 (x y : Int) (g : Nat) (w : World) (h0 : w.cell? ⟨g, 0, none⟩ = some (.int .i64 x)) (h1 : w.cell? ⟨g, 1, none⟩ = some (.int .i64 y)) :
    Calls Try.prog 66 #[.slice (some ⟨g, 0, none⟩) 2 2] w (fun e w' => e = .returned (.int .i64 (orI x y)) ∧ w' = w) := by
  go_enter Try.func66, Try.ntmps66
  go_wp2
  go_loop [8] (fun v8 => ∃ k : Nat, k ≤ 2 ∧ v8 = .int .i64 k ∧ (0 < k → x = 0) ∧ (1 < k → y = 0)) (fun v8 => 2 - (intOf v8).toNat)
  case atStart => exact ⟨0, by omega, rfl, (fun h => by omega), (fun h => by omega)⟩
  case round =>
    obtain ⟨k, hk, rfl, hx, hy⟩ := hrel
    match k, hk with
    | 0, _ =>
      by_cases hz : x = 0
      · subst hz
        go_wp2
        go_round
        case rel => exact ⟨1, by omega, by go_num, by simp, by simp⟩
        case measure => simp [intOf]
      · go_wp2
        go_ret
        exact ⟨ret_i (by simp [orI, *]), rfl⟩
    | 1, _ =>
      have hx0 := hx (by omega)
      subst hx0
      by_cases hz : y = 0
      · subst hz
        go_wp2
        go_round
        case rel => exact ⟨2, by omega, by go_num, by simp, by simp⟩
        case measure => simp [intOf]
      · go_wp2
        go_ret
        exact ⟨ret_i (by simp [orI, *]), rfl⟩
    | 2, _ =>
      have hx0 := hx (by omega)
      have hy0 := hy (by omega)
      subst hx0
      subst hy0
      go_wp2
      go_ret
      exact ⟨ret_i (by simp [orI]), rfl⟩

set_option maxRecDepth 100000 in
set_option maxHeartbeats 1000000 in
theorem compare_any (a b : KeyD) (w : World) : Calls Try.prog 57 #[.agg #[.int .i64 a.t, .int .u16 a.id], .agg #[.int .i64 b.t, .int .u16 b.id]] w (fun e w' => e = .returned (.int .i64 (cmpK a b)) ∧ Below w.heap.size w w') := by
  obtain ⟨at_, ai⟩ := a
  obtain ⟨bt, bi⟩ := b
  show Calls _ _ _ _ (fun e w' => e = .returned (.int .i64 (orI (cmpI at_ bt) (cmpI ai bi))) ∧ Below w.heap.size w w')
  go_enter Try.func57, Try.ntmps57
  go_wp2
  go_still_tail 10, (by kernel_rfl)
  change wpStill _ _ (World.drew _) (fun a' => wpList _ _ _ _ a' (World.drew _)) _ _
  repeat still_step
  still_call (cmp_int at_ bt _)
  repeat still_step
  still_call (cmp_u16 ai bi _)
  repeat still_step
  refine wpStill_nil ?_
  go_wp2_with fail
  refine (or2 (cmpI at_ bt) (cmpI ai bi) (w.heap.size + 1 + 1) _ (by go_simp) (by go_simp)).mono ?_
  rintro e w' ⟨rfl, hw⟩
  obtain rfl := hw.symm
  go_wp2
  go_ret
  refine ⟨rfl, ?_⟩
  go_grown
end Go.Proofs.Ytkdkncbccofpdaa
