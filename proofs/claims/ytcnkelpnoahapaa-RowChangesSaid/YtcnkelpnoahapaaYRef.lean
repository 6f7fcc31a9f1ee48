/- The document's answers on rows: Compare, Right, KeyError, RowError, RightList. -/
import Derived.Test.YtcnkelpnoahapaaYTab
namespace Go.Proofs.Ytcnkelpnoahapaa
open Go.RowKit

theorem eq_key (w : World) (a b c d : Int) : (binOp .eql 28 (.agg #[.int .i64 a, .int .u16 b]) (.agg #[.int .i64 c, .int .u16 d])).run Try.prog w = .ok (.bool (eqK ⟨a, b⟩ ⟨c, d⟩)) w := by
  rw [run_eql_struct]
  have hS : Try.prog.underlying 28 = some (.struct (Try.prog.fieldsOf 28)) := by kernel_rfl
  have hp : Try.prog.stoodInHeld 28 = false := by kernel_rfl
  have u3 := Try.underlying3
  have u4 := Try.underlying26
  have a3 := Try.isAgg3
  have a4 := Try.isAgg26
  have z3 := Try.sizeOf3
  have z4 := Try.sizeOf26
  rw [show (10000 : Nat) = 9999 + 1 from rfl, run_equalIn_agg w 9999 28 _ _ hS hp]
  simp only [Program.fieldsOf, Try.underlying28]
  clear hS hp
  unfold eqK
  go_simp
  by_cases h1 : a = c <;> by_cases h2 : b = d <;> simp [h1, h2]

set_option maxRecDepth 100000 in
set_option maxHeartbeats 1000000 in
theorem refCompare_any (a b : Int) (c d : Int) (w : World) : Calls Try.prog 28 #[.agg #[.int .i64 a, .int .u16 b], .agg #[.int .i64 c, .int .u16 d]] w (fun e w' => e = .returned (.int .i64 (cmpK ⟨a, b⟩ ⟨c, d⟩)) ∧ Below w.heap.size w w') := by
  have heq := fun u => eq_key u a b c d
  have hb : Hid (Below w.heap.size w ((w.alloc (.cells #[.int .i64 a, .int .u16 b] 28)).alloc (.cells #[.int .i64 c, .int .u16 d] 28))) := ((Below.refl _ _).alloc (Nat.le_refl _) _).alloc (by simp) _
  rcases cmpK_cases ⟨a, b⟩ ⟨c, d⟩ with ⟨h1, e⟩ | ⟨h1, e⟩ | ⟨h1, ⟨h2, e⟩ | ⟨h2, e⟩ | ⟨h2, e⟩⟩
  · have h1' : a < c := h1
    rw [show eqK ⟨a, b⟩ ⟨c, d⟩ = false by rw [eqK_cmp, e]; rfl] at heq
    rw [e]
    clear e h1
    go_enter Try.func28, Try.ntmps28
    go_wp2
    go_ret
    exact ⟨rfl, hb.out⟩
  · have h1' : ¬ a < c := by have : c < a := h1; omega
    have h2' : ¬ a = c := by have : c < a := h1; omega
    rw [show eqK ⟨a, b⟩ ⟨c, d⟩ = false by rw [eqK_cmp, e]; rfl] at heq
    rw [e]
    clear e h1
    go_enter Try.func28, Try.ntmps28
    go_wp2
    go_ret
    exact ⟨rfl, hb.out⟩
  · obtain rfl : a = c := h1
    have h1' : b < d := h2
    rw [show eqK ⟨a, b⟩ ⟨a, d⟩ = false by rw [eqK_cmp, e]; rfl] at heq
    rw [e]
    clear e h2
    go_enter Try.func28, Try.ntmps28
    go_wp2
    go_ret
    exact ⟨rfl, hb.out⟩
  · obtain rfl : a = c := h1
    have h1' : ¬ b < d := by have : d < b := h2; omega
    rw [show eqK ⟨a, b⟩ ⟨a, d⟩ = false by rw [eqK_cmp, e]; rfl] at heq
    rw [e]
    clear e h2
    go_enter Try.func28, Try.ntmps28
    go_wp2
    go_ret
    exact ⟨rfl, hb.out⟩
  · obtain rfl : a = c := h1
    obtain rfl : b = d := h2
    rw [show eqK ⟨a, b⟩ ⟨a, b⟩ = true by rw [eqK_cmp, e]; rfl] at heq
    rw [e]
    clear e
    go_enter Try.func28, Try.ntmps28
    go_wp2
    go_ret
    exact ⟨rfl, hb.out⟩

set_option maxHeartbeats 1000000 in
theorem keyError_any (q : Option Addr) (n c : Nat) (bs : List BdD) (t id : Int) (w : World) (hl : bs.length = n) :
    Calls Try.prog 16 #[.agg #[.slice q n c], .agg #[.int .i64 t, .int .u16 id]] w (fun e w' => e = .returned (.int .i64 (keyE bs ⟨t, id⟩)) ∧ Below w.heap.size w w') := by
  rcases keyE_or bs ⟨t, id⟩ with ⟨h1, h2, e⟩ | ⟨h1, e⟩
  · have h1' : 0 ≤ t := h1
    have h2' : t < (n : Int) := by rw [← hl]; exact h2
    have h3' : ¬ t < 0 := by omega
    rw [e]
    clear e h1 h2 hl
    go_enter Try.func16, Try.ntmps16
    go_wp2
    go_ret
    exact ⟨rfl, by go_grown⟩
  · rw [e]
    clear e
    by_cases h0 : t < 0
    · clear h1 hl
      go_enter Try.func16, Try.ntmps16
      go_wp2
      go_ret
      exact ⟨rfl, by go_grown⟩
    · have h2' : (n : Int) ≤ t := by rw [← hl]; exact h1.resolve_left h0
      have h0' : 0 ≤ t := by omega
      clear h1 hl
      go_enter Try.func16, Try.ntmps16
      go_wp2
      go_ret
      exact ⟨rfl, by go_grown⟩

set_option maxRecDepth 100000 in
set_option maxHeartbeats 2000000 in
theorem right_any (q : Option Addr) (n c : Nat) (bs : List BdD) (w : World) (h : SchOn w q n c bs) :
    Calls Try.prog 14 #[.agg #[.slice q n c]] w (fun e w' => e = .returned (.bool (okS bs)) ∧ Below w.heap.size w w') := by
  have hl := h.len
  have hm := Nat.le_trans h.le h.cap
  unfold maxLen at hm
  obtain ⟨W, hW⟩ : ∃ W, w.alloc (.cells #[.slice q n c] 24) = W := ⟨_, rfl⟩
  have hbx := Lib.hid (one_box (xs := [.slice q n c]) hW)
  have h1 := Lib.hid (h.below hbx.out.1 (Nat.le_refl _))
  have e0 := hbx.out.2.1.cell 0 rfl
  clear h
  by_cases hn : 1 ≤ n ∧ n ≤ 3
  · obtain ⟨ha, hb⟩ := hn
    have hS0 : Hid ((∀ (i : Nat) (b : BdD), i < n → bs[i]? = some b → b.lo ≤ b.hi) → okS bs = true) := fun hk => (okS_iff bs).2 ⟨by omega, by omega, fun i b hi => hk i b (by have := (List.getElem?_eq_some_iff.1 hi).1; omega) hi⟩
    have hS1 : Hid (∀ (i : Nat) (b : BdD), bs[i]? = some b → ¬ b.lo ≤ b.hi → okS bs = false) := fun i b hi hlt => by
      cases ho : okS bs with
      | false => rfl
      | true => exact absurd (((okS_iff bs).1 ho).2.2 i b hi) hlt
    obtain ⟨E, hE⟩ : ∃ E, okS bs = E := ⟨_, rfl⟩
    rw [hE] at hS0 hS1 ⊢
    have hr0 : Hid (ChkRel W W bs 0) := ⟨Below.refl _ _, fun i b hi => by omega⟩
    clear hE hl
    go_enter Try.func14, Try.ntmps14
    go_wp2
    clear hW
    go_loopw [3] (fun v3 wr => ∃ k : Nat, k ≤ n ∧ v3 = .int .i64 k ∧ Hid (ChkRel W wr bs k)) (fun v3 _ => n - (intOf v3).toNat)
    case atStart => exact ⟨0, Nat.zero_le _, rfl, hr0⟩
    case round =>
      obtain ⟨k, hk, rfl, hr⟩ := hrel
      have s0 := (hbx.out.2.1.below hr.out.1 (Nat.le_refl _)).cell 0 rfl
      by_cases hlt : k < n
      · obtain ⟨a, ⟨lo, hi⟩, rfl, hx, hok, hc⟩ := (h1.out.below hr.out.1 (Nat.le_refl _)).at hlt
        have c0 : wr.cell? (a.add (k * 2)) = some (.int .i64 lo) := by have h := hc 0 _ rfl; rwa [add0] at h
        have c1 : wr.cell? ⟨(a.add (k * 2)).block, (a.add (k * 2)).off + 1, none⟩ = some (.int .i64 hi) := hc 1 _ rfl
        have hx' := Lib.hid hx
        have i0 : (0 : Int) ≤ k := by omega
        have i1 : (k : Int) < n := by omega
        clear hc hx hok
        by_cases hle : lo ≤ hi
        · have hng : ¬ hi < lo := by omega
          go_wp2
          go_quiet (fail)
          clear c0 c1
          go_wp2
          go_roundw
          case rel =>
            refine ⟨k + 1, by omega, by go_num, ⟨hr.out.1.trans ((below_drewN _ _).mono hr.out.1.size), fun i b hi hb => ?_⟩⟩
            rcases Nat.lt_or_ge i k with h | h
            · exact hr.out.2 i b h hb
            · obtain rfl : i = k := by omega
              rw [hx'.out] at hb; cases hb; exact hle
          case measure => simp [intOf]; omega
        · have hgt : hi < lo := by omega
          go_wp2
          go_quiet (fail)
          clear c0 c1
          go_wp2
          go_ret
          exact ⟨by rw [hS1.out k _ hx'.out hle]; rfl, hbx.out.1.trans ((hr.out.1.trans ((below_drewN _ _).mono hr.out.1.size)).mono hbx.out.1.size)⟩
      · obtain rfl : n = k := by omega
        go_wp2
        go_ret
        exact ⟨by rw [hS0.out hr.out.2]; rfl, hbx.out.1.trans (hr.out.1.mono hbx.out.1.size)⟩
  · have hS : okS bs = false := by
      cases ho : okS bs with
      | false => rfl
      | true => exact absurd ⟨by rw [← hl]; exact ((okS_iff bs).1 ho).1, by rw [← hl]; exact ((okS_iff bs).1 ho).2.1⟩ hn
    rw [hS]
    clear hS hl
    by_cases h0 : n < 1
    · go_enter Try.func14, Try.ntmps14
      go_wp2
      go_ret
      exact ⟨rfl, hbx.out.1⟩
    · have h3 : 3 < n := by omega
      go_enter Try.func14, Try.ntmps14
      go_wp2
      go_ret
      exact ⟨rfl, hbx.out.1⟩
end Go.Proofs.Ytcnkelpnoahapaa
