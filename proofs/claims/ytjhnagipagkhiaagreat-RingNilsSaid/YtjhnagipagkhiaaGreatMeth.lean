/- The small methods of a disk and of its fuses, by their contracts. -/
import Derived.Test.YtjhnagipagkhiaaGreatDk
import Derived.Test.YtjhnagipagkhiaaGreatBlk
import Derived.ProofKit
namespace Go.Proofs.YtjhnagipagkhiaaGreat
open Go.RowKit

abbrev ptr (p : Pl) : Value := .pointer (some ⟨p.g, 0, none⟩)

theorem len_any (p : Pl) (d : Dk) (w : World) (k : At w p d) : Calls Tryz.prog 46 #[ptr p] w (fun e w' => e = .returned (.int .i64 d.held.length) ∧ w' = w) := by
  have c0 := k.row.cell 0
  simp only [List.getElem?_cons_zero] at c0
  clear k
  go_enter Tryz.func46, Tryz.ntmps46
  go_wp2
  go_ret
  exact ⟨rfl, rfl⟩

theorem dead_any (p : Pl) (d : Dk) (w : World) (k : At w p d) : Calls Tryz.prog 36 #[ptr p] w (fun e w' => e = .returned (.bool d.dead) ∧ w' = w) := by
  have c3 : w.cell? ⟨p.g, 3, none⟩ = some (.bool d.dead) := k.row.cell 3
  clear k
  go_enter Tryz.func36, Tryz.ntmps36
  go_wp2
  go_ret
  exact ⟨rfl, rfl⟩

theorem ops_any (p : Pl) (d : Dk) (w : World) (k : At w p d) : Calls Tryz.prog 35 #[ptr p] w (fun e w' => e = .returned (.int .i64 d.ops) ∧ w' = w) := by
  have c2 : w.cell? ⟨p.g, 2, none⟩ = some (.int .i64 d.ops) := k.row.cell 2
  clear k
  go_enter Tryz.func35, Tryz.ntmps35
  go_wp2
  go_ret
  exact ⟨rfl, rfl⟩

theorem len_nil (w : World) : Calls Tryz.prog 46 #[.pointer none] w (fun e w' => e = .returned (.int .i64 0) ∧ w' = w) := by
  go_enter Tryz.func46, Tryz.ntmps46
  go_wp2
  go_ret
  exact ⟨rfl, rfl⟩
theorem dead_nil (w : World) : Calls Tryz.prog 36 #[.pointer none] w (fun e w' => e = .returned (.bool false) ∧ w' = w) := by
  go_enter Tryz.func36, Tryz.ntmps36
  go_wp2
  go_ret
  exact ⟨rfl, rfl⟩
theorem ops_nil (w : World) : Calls Tryz.prog 35 #[.pointer none] w (fun e w' => e = .returned (.int .i64 0) ∧ w' = w) := by
  go_enter Tryz.func35, Tryz.ntmps35
  go_wp2
  go_ret
  exact ⟨rfl, rfl⟩
theorem copy_nil (w : World) : Calls Tryz.prog 91 #[.pointer none] w (fun e w' => e = .returned (.pointer none) ∧ w' = w) := by
  go_enter Tryz.func91, Tryz.ntmps91
  go_wp2
  go_ret
  exact ⟨rfl, rfl⟩

/-- does a fuse strike? -/
def hit (lit : Bool) (n : Int) : Bool := lit && n == 0

theorem strikes_any (g o : Nat) (lit : Bool) (n : Int) (w : World) (c0 : w.cell? ⟨g, o, none⟩ = some (.bool lit)) (c1 : w.cell? ⟨g, o + 1, none⟩ = some (.int .i64 n)) :
    Calls Tryz.prog 71 #[.pointer (some ⟨g, o, none⟩)] w (fun e w' => e = .returned (.bool (hit lit n)) ∧ w' = w) := by
  cases lit
  · go_enter Tryz.func71, Tryz.ntmps71
    go_wp2
    go_ret
    exact ⟨rfl, rfl⟩
  · go_enter Tryz.func71, Tryz.ntmps71
    go_wp2
    go_ret
    refine ⟨?_, rfl⟩
    simp [hit]

theorem burn_dark (g o : Nat) (w : World) (c0 : w.cell? ⟨g, o, none⟩ = some (.bool false)) :
    Calls Tryz.prog 72 #[.pointer (some ⟨g, o, none⟩)] w (fun e w' => e = .returned (.tuple #[]) ∧ w' = w) := by
  go_enter Tryz.func72, Tryz.ntmps72
  go_wp2
  go_end0
  exact ⟨rfl, rfl⟩

theorem burn_lit (g o : Nat) (n : Int) (w : World) (c0 : w.cell? ⟨g, o, none⟩ = some (.bool true)) (c1 : w.cell? ⟨g, o + 1, none⟩ = some (.int .i64 n)) (f1 : w.frozen? ⟨g, o + 1, none⟩ = false) (h0 : 0 < n) (h1 : n < 9223372036854775808) :
    Calls Tryz.prog 72 #[.pointer (some ⟨g, o, none⟩)] w (fun e w' => e = .returned (.tuple #[]) ∧ w' = w.setCell ⟨g, o + 1, none⟩ (.int .i64 (n - 1))) := by
  go_enter Tryz.func72, Tryz.ntmps72
  go_wp2
  go_end0
  exact ⟨rfl, rfl⟩

theorem refuse_nil (n i : Int) (hn : n = 0 ∨ n = 1 ∨ n = 2) (w : World) : Calls Tryz.prog 40 #[.pointer none, .int .i64 n, .int .i64 i] w (fun e w' => e = .returned (.int .i64 1) ∧ w' = w) := by
  rcases hn with rfl | rfl | rfl
  · go_enter Tryz.func40, Tryz.ntmps40
    go_wp2
    go_ret
    exact ⟨rfl, rfl⟩
  · go_enter Tryz.func40, Tryz.ntmps40
    go_wp2_with (go_at_call 36; refine (dead_nil _).mono ?_; rintro e w' ⟨rfl, rfl⟩)
    go_ret
    exact ⟨rfl, rfl⟩
  · by_cases h : i < 0
    · go_enter Tryz.func40, Tryz.ntmps40
      go_wp2_with (go_at_call 36; refine (dead_nil _).mono ?_; rintro e w' ⟨rfl, rfl⟩)
      go_ret
      exact ⟨rfl, rfl⟩
    · have h2 : 0 ≤ i := by omega
      go_enter Tryz.func40, Tryz.ntmps40
      go_wp2_with (first
        | (go_at_call 36; refine (dead_nil _).mono ?_; rintro e w' ⟨rfl, rfl⟩)
        | (go_at_call 46; refine (len_nil _).mono ?_; rintro e w' ⟨rfl, rfl⟩))
      go_ret
      exact ⟨rfl, rfl⟩

/-- why a call is refused: 0 (not at all), 2 (no such sector), 9 (dead) -/
def why (d : Dk) (n i : Int) : Int := if d.dead = true ∧ n ≠ 0 then 9 else if n = 2 ∧ ¬ (0 ≤ i ∧ i < d.held.length) then 2 else 0

theorem refuse_any (p : Pl) (d : Dk) (n i : Int) (hn : n = 0 ∨ n = 1 ∨ n = 2) (w : World) (k : At w p d) : Calls Tryz.prog 40 #[ptr p, .int .i64 n, .int .i64 i] w (fun e w' => e = .returned (.int .i64 (why d n i)) ∧ w' = w) := by
  have hk := Lib.hid k
  have hlen := k.good.n
  clear k
  rcases hn with rfl | rfl | rfl
  · go_enter Tryz.func40, Tryz.ntmps40
    go_wp2
    go_ret
    exact ⟨by simp [why], rfl⟩
  · obtain ⟨b, hb⟩ : ∃ b, d.dead = b := ⟨_, rfl⟩
    cases b <;>
    · go_enter Tryz.func40, Tryz.ntmps40
      go_wp2_with (go_at_call 36; refine (dead_any p d _ hk.out).mono ?_; rintro e w' ⟨rfl, rfl⟩)
      go_ret
      exact ⟨by simp [why, hb], rfl⟩
  · obtain ⟨b, hb⟩ : ∃ b, d.dead = b := ⟨_, rfl⟩
    by_cases h : i < 0
    · cases b <;>
      · go_enter Tryz.func40, Tryz.ntmps40
        go_wp2_with (go_at_call 36; refine (dead_any p d _ hk.out).mono ?_; rintro e w' ⟨rfl, rfl⟩)
        go_ret
        refine ⟨?_, rfl⟩
        have h3 : ¬ (0 ≤ i ∧ i < d.held.length) := by omega
        simp only [why, hb, h3]
        simp
    · have h2 : 0 ≤ i := by omega
      by_cases h3 : i < d.held.length
      · cases b <;>
        · go_enter Tryz.func40, Tryz.ntmps40
          go_wp2_with (first
            | (go_at_call 36; refine (dead_any p d _ hk.out).mono ?_; rintro e w' ⟨rfl, rfl⟩)
            | (go_at_call 46; refine (len_any p d _ hk.out).mono ?_; rintro e w' ⟨rfl, rfl⟩))
          go_ret
          exact ⟨by simp [why, hb, h2, h3], rfl⟩
      · have h4 : (d.held.length : Int) ≤ i := by omega
        cases b <;>
        · go_enter Tryz.func40, Tryz.ntmps40
          go_wp2_with (first
            | (go_at_call 36; refine (dead_any p d _ hk.out).mono ?_; rintro e w' ⟨rfl, rfl⟩)
            | (go_at_call 46; refine (len_any p d _ hk.out).mono ?_; rintro e w' ⟨rfl, rfl⟩))
          go_ret
          refine ⟨?_, rfl⟩
          have h5 : ¬ (0 ≤ i ∧ i < d.held.length) := by omega
          simp only [why, hb, h5]
          simp

theorem alloc74 (u : World) : (Instr.alloc 78 true (.tuple #[])).run Tryz.prog u = .ok (.pointer (some ⟨u.heap.size, 0, none⟩)) (u.alloc (.cells [.bool false, .int .i64 0].toArray 78)) := by kernel_rfl

theorem light_any (n : Int) (w : World) : Calls Tryz.prog 62 #[.int .i64 n] w (fun e w' => e = .returned (.agg #[.bool (decide (0 ≤ n)), .int .i64 n]) ∧ Below w.heap.size w w') := by
  go_enter Tryz.func62, Tryz.ntmps62
  go_wp2
  go_returns
  exact ⟨rfl, by go_grown⟩

end Go.Proofs.YtjhnagipagkhiaaGreat
