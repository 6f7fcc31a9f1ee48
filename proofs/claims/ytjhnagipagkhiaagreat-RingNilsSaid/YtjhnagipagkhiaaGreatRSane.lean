/- A disk on which nothing is lit and that is not dead: what is laid there is laid. -/
import Derived.Test.YtjhnagipagkhiaaGreatRApo
namespace Go.Proofs.YtjhnagipagkhiaaGreat
open Go.RowKit

structure Sane (d : Dk) (n : Nat) : Prop where
  dead : d.dead = false
  al : d.al = false
  fl : d.fl = false
  len : d.held.length = n
  ops : 0 ≤ d.ops

theorem Sane.wr {d : Dk} {n : Nat} (h : Sane d n) (i : Int) (b : List Int) (h0 : 0 ≤ i) (h1 : i < n) : ∃ d', wrRes d i b = (0, d') ∧ Sane d' n ∧ d'.ops = d.ops + 1 := by
  have e1 : why d 2 i = 0 := by
    unfold why
    rw [if_neg (by rw [h.dead]; simp), if_neg (by rw [h.len]; omega)]
  have e2 : hit d.al d.an = false := by rw [h.al]; rfl
  have e3 : hit d.fl d.fn = false := by rw [h.fl]; rfl
  refine ⟨dWrite (dDone d) i b, ?_, ⟨h.dead, h.al, h.fl, h.len, by have := h.ops; show (0 : Int) ≤ d.ops + 1; omega⟩, rfl⟩
  unfold wrRes
  rw [e1, e2, e3]
  rfl

theorem Sane.sy {d : Dk} {n : Nat} (h : Sane d n) : ∃ d', syRes d = (0, d') ∧ Sane d' n ∧ d'.ops = d.ops + 1 := by
  have e2 : hit d.al d.an = false := by rw [h.al]; rfl
  have e3 : hit d.fl d.fn = false := by rw [h.fl]; rfl
  refine ⟨dSettle (dDone d) fun _ => true, ?_, ⟨h.dead, h.al, h.fl, ?_, by have := h.ops; show (0 : Int) ≤ d.ops + 1; omega⟩, rfl⟩
  · unfold syRes
    rw [if_neg (by rw [h.dead]; simp), e2, e3]
    rfl
  · show (sett (fun _ => true) (dDone d).cache (dDone d).held (dDone d).pend).2.length = n
    rw [sett_len]
    exact h.len

theorem Sane.wrAll {n : Nat} : ∀ (l : List (Int × List Int)) {d : Dk}, Sane d n → (∀ y ∈ l, 0 ≤ y.1 ∧ y.1 < n) → ∃ d', Go.Proofs.YtjhnagipagkhiaaGreat.wrAll d l = (0, d') ∧ Sane d' n ∧ d'.ops = d.ops + l.length
  | [], d, h, _ => ⟨d, by unfold Go.Proofs.YtjhnagipagkhiaaGreat.wrAll; rfl, h, by simp⟩
  | (i, b) :: r, d, h, hl => by
    obtain ⟨d1, e1, h1, o1⟩ := h.wr i b (hl (i, b) List.mem_cons_self).1 (hl (i, b) List.mem_cons_self).2
    obtain ⟨d2, e2, h2, o2⟩ := Sane.wrAll r h1 (fun y hy => hl y (List.mem_cons_of_mem _ hy))
    refine ⟨d2, ?_, h2, by rw [o2, o1, List.length_cons]; omega⟩
    unfold Go.Proofs.YtjhnagipagkhiaaGreat.wrAll
    rw [e1]
    rw [if_pos rfl]
    exact e2

/-- one group is laid -/
theorem Sane.lay {d : Dk} {n : Nat} (h : Sane d n) (l : List (Int × List Int)) (hl : ∀ y ∈ l, 0 ≤ y.1 ∧ y.1 < n) (r : List (List (Int × List Int))) : ∃ d', layAll d (l :: r) = layAll d' r ∧ Sane d' n ∧ d'.ops = d.ops + l.length + 1 := by
  obtain ⟨d1, e1, h1, o1⟩ := Sane.wrAll l h hl
  obtain ⟨d2, e2, h2, o2⟩ := h1.sy
  refine ⟨d2, ?_, h2, by rw [o2, o1]⟩
  conv => lhs; unfold layAll
  rw [e1, if_pos rfl, e2, if_pos rfl]

theorem wrapAt_lt {size place n : Nat} (h1 : place < size) (h2 : n < size) : wrapAt size place n < size := by
  unfold wrapAt
  split <;> omega

theorem nxt_in {turn number size place used n : Nat} {e : List UInt8} (hp : place < size) (hu : used + secs e.length ≤ size) (hn : size + 2 ≤ n) : ∀ y ∈ nxtL turn number size place used e, 0 ≤ y.1 ∧ y.1 < n := by
  intro y hy
  obtain ⟨k, hk, rfl⟩ := List.mem_map.1 hy
  have hk2 := List.mem_range.1 hk
  have := wrapAt_lt (size := size) (place := place) (n := used + k) hp (by omega)
  unfold nxtE
  exact ⟨by show (0 : Int) ≤ ((2 + wrapAt size place (used + k) : Nat) : Int); omega, by show ((2 + wrapAt size place (used + k) : Nat) : Int) < n; omega⟩

end Go.Proofs.YtjhnagipagkhiaaGreat
