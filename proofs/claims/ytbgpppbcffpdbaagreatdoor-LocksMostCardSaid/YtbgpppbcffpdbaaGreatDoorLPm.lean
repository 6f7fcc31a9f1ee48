/- pump of locks. -/
import Derived.Test.YtbgpppbcffpdbaaGreatDoorLCm
import Derived.Test.YtbgpppbcffpdbaaGreatDoorLGc
namespace Go.Proofs.YtbgpppbcffpdbaaGreatDoor
open Go.RowKit Go.Maps

section
variable {α : Type} [Cel α]
/-- a list of the call's own, from some cell of its block on -/
def OwnO (T : TypeId) (w : World) (base : Nat) (q : Option Addr) (n c : Nat) (l : List α) : Prop :=
  l.length = n ∧ n ≤ c ∧ c ≤ maxLen ∧ (q = none → c = 0) ∧ ∀ a, q = some a → ∃ g o cur, a = ⟨g, o, none⟩ ∧ base ≤ g ∧ RowV T w g cur ∧ o + c * Cel.sz α ≤ cur.length ∧ ∀ j x, (cellsL l)[j]? = some x → cur[o + j]? = some x
theorem OwnS.oo {T : TypeId} {w : World} {base : Nat} {q : Option Addr} {n c : Nat} {l : List α} (h : OwnS T w base (.slice q n c) l) : OwnO T w base q n c l := by
  have hr := h.reads
  refine ⟨hr.len, hr.le, hr.cap, hr.nil, fun a ha => ?_⟩
  subst ha
  obtain ⟨g, cur, rfl, hB, hrow, hnc, hc, hs, ht⟩ := h.opened
  refine ⟨g, 0, cur, rfl, hB, hrow, by omega, fun j x hj => ?_⟩
  rw [Nat.zero_add]
  rw [← ht, List.getElem?_take] at hj
  split at hj
  · exact hj
  · cases hj
theorem OwnO.reads {T : TypeId} {w : World} {base : Nat} {q : Option Addr} {n c : Nat} {l : List α} (h : OwnO T w base q n c l) : SlOn w q n c l := by
  obtain ⟨h1, h2, h3, h4, h5⟩ := h
  refine ⟨h1, h2, h3, h4, fun i r hi => ?_⟩
  have hi2 := (List.getElem?_eq_some_iff.1 hi).1
  cases q with
  | none => have := h4 rfl; omega
  | some a =>
    obtain ⟨g, o, cur, rfl, hB, hrow, hle, hc⟩ := h5 a rfl
    refine ⟨_, rfl, fun j x hj => ?_⟩
    have h7 := hc _ _ (cellsL_get l i r hi j x hj)
    have e : ((⟨g, o, none⟩ : Addr).add (i * Cel.sz α)).add j = ⟨g, o + (i * Cel.sz α + j), none⟩ := by
      rw [Go.Deep.add_add]
      unfold Addr.add
      split
      · rename_i h0; rw [h0]; rfl
      · rfl
    rw [e]
    have h8 := hrow.cell (o + (i * Cel.sz α + j))
    rw [h8]; exact h7
theorem OwnO.far {T : TypeId} {w : World} {base : Nat} {q : Option Addr} {n c : Nat} {l : List α} (h : OwnO T w base q n c l) : ∀ a, q = some a → base ≤ a.block ∧ a.block < w.heap.size := fun a ha => by
  obtain ⟨g, o, cur, rfl, hB, hrow, _, _⟩ := h.2.2.2.2 a ha
  exact ⟨hB, hrow.lt⟩
theorem OwnO.fr {S : Nat → Prop} {T : TypeId} {w w' : World} {base : Nat} {q : Option Addr} {n c : Nat} {l : List α} (h : OwnO T w base q n c l) (hf : Fr S w w') (hn : ∀ a, q = some a → ¬ S a.block) : OwnO T w' base q n c l :=
  ⟨h.1, h.2.1, h.2.2.1, h.2.2.2.1, fun a ha => by
    obtain ⟨g, o, cur, e, hB, hrow, hle, hc⟩ := h.2.2.2.2 a ha
    exact ⟨g, o, cur, e, hB, hrow.block (hf.block _ hrow.lt (by have := hn a ha; rw [e] at this; exact this)), hle, hc⟩⟩
theorem OwnO.mono {T : TypeId} {w : World} {b b' : Nat} {q : Option Addr} {n c : Nat} {l : List α} (h : OwnO T w b q n c l) (hb : b' ≤ b) : OwnO T w b' q n c l :=
  ⟨h.1, h.2.1, h.2.2.1, h.2.2.2.1, fun a ha => by
    obtain ⟨g, o, cur, e, hB, r⟩ := h.2.2.2.2 a ha
    exact ⟨g, o, cur, e, Nat.le_trans hb hB, r⟩⟩
/-- where the rest of a slice begins -/
def nxA (α : Type) [Cel α] (c : Nat) (a : Addr) : Addr := if c = 1 then a else a.add (Cel.sz α)
theorem nxA_block (c : Nat) (a : Addr) : (nxA α c a).block = a.block := by
  unfold nxA; split
  · rfl
  · exact add_blk _ _
theorem OwnO.tail {T : TypeId} {w : World} {base : Nat} {a : Addr} {n c : Nat} {r : α} {l : List α} (h : OwnO T w base (some a) n c (r :: l)) : OwnO T w base (some (nxA α c a)) (n - 1) (c - 1) l := by
  obtain ⟨h1, h2, h3, h4, h5⟩ := h
  simp only [List.length_cons] at h1
  have hp := Cel.pos (α := α)
  refine ⟨by omega, by omega, by omega, (fun e => by cases e), fun b hb => ?_⟩
  cases hb
  obtain ⟨g, o, cur, rfl, hB, hrow, hle, hc⟩ := h5 _ rfl
  have hcs : (c - 1) * Cel.sz α + Cel.sz α = c * Cel.sz α := by
    obtain ⟨k, rfl⟩ : ∃ k, c = k + 1 := ⟨c - 1, by omega⟩
    rw [Nat.add_sub_cancel, Nat.add_mul, Nat.one_mul]
  by_cases h0 : c = 1
  · have hl0 : l = [] := List.eq_nil_of_length_eq_zero (by omega)
    subst hl0
    exact ⟨g, o, cur, by unfold nxA; rw [if_pos h0], hB, hrow, by omega, fun j x hj => by simp [cellsL] at hj⟩
  · refine ⟨g, o + Cel.sz α, cur, by unfold nxA; rw [if_neg h0]; unfold Addr.add; split <;> simp_all, hB, hrow, by omega, fun j x hj => ?_⟩
    have := hc (Cel.sz α + j) x (by simp only [cellsL]; rw [List.getElem?_append_right (by rw [Cel.len]; omega), Cel.len, Nat.add_sub_cancel_left]; exact hj)
    rw [← Nat.add_assoc] at this
    exact this
end

/-- who is granted, one behind the other -/
def pumpH : List HoldD → List WaitD → List HoldD × List WaitD × List Int
  | hs, [] => (hs, [], [])
  | hs, a :: ws => if goesW hs a = false then (hs, a :: ws, []) else ((pumpH (grantH hs ⟨a.x, a.m⟩) ws).1, (pumpH (grantH hs ⟨a.x, a.m⟩) ws).2.1, a.x :: (pumpH (grantH hs ⟨a.x, a.m⟩) ws).2.2)
theorem takeWhile_all {p : HoldD → Bool} {hs : List HoldD} {k : Nat} {h : HoldD} (hk : k < (hs.takeWhile p).length) (hx : hs[k]? = some h) : p h = true := by
  have h1 : (hs.takeWhile p)[k]? = some h := by
    have h2 := List.takeWhile_append_dropWhile (p := p) (l := hs)
    rw [← h2, List.getElem?_append_left hk] at hx
    exact hx
  have h3 := List.mem_of_getElem? h1
  exact List.all_eq_true.1 (List.all_takeWhile (p := p) (l := hs)) h h3
theorem posH_lt {hs : List HoldD} {x : Int} {k : Nat} {h : HoldD} (hk : k < posH hs x) (hx : hs[k]? = some h) : h.x < x := by
  have := takeWhile_all (p := fun h => decide (h.x < x)) hk hx
  simpa using this
theorem posH_not : ∀ {hs : List HoldD} {x : Int} {h0 : HoldD}, hs[posH hs x]? = some h0 → ¬ h0.x < x
  | [], x, h0, h => by simp at h
  | a :: hs, x, h0, h => by
    unfold posH at h
    rw [List.takeWhile_cons] at h
    split at h
    · rw [List.length_cons, List.getElem?_cons_succ] at h
      exact posH_not (hs := hs) h
    · rename_i hd
      simp at h
      subst h
      simpa using hd
theorem posH_ge {hs : List HoldD} (hso : SortH hs) {x : Int} {k : Nat} {h : HoldD} (hk : posH hs x ≤ k) (hx : hs[k]? = some h) : x ≤ h.x := by
  have hlen := (List.getElem?_eq_some_iff.1 hx).1
  obtain ⟨h0, hh0⟩ : ∃ h0, hs[posH hs x]? = some h0 := ⟨_, List.getElem?_eq_getElem (by omega)⟩
  have h1 : ¬ h0.x < x := posH_not hh0
  rcases Nat.lt_or_ge (posH hs x) k with h2 | h2
  · have := hso.lt h2 hh0 hx
    omega
  · have e : k = posH hs x := by omega
    rw [e, hh0] at hx; cases hx; omega
theorem grant_sort {hs : List HoldD} (hso : SortH hs) (h : HoldD) : SortH (grantH hs h) := by
  unfold grantH
  have hp := posH_le hs h.x
  split
  · rename_i hf
    refine sort_adj (fun j p a h1 h2 => ?_)
    obtain ⟨h0, hh0, hx0⟩ : ∃ h0, hs[posH hs h.x]? = some h0 ∧ h0.x = h.x := by
      unfold fndH at hf
      cases hx : hs[posH hs h.x]? with
      | none => rw [hx] at hf; cases hf
      | some h0 => rw [hx] at hf; exact ⟨h0, rfl, by simpa using hf⟩
    rw [List.getElem?_set] at h1 h2
    have q1 : ∃ p', hs[j]? = some p' ∧ p'.x = p.x := by
      split at h1
      · rename_i e
        split at h1
        · cases h1; exact ⟨h0, by rw [← e]; exact hh0, hx0⟩
        · cases h1
      · exact ⟨p, h1, rfl⟩
    have q2 : ∃ a', hs[j + 1]? = some a' ∧ a'.x = a.x := by
      split at h2
      · rename_i e
        split at h2
        · cases h2; exact ⟨h0, by rw [← e]; exact hh0, hx0⟩
        · cases h2
      · exact ⟨a, h2, rfl⟩
    obtain ⟨p', e1, e2⟩ := q1
    obtain ⟨a', e3, e4⟩ := q2
    have := hso.lt (Nat.lt_succ_self j) e1 e3
    omega
  · rename_i hf
    have hlt : ∀ k h', posH hs h.x ≤ k → hs[k]? = some h' → h.x < h'.x := fun k h' hk hx => by
      have h1 := posH_ge hso hk hx
      rcases Nat.lt_or_ge (posH hs h.x) k with h2 | h2
      · obtain ⟨h0, hh0⟩ : ∃ h0, hs[posH hs h.x]? = some h0 := ⟨_, List.getElem?_eq_getElem (by have := (List.getElem?_eq_some_iff.1 hx).1; omega)⟩
        have h3 := posH_ge hso (Nat.le_refl _) hh0
        have h4 := hso.lt h2 hh0 hx
        omega
      · have e : k = posH hs h.x := by omega
        rw [e] at hx
        have : h'.x ≠ h.x := fun e => hf (by unfold fndH; rw [hx]; simpa using e)
        omega
    refine sort_adj (fun j p a h1 h2 => ?_)
    rcases ins_get hp h1 with ⟨j1, k1⟩ | ⟨j1, k1⟩ | ⟨j1, k1⟩ <;> rcases ins_get hp h2 with ⟨j2, k2⟩ | ⟨j2, k2⟩ | ⟨j2, k2⟩
    · exact hso.lt (Nat.lt_succ_self j) k1 k2
    · rw [k2]; exact posH_lt j1 k1
    · omega
    · omega
    · omega
    · rw [k1]; exact hlt _ _ (by omega) k2
    · omega
    · omega
    · exact hso.lt (show j - 1 < j + 1 - 1 by omega) k1 k2
theorem grant_len (hs : List HoldD) (h : HoldD) : (grantH hs h).length ≤ hs.length + 1 := by
  unfold grantH
  split
  · rw [List.length_set]; omega
  · rw [List.length_append, List.length_cons, List.length_take, List.length_drop]; omega
end Go.Proofs.YtbgpppbcffpdbaaGreatDoor
