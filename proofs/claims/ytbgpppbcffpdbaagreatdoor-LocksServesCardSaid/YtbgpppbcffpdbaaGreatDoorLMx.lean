/- How one is served: its blockers release one after another. -/
import Derived.Test.YtbgpppbcffpdbaaGreatDoorLMw
import Derived.Test.YtbgpppbcffpdbaaGreatDoorLTo
namespace Go.Proofs.YtbgpppbcffpdbaaGreatDoor
open Go.RowKit

/-- no queue is longer than N, its rows together -/
def Tot (N : Nat) (L : List QueD) : Prop := ∀ d ∈ L, d.hs.length + d.ws.length ≤ N
theorem Tot.sm {N : Nat} {L : List QueD} (h : Tot N L) (hN : N ≤ 100000) : Sm L := fun d hd => by have := h d hd; omega
theorem few_tot (L : List QueD) : Tot 40 (fewL L) := fun d hd => by have := few_len L d hd; omega
theorem pump_tot : ∀ (ws : List WaitD) (hs : List HoldD), (pumpH hs ws).1.length + (pumpH hs ws).2.1.length ≤ hs.length + ws.length
  | [], hs => by simp [pumpH]
  | a :: ws, hs => by
    unfold pumpH
    split
    · exact Nat.le_refl _
    · have h1 := pump_tot ws (grantH hs ⟨a.x, a.m⟩)
      have h2 := grantH_len hs ⟨a.x, a.m⟩
      simp only [List.length_cons]
      omega
theorem wo_tot {N : Nat} {L : List QueD} (h : Tot N L) (n : Int) : Tot N (woL (relD n) n L) := fun e he => by
  unfold woL at he
  obtain ⟨d, hd, rfl⟩ := List.mem_map.1 (List.mem_filter.1 he).1
  have h0 := h d hd
  cases ht : touchD n d with
  | false => rw [doneD_not ht]; exact h0
  | true =>
    rw [doneD_yes ht]
    have h1 := pump_tot (relD n d).ws (relD n d).hs
    have h2 : (relD n d).hs.length ≤ d.hs.length := List.length_filter_le _ _
    have h3 : (relD n d).ws.length ≤ d.ws.length := List.length_filter_le _ _
    show (pumpH _ _).1.length + (pumpH _ _).2.1.length ≤ N
    omega
/-- it waits, and what hinders it is among the rest; or it is granted -/
def Sv (L : List QueD) (y : Int) (r : ResD) (m : Int) (rest : List Int) : Prop := (∃ d, wtOf L y = some d ∧ d.res = r ∧ (wtrOf d y).m = m ∧ ∀ b ∈ preB d y, b ∈ rest) ∨ (y ∉ txL L ∧ heldH (qOf L r).hs y = m ∧ m ≠ 0)
theorem Sv.step {L : List QueD} {y n : Int} {r : ResD} {m : Int} {rest : List Int} (h : Sv L y r m (n :: rest)) (hc : ChkOk L) (hny : y ≠ n) : Sv (woL (relD n) n L) y r m rest := by
  rcases h with ⟨d, hw, rfl, rfl, hb⟩ | ⟨h1, h2, h3⟩
  · rcases serve_step hc hny hw with ⟨h1, h2, h3⟩ | ⟨d1, h1, h2, h3, h4⟩
    · exact .inr ⟨h1, h2, h3⟩
    · refine .inl ⟨d1, h1, h2, h3, fun b hb1 => ?_⟩
      obtain ⟨h5, h6⟩ := h4 b hb1
      rcases List.mem_cons.1 (hb b h5) with e | e
      · exact absurd e h6
      · exact e
  · obtain ⟨h4, h5⟩ := keeps_held hc hny h1 (by rw [h2]; exact h3)
    exact .inr ⟨h4, by rw [h5]; exact h2, h3⟩
theorem Sv.done {L : List QueD} {y : Int} {r : ResD} {m : Int} (h : Sv L y r m []) (hc : ChkOk L) : y ∉ txL L ∧ heldH (qOf L r).hs y = m := by
  rcases h with ⟨d, hw, _, _, hb⟩ | ⟨h1, h2, _⟩
  · obtain ⟨b, hb1⟩ := (pre_ok hc hw).1
    cases hb b hb1
  · exact ⟨h1, h2⟩
/-- how far the law on serving has come -/
structure SvR (w0 : World) (G : Nat) (bl : List Int) (y m : Int) (r : ResD) (q : Option Addr) (n c : Nat) (V : List QV) (L : List QueD) (j : Nat) (wr : World) : Prop where
  chk : ChkOk L
  tot : Tot 40 L
  lk : LkOn wr q n c V L
  box : RowV 24 wr G [.slice q n c]
  fr : Fr (fun k => k = G) w0 wr
  sv : Sv L y r m (bl.drop j)
end Go.Proofs.YtbgpppbcffpdbaaGreatDoor
