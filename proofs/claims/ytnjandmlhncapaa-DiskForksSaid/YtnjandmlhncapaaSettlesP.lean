/- DiskSettles and DiskChoice, their numbers. No program here. -/
import Derived.Test.YtnjandmlhncapaaAll
namespace Go.Proofs.Ytnjandmlhncapaa
open Go.RowKit

theorem snoc_split {α : Type} (xs : List α) (n : Nat) (h : xs.length = n + 1) : ∃ ys y, xs = ys ++ [y] ∧ ys.length = n := by
  refine ⟨xs.take n, xs[n]'(by omega), ?_, by simp; omega⟩
  have := List.take_add_one (l := xs) (i := n)
  rw [List.getElem?_eq_getElem (show n < xs.length by omega), List.take_of_length_le (show xs.length ≤ n + 1 by omega)] at this
  exact this

theorem sett_congr (c : Int → Option (List Int)) (held : List (List Int)) (kp kp' : Nat → Bool) : ∀ (n : Nat) (xs : List Int), xs.length = n → (∀ i, i < n → kp i = kp' i) → sett kp c held xs = sett kp' c held xs
  | 0, xs, h, _ => by
    have : xs = [] := List.eq_nil_of_length_eq_zero h
    subst this; rfl
  | n + 1, xs, h, hk => by
    obtain ⟨ys, y, rfl, hl⟩ := snoc_split xs n h
    rw [sett_snoc, sett_snoc, sett_congr c held kp kp' n ys hl (fun i hi => hk i (by omega))]
    unfold stp
    rw [sett_num, hk ys.length (by omega)]

theorem keepOf_all (m i : Nat) (h : i < m) : keepOf (List.replicate m true) i = true := by simp [keepOf, h]

theorem pend_none {d : Dk} (h : d.cache = fun _ => none) : d.pend = [] := by simp [Dk.pend, h]
theorem saysL_held {d e : Dk} (h : d.cache = fun _ => none) (h' : e.cache = fun _ => none) (hh : d.held = e.held) : saysL d = saysL e := by
  unfold saysL
  rw [hh]
  refine List.map_congr_left fun i _ => ?_
  unfold Dk.says Dk.hold
  rw [h, h', hh]

theorem calm_cr {d : Dk} {n : Nat} (h : Calm d n) (ks : List Bool) : Calm (crRes d ks) n := by
  refine ⟨rfl, rfl, rfl, ?_⟩
  show (sett _ _ _ _).2.length = n
  rw [sett_len]; exact h.len

/-- a crash that keeps everything is a Sync -/
theorem every_sync (d : Dk) : saysL (crRes d (List.replicate d.pend.length true)) = saysL (hd1 d) := by
  refine saysL_held rfl rfl ?_
  show (sett (keepOf _) d.cache d.held d.pend).2 = (sett (fun _ => true) d.cache d.held d.pend).2
  rw [sett_congr d.cache d.held _ (fun _ => true) d.pend.length d.pend rfl (fun i hi => keepOf_all _ i hi)]

/-- behind a Sync no crash changes anything -/
theorem crash_synced (d : Dk) (ks : List Bool) : saysL (crRes (hd1 d) ks) = saysL (hd1 d) := by
  refine saysL_held rfl rfl ?_
  show (sett (keepOf ks) (hd1 d).cache (hd1 d).held (hd1 d).pend).2 = (hd1 d).held
  rw [pend_none (d := hd1 d) rfl]
  rfl

theorem says64 {d : Dk} (h : Good d) : ∀ x ∈ saysL d, x.length = 64 := by
  intro x hx
  unfold saysL at hx
  obtain ⟨i, hi, rfl⟩ := List.mem_map.1 hx
  rw [List.mem_range] at hi
  exact Dk.says_len h (by omega) (by omega)

end Go.Proofs.Ytnjandmlhncapaa
