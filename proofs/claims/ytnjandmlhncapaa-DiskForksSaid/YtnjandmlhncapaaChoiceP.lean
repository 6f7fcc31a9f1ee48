/- DiskChoice, its numbers: what a sector says behind a crash. No program here. -/
import Derived.Test.YtnjandmlhncapaaSettlesP
namespace Go.Proofs.Ytnjandmlhncapaa
open Go.RowKit

theorem count_all {xs : List Int} {y : Int} (h : ∀ x ∈ xs, x < y) : xs.countP (fun x => decide (x < y)) = xs.length := by
  rw [List.countP_eq_length]
  intro x hx
  simp [h x hx]

theorem sett_get (kp : Nat → Bool) (c : Int → Option (List Int)) (held : List (List Int)) (i : Int) (h0 : 0 ≤ i) : ∀ (n : Nat) (xs : List Int), xs.length = n → xs.Pairwise (· < ·) → (∀ x ∈ xs, 0 ≤ x ∧ x.toNat < held.length) →
    ((sett kp c held xs).2)[i.toNat]? = if (xs.contains i && kp (xs.countP fun x => decide (x < i))) = true then some ((c i).getD []) else held[i.toNat]?
  | 0, xs, h, _, _ => by
    have : xs = [] := List.eq_nil_of_length_eq_zero h
    subst this
    rfl
  | n + 1, xs, h, hp, hx => by
    obtain ⟨ys, y, rfl, hl⟩ := snoc_split xs n h
    rw [List.pairwise_append] at hp
    have hlt : ∀ x ∈ ys, x < y := fun x hxy => hp.2.2 x hxy y (by simp)
    have hy := hx y (by simp)
    have ih := sett_get kp c held i h0 n ys hl hp.1 (fun x hxy => hx x (by simp [hxy]))
    rw [sett_snoc]
    unfold stp
    rw [sett_num]
    by_cases e : i = y
    · subst e
      have hc : (ys ++ [i]).contains i = true := by simp
      have hn : ys.contains i = false := by
        rw [← Bool.not_eq_true, List.contains_iff_mem]
        intro hm
        have := hlt i hm
        omega
      have hcnt : (ys ++ [i]).countP (fun x => decide (x < i)) = ys.length := by
        rw [List.countP_append, count_all hlt]
        simp
      rw [hc, hcnt, Bool.true_and]
      by_cases hk : kp ys.length = true
      · rw [if_pos hk, if_pos hk, List.getElem?_set_self (by rw [sett_len]; exact hy.2)]
      · rw [if_neg hk, if_neg hk, ih, hn]
        simp
    · have hne : y.toNat ≠ i.toNat := by omega
      have hset : ((if kp ys.length = true then (sett kp c held ys).2.set y.toNat ((c y).getD []) else (sett kp c held ys).2))[i.toNat]? = ((sett kp c held ys).2)[i.toNat]? := by
        split
        · rw [List.getElem?_set_ne hne]
        · rfl
      rw [hset, ih]
      have hc : (ys ++ [y]).contains i = ys.contains i := by simp [e]
      rw [hc]
      by_cases hm : ys.contains i = true
      · have h1 := hlt i (List.contains_iff_mem.1 hm)
        have hcnt : (ys ++ [y]).countP (fun x => decide (x < i)) = ys.countP (fun x => decide (x < i)) := by
          rw [List.countP_append, List.countP_singleton, if_neg (by simp; omega)]
          simp
        rw [hcnt]
      · rw [Bool.not_eq_true] at hm
        rw [hm]
        simp

/-- which place among the pending ones -/
def nthOf (d : Dk) (i : Int) : Nat := d.pend.countP fun x => decide (x < i)

theorem says_crash {d : Dk} (hG : Good d) (ks : List Bool) (i : Nat) : (crRes d ks).says (i : Int) = if (d.pend.contains (i : Int) && keepOf ks (nthOf d i)) = true then d.says (i : Int) else d.hold (i : Int) := by
  have h := sett_get (keepOf ks) d.cache d.held (i : Int) (by omega) _ d.pend rfl (Dk.rising hG).lt (fun x hx => by have := Dk.pend_mem hG hx; omega)
  show (((sett (keepOf ks) d.cache d.held d.pend).2)[((i : Nat) : Int).toNat]?).getD [] = _
  rw [h]
  unfold nthOf
  split
  · rename_i hk
    rw [Bool.and_eq_true, List.contains_iff_mem] at hk
    obtain ⟨_, _, b, hb, _⟩ := Dk.pend_mem hG hk.1
    unfold Dk.says
    rw [hb]; rfl
  · rfl

theorem says_held {d : Dk} (hG : Good d) (i : Nat) : (crRes d []).says (i : Int) = d.hold (i : Int) := by
  rw [says_crash hG]
  simp [keepOf]

theorem says_there {d : Dk} (hG : Good d) {i : Nat} (h : d.pend.contains (i : Int) = false) : d.says (i : Int) = d.hold (i : Int) := by
  have hc : d.cache (i : Int) = none := by
    cases hb : d.cache (i : Int) with
    | none => rfl
    | some b =>
      exfalso
      have hm := ((Dk.rising hG).mem (i : Int)).2 (by rw [cf_some, hb]; rfl)
      rw [← List.contains_iff_mem, h] at hm
      cases hm
  unfold Dk.says
  rw [hc]; rfl

end Go.Proofs.Ytnjandmlhncapaa
