/- Find of row. -/
import Derived.Test.YtaiepdhmlmnggaaYSam
namespace Go.Proofs.Ytaiepdhmlmnggaa
open Go.RowKit

def findK (l : List RowD) (k : KeyD) : Option Nat := l.findIdx? fun r => eqK r.key k
theorem findK_some {l : List RowD} {k : KeyD} {i : Nat} {r : RowD} (hi : l[i]? = some r) (hr : eqK r.key k = true) (hlt : ∀ (j : Nat) (x : RowD), j < i → l[j]? = some x → eqK x.key k = false) : findK l k = some i := by
  unfold findK
  have hl := (List.getElem?_eq_some_iff.1 hi).1
  rw [List.findIdx?_eq_some_iff_getElem]
  refine ⟨hl, ?_, fun j hj => ?_⟩
  · rw [(List.getElem?_eq_some_iff.1 hi).2]; exact hr
  · have := hlt j _ hj (List.getElem?_eq_getElem (by omega))
    simp [this]
theorem findK_none {l : List RowD} {k : KeyD} (h : ∀ (j : Nat) (x : RowD), l[j]? = some x → eqK x.key k = false) : findK l k = none := by
  unfold findK
  rw [List.findIdx?_eq_none_iff]
  intro x hx
  obtain ⟨j, hj⟩ := List.mem_iff_getElem?.1 hx
  exact h j x hj
def findN (l : List RowD) (k : KeyD) : Int := match findK l k with | some i => i | none => 0
def findB (l : List RowD) (k : KeyD) : Bool := (findK l k).isSome

def FndRel (W wr : World) (l : List RowD) (k : KeyD) (n : Nat) : Prop := Below W.heap.size W wr ∧ ∀ i r, i < n → l[i]? = some r → eqK r.key k = false

theorem eqK_false {a b c d : Int} (h : ¬ (a = c ∧ b = d)) : eqK ⟨a, b⟩ ⟨c, d⟩ = false := by
  unfold eqK
  rw [Bool.and_eq_false_iff]
  by_cases h1 : a = c
  · right; simp; exact fun h2 => h ⟨h1, h2⟩
  · left; simpa using h1
theorem ret_ib {a b : Int} {x y : Bool} (h : a = b) (h2 : x = y) : Ending.returned (.tuple #[.int .i64 a, .bool x]) = .returned (.tuple #[.int .i64 b, .bool y]) := by rw [h, h2]

end Go.Proofs.Ytaiepdhmlmnggaa
