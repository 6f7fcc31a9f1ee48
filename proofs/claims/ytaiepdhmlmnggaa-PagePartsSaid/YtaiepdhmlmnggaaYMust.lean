/- What a row must be: keyed, noted, bounded, and mustBe. -/
import Derived.Test.YtaiepdhmlmnggaaYChk
namespace Go.Proofs.Ytaiepdhmlmnggaa
open Go.RowKit

/-- the block g begins with these cells -/
def Boxed (w : World) (g : Nat) (vs : List Value) : Prop := ∀ j x, vs[j]? = some x → w.cell? ((⟨g, 0, none⟩ : Addr).add j) = some x
theorem Boxed.all {w : World} {g : Nat} {vs : List Value} (h : Boxed w g vs) : ∀ j x, vs[j]? = some x → w.cell? ((⟨g, 0, none⟩ : Addr).add j) = some x := h
theorem Boxed.below {B : Nat} {w w' : World} {g : Nat} {vs : List Value} (h : Boxed w g vs) (hb : Below B w w') (hB : w.heap.size ≤ B) : Boxed w' g vs := fun j x hj => cell_keeps hb hB (h j x hj)
theorem Boxed.made {T : TypeId} (w : World) (vs : List Value) : Boxed (w.alloc (.cells vs.toArray T)) w.heap.size vs := (RowV.made w vs).part (pre := []) (rest := []) (by simp) rfl
theorem Boxed.cell {w : World} {g : Nat} {vs : List Value} (h : Boxed w g vs) (j : Nat) {x : Value} (hx : vs[j]? = some x) : w.cell? ⟨g, j, none⟩ = some x := by
  have := h j x hx
  have hadd : (⟨g, 0, none⟩ : Addr).add j = ⟨g, j, none⟩ := by unfold Addr.add; split <;> simp_all
  rwa [hadd] at this

theorem two_boxes {w W : World} {T1 T2 : TypeId} {xs ys : List Value} (h : (w.alloc (.cells xs.toArray T1)).alloc (.cells ys.toArray T2) = W) : Below w.heap.size w W ∧ Boxed W w.heap.size xs ∧ Boxed W (w.heap.size + 1) ys ∧ W.heap.size = w.heap.size + 2 := by
  subst h
  refine ⟨((Below.refl _ _).alloc (Nat.le_refl _) _).alloc (by simp) _, (Boxed.made w _).below ((Below.refl _ _).alloc (Nat.le_refl _) _) (by simp), ?_, by simp⟩
  have := Boxed.made (T := T2) (w.alloc (.cells xs.toArray T1)) ys
  simpa using this
theorem one_box {w W : World} {T1 : TypeId} {xs : List Value} (h : w.alloc (.cells xs.toArray T1) = W) : Below w.heap.size w W ∧ Boxed W w.heap.size xs ∧ W.heap.size = w.heap.size + 1 := by
  subst h
  exact ⟨(Below.refl _ _).alloc (Nat.le_refl _) _, Boxed.made w _, by simp⟩

def keyE (bs : List BdD) (k : KeyD) : Int := if 0 ≤ k.t ∧ k.t < bs.length then 0 else 151
def noteE (r : RowD) : Int := if r.note.size ≤ 8 then 0 else 3
def inB (b : BdD) (v : Int) : Bool := decide (b.lo ≤ v) && decide (v ≤ b.hi)
def boundE (bs : List BdD) (r : RowD) : Int := match bs[r.key.t.toNat]? with
  | some b => if inB b r.val = true then 0 else 152
  | none => 152
def rowE (bs : List BdD) (r : RowD) : Int := if keyE bs r.key = 0 then (if noteE r = 0 then boundE bs r else 3) else 151
theorem keyE_or (bs : List BdD) (k : KeyD) : (0 ≤ k.t ∧ k.t < bs.length ∧ keyE bs k = 0) ∨ ((k.t < 0 ∨ (bs.length : Int) ≤ k.t) ∧ keyE bs k = 151) := by
  unfold keyE
  by_cases h : 0 ≤ k.t ∧ k.t < bs.length
  · exact .inl ⟨h.1, h.2, if_pos h⟩
  · exact .inr ⟨by omega, if_neg h⟩
theorem noteE_or (r : RowD) : (r.note.size ≤ 8 ∧ noteE r = 0) ∨ (8 < r.note.size ∧ noteE r = 3) := by
  unfold noteE
  by_cases h : r.note.size ≤ 8
  · exact .inl ⟨h, if_pos h⟩
  · exact .inr ⟨by omega, if_neg h⟩
theorem boundE_or {bs : List BdD} {r : RowD} {b : BdD} (h : bs[r.key.t.toNat]? = some b) : (b.lo ≤ r.val ∧ r.val ≤ b.hi ∧ boundE bs r = 0) ∨ ((r.val < b.lo ∨ b.hi < r.val) ∧ boundE bs r = 152) := by
  unfold boundE inB
  rw [h]
  by_cases h1 : b.lo ≤ r.val ∧ r.val ≤ b.hi
  · exact .inl ⟨h1.1, h1.2, by simp [h1]⟩
  · refine .inr ⟨by omega, ?_⟩
    simp only [Bool.and_eq_true, decide_eq_true_eq, if_neg h1]
theorem boundE_range (bs : List BdD) (r : RowD) : boundE bs r = 0 ∨ boundE bs r = 152 := by
  unfold boundE
  repeat' split
  all_goals simp

end Go.Proofs.Ytaiepdhmlmnggaa
