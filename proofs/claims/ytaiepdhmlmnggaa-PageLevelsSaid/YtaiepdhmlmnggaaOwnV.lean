/- A slice of the call's own whose elements have one cell each: read, store, append; nothing of a program is claimed here. -/
import Derived.Test.YtaiepdhmlmnggaaCells
import Derived.Lib.SlBuf
import Derived.Deep.AppendSrc
namespace Go.Proofs.Ytaiepdhmlmnggaa
open Go.RowKit

/-- The slice v holds just these cells, in a row of its own from block base on. -/
def OwnV (T : TypeId) (w : World) (base : Nat) (v : Value) (xs : List Value) : Prop := w.ownsRow base T 1 v xs.length xs

theorem OwnV.nil (T : TypeId) (w : World) (base : Nat) : OwnV T w base (.slice none 0 0) [] := World.ownsRow_nil w base T 1

theorem OwnV.len {T : TypeId} {w : World} {base : Nat} {q : Option Addr} {n c : Nat} {xs : List Value} (h : OwnV T w base (.slice q n c) xs) : n = xs.length := by
  obtain ⟨_, ⟨he, h0⟩ | ⟨g, cap, cur, he, _⟩⟩ := h
  · cases he; exact h0.symm
  · simp only [Value.slice.injEq] at he; exact he.2.1

theorem OwnV.shape {T : TypeId} {w : World} {base : Nat} {v : Value} {xs : List Value} (h : OwnV T w base v xs) : ∃ q c, v = .slice q xs.length c := by
  obtain ⟨_, ⟨he, h0⟩ | ⟨g, cap, cur, he, _⟩⟩ := h
  · exact ⟨none, 0, by rw [he, h0]⟩
  · exact ⟨_, _, he⟩

theorem OwnV.kept {T : TypeId} {w w' : World} {base : Nat} {q : Option Addr} {n c : Nat} {xs : List Value} (h : OwnV T w base (.slice q n c) xs) (hb : ∀ a, q = some a → w'.heap[a.block]? = w.heap[a.block]?) : OwnV T w' base (.slice q n c) xs := by
  obtain ⟨hlen, ⟨he, h0⟩ | ⟨g, cap, cur, he, hg, hh, r⟩⟩ := h
  · exact ⟨hlen, .inl ⟨he, h0⟩⟩
  · simp only [Value.slice.injEq] at he
    obtain ⟨rfl, e2, rfl⟩ := he
    exact ⟨hlen, .inr ⟨g, c, cur, by rw [e2], hg, by rw [hb _ rfl]; exact hh, r⟩⟩

theorem OwnV.far {T : TypeId} {w : World} {base : Nat} {q : Option Addr} {n c : Nat} {xs : List Value} (h : OwnV T w base (.slice q n c) xs) : ∀ a, q = some a → base ≤ a.block ∧ a.block < w.heap.size := by
  intro a ha
  obtain ⟨_, ⟨he, _⟩ | ⟨g, cap, cur, he, hg, hh, _⟩⟩ := h
  · simp only [Value.slice.injEq] at he; obtain ⟨rfl, _⟩ := he; cases ha
  · simp only [Value.slice.injEq] at he; obtain ⟨rfl, _⟩ := he; cases ha; exact ⟨hg, (Array.getElem?_eq_some_iff.1 hh).1⟩

theorem OwnV.below {T : TypeId} {w w' : World} {base : Nat} {q : Option Addr} {n c : Nat} {xs : List Value} (h : OwnV T w base (.slice q n c) xs) (hb : Below w.heap.size w w') : OwnV T w' base (.slice q n c) xs :=
  h.kept fun a ha => hb.block _ (h.far a ha).2
theorem OwnV.drew {T : TypeId} {w : World} {base : Nat} {q : Option Addr} {n c : Nat} {xs : List Value} (h : OwnV T w base (.slice q n c) xs) : OwnV T w.drew base (.slice q n c) xs := h.kept fun _ _ => rfl
theorem OwnV.mono {T : TypeId} {w : World} {b b' : Nat} {v : Value} {xs : List Value} (h : OwnV T w b v xs) (hb : b' ≤ b) : OwnV T w b' v xs := by
  obtain ⟨hlen, hr | ⟨g, cap, cur, he, hg, r⟩⟩ := h
  · exact ⟨hlen, .inl hr⟩
  · exact ⟨hlen, .inr ⟨g, cap, cur, he, Nat.le_trans hb hg, r⟩⟩

/-- read and store -/
theorem OwnV.at {T : TypeId} {w : World} {base : Nat} {q : Option Addr} {n c : Nat} {xs : List Value} (h : OwnV T w base (.slice q n c) xs) (hn : 0 < n) :
    ∃ g, q = some ⟨g, 0, none⟩ ∧ base ≤ g ∧ g < w.heap.size ∧ n ≤ c ∧ (∀ i x, xs[i]? = some x → w.cell? ⟨g, i, none⟩ = some x) ∧ (∀ i, w.frozen? ⟨g, i, none⟩ = false) ∧
      (∀ i x, i < n → OwnV T (w.setCell ⟨g, i, none⟩ x) base (.slice q n c) (xs.set i x)) := by
  have hl := h.len
  obtain ⟨hlen, ⟨he, h0⟩ | ⟨g, cap, cur, he, hg, hb, hle, hm, hsz, htk⟩⟩ := h
  · simp only [Value.slice.injEq] at he; omega
  · simp only [Value.slice.injEq] at he
    obtain ⟨rfl, _, rfl⟩ := he
    refine ⟨g, rfl, hg, (Array.getElem?_eq_some_iff.1 hb).1, by omega, fun i x hx => ?_, fun i => frozen_of_row w g i _ _ hb, fun i x hi => ?_⟩
    · rw [cell_of_row w g i cur T (0, 0) hb]
      have hi : i < xs.length := (List.getElem?_eq_some_iff.1 hx).1
      have h3 := congrArg (·[i]?) htk
      simp only [Nat.mul_one] at h3
      rw [List.getElem?_take_of_lt hi] at h3
      rw [← Array.getElem?_toList, h3, hx]
    · have hs := heap_setCell_same w g i _ T x hb
      refine ⟨by simp, .inr ⟨g, c, _, by rw [List.length_set, ← hl], hg, hs, by rw [List.length_set]; exact hle, hm, by simpa using hsz, ?_⟩⟩
      simp only [List.length_set, Nat.mul_one, Array.toList_setIfInBounds] at htk ⊢
      rw [List.take_set, htk]

section
variable {P : Program} {w : World}

theorem wpList_append_own1 {t T : TypeId} {bytes : Nat} {z : Value} (ht : P.underlying t = some (.slice T)) (hi : (P.info? T).map (fun i => (i.zero, i.size, i.bytes)) = some (some z, 1, bytes)) (hz : z.cells.size = 1)
    {ops : Array Oper} {rest : List Oper} {o : Oper} {a : Act} {Q : Exit → Act → World → Prop} (hgd : o.guard = none) (sl x : Operand)
    (ho : o.op = .call { callee := .builtin .append, args := #[sl, x], argTypes := #[t, t] }) {base : Nat} {q0 : Option Addr} {n0 c0 m d : Nat} {xs ys : List Value} {ad : Addr} (hsl : a.eval sl = .slice q0 n0 c0) (hx : a.eval x = .slice (some ad) m d)
    (hown : OwnV T w base (.slice q0 n0 c0) xs) (hk : ∀ j u, ys[j]? = some u → w.cell? (ad.add j) = some u) (hM : ys.length = m) (hone : ∀ u ∈ ys, u.oneCell' = true) (hbig : (n0 + m) * bytes ≤ 140737488355328) (hbig2 : n0 + m ≤ 140737488355328) (hbase : base ≤ w.heap.size)
    (h : ∀ q' c' w', OwnV T w' base (.slice q' (n0 + m) c') (xs ++ ys) → w.grownBy w' (q0.map (·.block)) → wpList P ops Q rest (a.put o.dst (.slice q' (n0 + m) c')) w') : wpList P ops Q (o :: rest) a w := by
  obtain ⟨i0, hi0, hz0, hz1, hz2⟩ := info_parts hi
  have hl := hown.len
  subst hl
  obtain ⟨v', w', hr, hown', hg, _⟩ := run_append_own (P := P) w base t o.type T i0 z 1 bytes ht hi0 hz0 hz1 hz2 hz (by decide) _ xs.length xs hown ad m d ys (by rw [hM, Nat.mul_one]) hk hone (by unfold maxLen; omega) hbig hbase
  have hown2 : OwnV T w' base v' (xs ++ ys) := by
    unfold OwnV
    rw [List.length_append, hM]
    exact hown'
  obtain ⟨q', c', rfl⟩ := hown2.shape
  rw [List.length_append, hM] at hr hown2
  exact Lib.wpList_append_run_sl w hgd sl x t ho _ _ hsl hx hr (h q' c' w' hown2 (by cases q0 <;> exact hg))
end

end Go.Proofs.Ytaiepdhmlmnggaa
