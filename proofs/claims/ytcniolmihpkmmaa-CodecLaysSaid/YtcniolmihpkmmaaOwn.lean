/- A slice of bytes that the call itself made: append, and the parts of a slice, as laws for the walk. -/
import Derived.Test.YtcniolmihpkmmaaCalls
import Derived.Deep.AppendSrc
namespace Go.Proofs.Ytcniolmihpkmmaa
open Go.RowKit

/-- The slice v holds the bytes l in a row of its own from block base on. -/
def Own (w : World) (base : Nat) (v : Value) (l : List UInt8) : Prop := w.ownsRow base 5 1 v l.length (vals l)

theorem Own.holds {w : World} {base : Nat} {q : Option Addr} {n c : Nat} {l : List UInt8} (h : Own w base (.slice q n c) l) : Lib.HoldsBytes w (.slice q n c) l ∧ n ≤ c ∧ (∀ a, q = some a → base ≤ a.block ∧ a.block < w.heap.size) := by
  obtain ⟨hlen, ⟨he, h0⟩ | ⟨g, cap, cur, he, hg, hh, hle, hm, hsz, htk⟩⟩ := h
  · cases he
    have : l = [] := List.eq_nil_of_length_eq_zero h0
    subst this
    exact ⟨⟨none, 0, rfl, fun _ => rfl, fun a ha => by cases ha⟩, Nat.le_refl _, fun a ha => by cases ha⟩
  · cases he
    refine ⟨⟨some ⟨g, 0, none⟩, c, rfl, (fun h => by cases h), fun a ha i x hx => ?_⟩, hle, fun a ha => by cases ha; exact ⟨hg, (Array.getElem?_eq_some_iff.1 hh).1⟩⟩
    cases ha
    have hadd : (⟨g, 0, none⟩ : Addr).add i = ⟨g, i, none⟩ := by unfold Addr.add; split <;> simp_all
    have hi : i < l.length := (List.getElem?_eq_some_iff.1 hx).1
    rw [hadd, cell_of_row w g i cur 5 (0, 0) hh]
    have h3 := congrArg (·[i]?) htk
    simp only [Nat.mul_one] at h3
    rw [List.getElem?_take_of_lt hi] at h3
    rw [← Array.getElem?_toList, h3]
    simp [vals, hx]

theorem Own.shape {w : World} {base : Nat} {v : Value} {l : List UInt8} (h : Own w base v l) : ∃ q c, v = .slice q l.length c := by
  obtain ⟨hlen, ⟨he, h0⟩ | ⟨g, cap, cur, he, _⟩⟩ := h
  · exact ⟨none, 0, by rw [he, h0]⟩
  · exact ⟨_, _, he⟩

theorem Own.made {w : World} {n : Nat} (hn : n ≤ maxLen) : Own (w.alloc (.cells (vals (zs n)).toArray 5)) w.heap.size (.slice (some ⟨w.heap.size, 0, none⟩) 0 n) [] :=
  World.ownsRow_made w _ n (Nat.le_refl _) hn (by simp [vals, zs])

theorem Own.kept {w w' : World} {base : Nat} {q : Option Addr} {n c : Nat} {l : List UInt8} (h : Own w base (.slice q n c) l) (hb : ∀ a, q = some a → w'.heap[a.block]? = w.heap[a.block]?) : Own w' base (.slice q n c) l := by
  obtain ⟨hlen, ⟨he, h0⟩ | ⟨g, cap, cur, he, hg, hh, r⟩⟩ := h
  · exact ⟨hlen, Or.inl ⟨he, h0⟩⟩
  · cases he
    exact ⟨hlen, Or.inr ⟨g, c, cur, rfl, hg, by rw [hb _ rfl]; exact hh, r⟩⟩

theorem Own.below {w w' : World} {base : Nat} {q : Option Addr} {n c : Nat} {l : List UInt8} (h : Own w base (.slice q n c) l) (hb : Below w.heap.size w w') : Own w' base (.slice q n c) l :=
  h.kept fun a ha => hb.block _ (h.holds.2.2 a ha).2

def blockOf (q : Option Addr) : Option Nat := q.map (·.block)

theorem run_append_bytes {w : World} {base : Nat} {q0 q : Option Addr} {n0 c0 m d : Nat} {l k : List UInt8} (ty : TypeId) (hown : Own w base (.slice q0 n0 c0) l) (hk : Lib.HoldsBytes w (.slice q m d) k) (hbig : n0 + m ≤ 1099511627776) (hbase : base ≤ w.heap.size) :
    ∃ q' c' w', (Builtin.append_ #[33, 33] ty #[.slice q0 n0 c0, .slice q m d]).run Try.prog w = .ok (.slice q' (n0 + m) c') w' ∧ Own w' base (.slice q' (n0 + m) c') (l ++ k) ∧ w.grownBy w' (blockOf q0) := by
  have e0 := holds_len hown.holds.1
  have em := holds_len hk
  obtain ⟨i0, hi, hz0, hz1, hz2⟩ := info_parts info5
  obtain ⟨q1, cap, he, h1, h2⟩ := hk
  cases he
  cases q with
  | none =>
    have hk0 := h1 rfl
    subst hk0
    simp only [List.length_nil, Nat.add_zero, List.append_nil]
    refine ⟨q0, c0, w, ?_, hown, ⟨rfl, rfl, rfl, Nat.le_refl _, fun _ _ _ => rfl⟩⟩
    cases q0 with
    | none =>
      obtain ⟨_, ⟨he, h0⟩ | ⟨g, cap, cur, he, _⟩⟩ := hown
      · cases he
        simp [Builtin.append_, run_underlying Try.underlying33, sizeOf, typeInfo, hi, Builtin.lenOf, Builtin.firstCells]
      · cases he
    | some a =>
      obtain ⟨_, ⟨he, h0⟩ | ⟨g, cap, cur, he, hg, hh, hle, _⟩⟩ := hown
      · cases he
      · cases he
        have h := run_append_room_src (P := Try.prog) w 33 33 ty 5 i0 Try.underlying33 hi g 0 _ _ (.slice none 0 d) 0 [] (Src.ofNil w Try.underlying33 d) (by omega) (by intro j hj; simp at hj) (by intro j hj; simp at hj)
        simpa [World.setCells] using h
  | some a =>
    subst e0
    obtain ⟨v', w', hr, hown', hg, _⟩ := run_append_own (P := Try.prog) w base 33 ty 5 i0 (.int .u8 0) 1 1 Try.underlying33 hi hz0 hz1 hz2 rfl (by decide) _ l.length (vals l) hown a k.length d (vals k)
      (by rw [length_vals, Nat.mul_one])
      (fun j u hj => by obtain ⟨x, hx, rfl⟩ := vals_get hj; exact h2 a rfl j x hx) (one_vals k) (by unfold maxLen; omega) (by omega) hbase
    have hown2 : Own w' base v' (l ++ k) := by
      unfold Own
      rw [List.length_append, vals_append]
      exact hown'
    obtain ⟨q', c', rfl⟩ := hown2.shape
    rw [List.length_append] at hr hown2
    refine ⟨q', c', w', hr, hown2, ?_⟩
    cases q0 <;> exact hg

theorem wpList_append_bytes {w : World} {ops : Array Oper} {rest : List Oper} {o : Oper} {a : Act} {Q : Exit → Act → World → Prop} (hgd : o.guard = none) (s x : Operand)
    (ho : o.op = .call { callee := .builtin .append, args := #[s, x], argTypes := #[33, 33] }) {base : Nat} {q0 q : Option Addr} {n0 c0 m d : Nat} {l k : List UInt8} (hs : a.eval s = .slice q0 n0 c0) (hx : a.eval x = .slice q m d)
    (hown : Own w base (.slice q0 n0 c0) l) (hk : Lib.HoldsBytes w (.slice q m d) k) (hbig : n0 + m ≤ 1099511627776) (hbase : base ≤ w.heap.size)
    (h : ∀ q' c' w', Own w' base (.slice q' (n0 + m) c') (l ++ k) → w.grownBy w' (blockOf q0) → wpList Try.prog ops Q rest (a.put o.dst (.slice q' (n0 + m) c')) w') : wpList Try.prog ops Q (o :: rest) a w := by
  obtain ⟨q', c', w', hr, h1, h2⟩ := run_append_bytes o.type hown hk hbig hbase
  exact Lib.wpList_append_run_sl w hgd s x 33 ho _ _ hs hx hr (h q' c' w' h1 h2)

end Go.Proofs.Ytcniolmihpkmmaa
