/- Rows, keys and schemas as they lie in memory; nothing of a program is claimed here. -/
import Derived.Test.YtkdkncbccofpdaaCells
import Derived.Laws.StructEq
import Derived.Laws.OwnMore
import Derived.Handy
import Derived.IntWalk
import Derived.Lib.SmallJoins
namespace Go.Proofs.Ytkdkncbccofpdaa
open Go.RowKit

def I64 (x : Int) : Prop := -9223372036854775808 ≤ x ∧ x < 9223372036854775808

structure KeyD where
  t : Int
  id : Int
def KeyD.cells (k : KeyD) : List Value := [.int .i64 k.t, .int .u16 k.id]
structure RowD where
  key : KeyD
  val : Int
  note : ByteArray
def RowD.cells (r : RowD) : List Value := [.int .i64 r.key.t, .int .u16 r.key.id, .int .i64 r.val, .string r.note]
structure KeyOk (k : KeyD) : Prop where
  t : I64 k.t
  id : 0 ≤ k.id ∧ k.id < 65536
structure RowOk (r : RowD) : Prop where
  key : KeyOk r.key
  val : I64 r.val
  note : r.note.size ≤ maxLen

theorem RowD.one (r : RowD) : ∀ v ∈ r.cells, v.oneCell' = true := by
  intro v hv
  simp only [RowD.cells, List.mem_cons, List.not_mem_nil, or_false] at hv
  rcases hv with rfl | rfl | rfl | rfl <;> rfl
theorem KeyD.one (k : KeyD) : ∀ v ∈ k.cells, v.oneCell' = true := by
  intro v hv
  simp only [KeyD.cells, List.mem_cons, List.not_mem_nil, or_false] at hv
  rcases hv with rfl | rfl <;> rfl

/-- the cells of a list of rows, one behind the other -/
def cellsR : List RowD → List Value
  | [] => []
  | r :: l => r.cells ++ cellsR l
theorem cellsR_len : ∀ l : List RowD, (cellsR l).length = l.length * 4
  | [] => rfl
  | r :: l => by simp [cellsR, cellsR_len l, RowD.cells]; omega
theorem cellsR_append : ∀ l m : List RowD, cellsR (l ++ m) = cellsR l ++ cellsR m
  | [], m => rfl
  | r :: l, m => by simp [cellsR, cellsR_append l m]
theorem cellsR_one : ∀ l : List RowD, ∀ v ∈ cellsR l, v.oneCell' = true
  | [], v, h => by cases h
  | r :: l, v, h => by
    rcases List.mem_append.1 h with h | h
    · exact r.one v h
    · exact cellsR_one l v h
theorem cellsR_get : ∀ (l : List RowD) (i : Nat) (r : RowD), l[i]? = some r → ∀ j x, r.cells[j]? = some x → (cellsR l)[i * 4 + j]? = some x
  | [], i, r, h, _, _, _ => by simp at h
  | s :: l, 0, r, h, j, x, hx => by
    simp at h; subst h
    have hj : j < s.cells.length := (List.getElem?_eq_some_iff.1 hx).1
    simp only [cellsR, Nat.zero_mul, Nat.zero_add]
    rw [List.getElem?_append_left hj]; exact hx
  | s :: l, i + 1, r, h, j, x, hx => by
    simp at h
    have := cellsR_get l i r h j x hx
    simp only [cellsR]
    rw [List.getElem?_append_right (by simp [RowD.cells]; omega)]
    have e : (i + 1) * 4 + j - s.cells.length = i * 4 + j := by simp [RowD.cells]; omega
    rw [e]; exact this
theorem cellsR_get' : ∀ (l : List RowD) (k : Nat) (x : Value), (cellsR l)[k]? = some x → ∃ i r j, k = i * 4 + j ∧ l[i]? = some r ∧ r.cells[j]? = some x
  | [], k, x, h => by simp [cellsR] at h
  | s :: l, k, x, h => by
    simp only [cellsR] at h
    by_cases hk : k < 4
    · rw [List.getElem?_append_left (by simp [RowD.cells]; omega)] at h
      exact ⟨0, s, k, by omega, rfl, h⟩
    · rw [List.getElem?_append_right (by simp [RowD.cells]; omega)] at h
      have e : k - s.cells.length = k - 4 := by simp [RowD.cells]
      rw [e] at h
      obtain ⟨i, r, j, h1, h2, h3⟩ := cellsR_get' l (k - 4) x h
      exact ⟨i + 1, r, j, by omega, by simpa using h2, h3⟩

theorem cell_in {w : World} {a : Addr} {v : Value} (h : w.cell? a = some v) : a.block < w.heap.size := by
  rcases Nat.lt_or_ge a.block w.heap.size with h1 | h1
  · exact h1
  · have hn : w.heap[a.block]? = none := Array.getElem?_eq_none h1
    unfold World.cell? at h
    simp [hn] at h
theorem cell_keeps {B : Nat} {w w' : World} (hb : Below B w w') (hB : w.heap.size ≤ B) {a : Addr} {v : Value} (h : w.cell? a = some v) : w'.cell? a = some v := by
  rw [World.cell?_of_block (w := w) (hb.block _ (Nat.lt_of_lt_of_le (cell_in h) hB))]
  exact h

theorem below_drewN (w : World) (k : Nat) : Below w.heap.size w (w.drewN k) := ⟨rfl, rfl, rfl, Nat.le_refl _, fun _ _ => rfl⟩
theorem below_drew (w : World) : Below w.heap.size w w.drew := ⟨rfl, rfl, rfl, Nat.le_refl _, fun _ _ => rfl⟩

/-- a slice that reads as a list of rows -/
structure RowsOn (w : World) (q : Option Addr) (n c : Nat) (l : List RowD) : Prop where
  len : l.length = n
  le : n ≤ c
  cap : c ≤ maxLen
  nil : q = none → c = 0
  get : ∀ i r, l[i]? = some r → ∃ a, q = some a ∧ ∀ j x, r.cells[j]? = some x → w.cell? ((a.add (i * 4)).add j) = some x
  ok : ∀ r ∈ l, RowOk r

theorem RowsOn.none_ (w : World) : RowsOn w none 0 0 [] := ⟨rfl, Nat.le_refl _, Nat.zero_le _, fun _ => rfl, fun i r h => by simp at h, fun r h => by cases h⟩
theorem RowsOn.below {B : Nat} {w w' : World} {q : Option Addr} {n c : Nat} {l : List RowD} (h : RowsOn w q n c l) (hb : Below B w w') (hB : w.heap.size ≤ B) : RowsOn w' q n c l :=
  ⟨h.len, h.le, h.cap, h.nil, fun i r hi => by
    obtain ⟨a, rfl, hc⟩ := h.get i r hi
    exact ⟨a, rfl, fun j x hj => cell_keeps hb hB (hc j x hj)⟩, h.ok⟩
theorem RowsOn.at {w : World} {q : Option Addr} {n c : Nat} {l : List RowD} (h : RowsOn w q n c l) {i : Nat} (hi : i < n) :
    ∃ a r, q = some a ∧ l[i]? = some r ∧ RowOk r ∧ ∀ j x, r.cells[j]? = some x → w.cell? ((a.add (i * 4)).add j) = some x := by
  have hl := h.len
  have hx : l[i]? = some (l[i]'(by omega)) := List.getElem?_eq_getElem (by omega)
  obtain ⟨a, ha, hc⟩ := h.get i _ hx
  exact ⟨a, _, ha, hx, h.ok _ (List.mem_of_getElem? hx), hc⟩

/-- a slice that reads as a list of keys -/
structure KeysOn (w : World) (q : Option Addr) (n c : Nat) (l : List KeyD) : Prop where
  len : l.length = n
  le : n ≤ c
  cap : c ≤ maxLen
  nil : q = none → c = 0
  get : ∀ i r, l[i]? = some r → ∃ a, q = some a ∧ ∀ j x, r.cells[j]? = some x → w.cell? ((a.add (i * 2)).add j) = some x
  ok : ∀ r ∈ l, KeyOk r
theorem KeysOn.below {B : Nat} {w w' : World} {q : Option Addr} {n c : Nat} {l : List KeyD} (h : KeysOn w q n c l) (hb : Below B w w') (hB : w.heap.size ≤ B) : KeysOn w' q n c l :=
  ⟨h.len, h.le, h.cap, h.nil, fun i r hi => by
    obtain ⟨a, rfl, hc⟩ := h.get i r hi
    exact ⟨a, rfl, fun j x hj => cell_keeps hb hB (hc j x hj)⟩, h.ok⟩
theorem KeysOn.at {w : World} {q : Option Addr} {n c : Nat} {l : List KeyD} (h : KeysOn w q n c l) {i : Nat} (hi : i < n) :
    ∃ a r, q = some a ∧ l[i]? = some r ∧ KeyOk r ∧ ∀ j x, r.cells[j]? = some x → w.cell? ((a.add (i * 2)).add j) = some x := by
  have hl := h.len
  have hx : l[i]? = some (l[i]'(by omega)) := List.getElem?_eq_getElem (by omega)
  obtain ⟨a, ha, hc⟩ := h.get i _ hx
  exact ⟨a, _, ha, hx, h.ok _ (List.mem_of_getElem? hx), hc⟩

/-- the bounds of a table -/
structure BdD where
  lo : Int
  hi : Int
def BdD.cells (b : BdD) : List Value := [.int .i64 b.lo, .int .i64 b.hi]
/-- a slice that reads as a list of bounds -/
structure SchOn (w : World) (q : Option Addr) (n c : Nat) (l : List BdD) : Prop where
  len : l.length = n
  le : n ≤ c
  cap : c ≤ maxLen
  get : ∀ i r, l[i]? = some r → ∃ a, q = some a ∧ ∀ j x, r.cells[j]? = some x → w.cell? ((a.add (i * 2)).add j) = some x
  ok : ∀ r ∈ l, I64 r.lo ∧ I64 r.hi
theorem SchOn.none_ (w : World) : SchOn w none 0 0 [] := ⟨rfl, Nat.le_refl _, Nat.zero_le _, fun i r h => by simp at h, fun r h => by cases h⟩
theorem SchOn.below {B : Nat} {w w' : World} {q : Option Addr} {n c : Nat} {l : List BdD} (h : SchOn w q n c l) (hb : Below B w w') (hB : w.heap.size ≤ B) : SchOn w' q n c l :=
  ⟨h.len, h.le, h.cap, fun i r hi => by
    obtain ⟨a, rfl, hc⟩ := h.get i r hi
    exact ⟨a, rfl, fun j x hj => cell_keeps hb hB (hc j x hj)⟩, h.ok⟩
theorem SchOn.at {w : World} {q : Option Addr} {n c : Nat} {l : List BdD} (h : SchOn w q n c l) {i : Nat} (hi : i < n) :
    ∃ a r, q = some a ∧ l[i]? = some r ∧ (I64 r.lo ∧ I64 r.hi) ∧ ∀ j x, r.cells[j]? = some x → w.cell? ((a.add (i * 2)).add j) = some x := by
  have hl := h.len
  have hx : l[i]? = some (l[i]'(by omega)) := List.getElem?_eq_getElem (by omega)
  obtain ⟨a, ha, hc⟩ := h.get i _ hx
  exact ⟨a, _, ha, hx, h.ok _ (List.mem_of_getElem? hx), hc⟩

/-- The slice v holds just these rows, in a block of its own from block base on. -/
def OwnR (T : TypeId) (w : World) (base : Nat) (v : Value) (l : List RowD) : Prop := w.ownsRow base T 4 v l.length (cellsR l)

theorem OwnR.nil (T : TypeId) (w : World) (base : Nat) : OwnR T w base (.slice none 0 0) [] := World.ownsRow_nil w base T 4
theorem OwnR.shape {T : TypeId} {w : World} {base : Nat} {v : Value} {l : List RowD} (h : OwnR T w base v l) : ∃ q c, v = .slice q l.length c := by
  obtain ⟨_, ⟨he, h0⟩ | ⟨g, cap, cur, he, _⟩⟩ := h
  · exact ⟨none, 0, by rw [he, h0]⟩
  · exact ⟨_, _, he⟩
theorem OwnR.len {T : TypeId} {w : World} {base : Nat} {q : Option Addr} {n c : Nat} {l : List RowD} (h : OwnR T w base (.slice q n c) l) : n = l.length := by
  obtain ⟨q', c', e⟩ := h.shape
  injection e
theorem OwnR.far {T : TypeId} {w : World} {base : Nat} {q : Option Addr} {n c : Nat} {l : List RowD} (h : OwnR T w base (.slice q n c) l) : ∀ a, q = some a → base ≤ a.block ∧ a.block < w.heap.size := by
  intro a ha
  obtain ⟨_, ⟨he, _⟩ | ⟨g, cap, cur, he, hg, hh, _⟩⟩ := h
  · simp only [Value.slice.injEq] at he; obtain ⟨rfl, _⟩ := he; cases ha
  · simp only [Value.slice.injEq] at he; obtain ⟨rfl, _⟩ := he; cases ha; exact ⟨hg, (Array.getElem?_eq_some_iff.1 hh).1⟩
theorem OwnR.kept {T : TypeId} {w w' : World} {base : Nat} {q : Option Addr} {n c : Nat} {l : List RowD} (h : OwnR T w base (.slice q n c) l) (hb : ∀ a, q = some a → w'.heap[a.block]? = w.heap[a.block]?) : OwnR T w' base (.slice q n c) l := by
  obtain ⟨hlen, ⟨he, h0⟩ | ⟨g, cap, cur, he, hg, hh, r⟩⟩ := h
  · exact ⟨hlen, .inl ⟨he, h0⟩⟩
  · simp only [Value.slice.injEq] at he
    obtain ⟨rfl, e2, rfl⟩ := he
    exact ⟨hlen, .inr ⟨g, c, cur, by rw [e2], hg, by rw [hb _ rfl]; exact hh, r⟩⟩
theorem OwnR.below {T : TypeId} {w w' : World} {base : Nat} {q : Option Addr} {n c : Nat} {l : List RowD} (h : OwnR T w base (.slice q n c) l) (hb : Below w.heap.size w w') : OwnR T w' base (.slice q n c) l :=
  h.kept fun a ha => hb.block _ (h.far a ha).2
theorem OwnR.mono {T : TypeId} {w : World} {b b' : Nat} {v : Value} {l : List RowD} (h : OwnR T w b v l) (hb : b' ≤ b) : OwnR T w b' v l := by
  obtain ⟨hlen, hr | ⟨g, cap, cur, he, hg, r⟩⟩ := h
  · exact ⟨hlen, .inl hr⟩
  · exact ⟨hlen, .inr ⟨g, cap, cur, he, Nat.le_trans hb hg, r⟩⟩

/-- what is owned reads as a list of rows -/
theorem OwnR.reads {T : TypeId} {w : World} {base : Nat} {q : Option Addr} {n c : Nat} {l : List RowD} (h : OwnR T w base (.slice q n c) l) (hok : ∀ r ∈ l, RowOk r) : RowsOn w q n c l := by
  have hl := h.len
  have hc := fun g hg => World.ownsRow.cells (h := h) (g := g) hg
  obtain ⟨hlen, ⟨he, h0⟩ | ⟨g, cap, cur, he, hg, hh, hle, hm, r⟩⟩ := h
  · simp only [Value.slice.injEq] at he
    obtain ⟨rfl, rfl, rfl⟩ := he
    exact ⟨hl.symm, Nat.le_refl _, Nat.zero_le _, fun _ => rfl, fun i r hi => by rw [List.eq_nil_of_length_eq_zero hl.symm] at hi; simp at hi, hok⟩
  · simp only [Value.slice.injEq] at he
    obtain ⟨rfl, e2, rfl⟩ := he
    refine ⟨hl.symm, by omega, hm, (fun e => by cases e), fun i r hi => ⟨_, rfl, fun j x hj => ?_⟩, hok⟩
    rw [Go.Deep.add_add]
    exact hc g rfl _ _ (cellsR_get l i r hi j x hj)

theorem splice_all (cs vs : List Value) (h : cs.length = vs.length) : splice cs 0 vs = vs := by
  unfold splice
  simp [← h]
end Go.Proofs.Ytkdkncbccofpdaa
