/- Locks: queues, holds and waits as lists; small facts of a mode and a thing; who holds, who waits. -/
import Derived.Test.YtbgpppbcffpdbaaGreatDoorCells
import Derived.Maps.AppendAt
import Derived.Lib.SlBuf
import Derived.Lib.SliceRun
import Derived.Laws.StructEq
import Derived.Laws.OwnMore
import Derived.Handy
import Derived.IntWalk
import Derived.Lib.SmallJoins
import Derived.Test.YtbgpppbcffpdbaaGreatDoorMTied
import Derived.StillTailTactics
import Derived.BigQuiet
import Derived.Deep.QuietTactic
import Derived.Deep.RegionWith

/-! Things of several cells each, in a slice that is read or of the call's own; nothing of a program is claimed here. -/
namespace Go.Proofs.YtbgpppbcffpdbaaGreatDoor
open Go.RowKit

/-- things that lie in memory as so many cells -/
class Cel (α : Type) where
  cells : α → List Value
  sz : Nat
  len : ∀ r, (cells r).length = sz
  one : ∀ r, ∀ v ∈ cells r, v.oneCell' = true
  pos : 0 < sz
open Cel

section
variable {α : Type} [Cel α]

/-- the cells of a list of things, one behind the other -/
def cellsL : List α → List Value
  | [] => []
  | r :: l => cells r ++ cellsL l
theorem cellsL_len : ∀ l : List α, (cellsL l).length = l.length * sz α
  | [] => by simp [cellsL]
  | r :: l => by simp [cellsL, cellsL_len l, Cel.len, Nat.add_mul]; omega
theorem cellsL_append : ∀ l m : List α, cellsL (l ++ m) = cellsL l ++ cellsL m
  | [], m => rfl
  | r :: l, m => by simp [cellsL, cellsL_append l m]
theorem cellsL_one : ∀ l : List α, ∀ v ∈ cellsL l, v.oneCell' = true
  | [], v, h => by cases h
  | r :: l, v, h => by
    rcases List.mem_append.1 h with h | h
    · exact Cel.one r v h
    · exact cellsL_one l v h
theorem cellsL_get : ∀ (l : List α) (i : Nat) (r : α), l[i]? = some r → ∀ j x, (cells r)[j]? = some x → (cellsL l)[i * sz α + j]? = some x
  | [], i, r, h, _, _, _ => by simp at h
  | s :: l, 0, r, h, j, x, hx => by
    simp at h; subst h
    have hj : j < (cells s).length := (List.getElem?_eq_some_iff.1 hx).1
    simp only [cellsL, Nat.zero_mul, Nat.zero_add]
    rw [List.getElem?_append_left hj]; exact hx
  | s :: l, i + 1, r, h, j, x, hx => by
    simp at h
    have := cellsL_get l i r h j x hx
    simp only [cellsL]
    rw [List.getElem?_append_right (by rw [Cel.len, Nat.add_mul]; omega)]
    have e : (i + 1) * sz α + j - (cells s).length = i * sz α + j := by rw [Cel.len, Nat.add_mul]; omega
    rw [e]; exact this
theorem cellsL_get' : ∀ (l : List α) (k : Nat) (x : Value), (cellsL l)[k]? = some x → ∃ i r j, k = i * sz α + j ∧ l[i]? = some r ∧ (cells r)[j]? = some x
  | [], k, x, h => by simp [cellsL] at h
  | s :: l, k, x, h => by
    simp only [cellsL] at h
    by_cases hk : k < sz α
    · rw [List.getElem?_append_left (by rw [Cel.len]; omega)] at h
      exact ⟨0, s, k, by omega, rfl, h⟩
    · rw [List.getElem?_append_right (by rw [Cel.len]; omega), Cel.len] at h
      obtain ⟨i, r, j, h1, h2, h3⟩ := cellsL_get' l (k - sz α) x h
      exact ⟨i + 1, r, j, by rw [Nat.add_mul]; omega, by simpa using h2, h3⟩
theorem cellsL_take (l : List α) (i : Nat) : cellsL (l.take i) = (cellsL l).take (i * sz α) := by
  by_cases hi : i ≤ l.length
  · have h := cellsL_append (l.take i) (l.drop i)
    have hlen : (cellsL (l.take i)).length = i * sz α := by rw [cellsL_len, List.length_take, Nat.min_eq_left hi]
    rw [List.take_append_drop] at h
    rw [h, List.take_append_of_le_length (Nat.le_of_eq hlen.symm), List.take_of_length_le (Nat.le_of_eq hlen)]
  · have hlen : (cellsL l).length ≤ i * sz α := by rw [cellsL_len]; exact Nat.mul_le_mul_right _ (by omega)
    rw [List.take_of_length_le (show l.length ≤ i by omega), List.take_of_length_le hlen]
theorem cellsL_drop (l : List α) (i : Nat) (hi : i ≤ l.length) : cellsL (l.drop i) = (cellsL l).drop (i * sz α) := by
  have h := cellsL_append (l.take i) (l.drop i)
  have hlen : (cellsL (l.take i)).length = i * sz α := by rw [cellsL_len, List.length_take, Nat.min_eq_left hi]
  rw [List.take_append_drop] at h
  rw [h, List.drop_append_of_le_length (Nat.le_of_eq hlen.symm), List.drop_of_length_le (Nat.le_of_eq hlen), List.nil_append]

theorem cell_in {w : World} {a : Addr} {v : Value} (h : w.cell? a = some v) : a.block < w.heap.size := World.block_lt_of_cell? w _ h
theorem cell_kept {B : Nat} {w w' : World} (hb : Below B w w') (hB : w.heap.size ≤ B) {a : Addr} {v : Value} (h : w.cell? a = some v) : w'.cell? a = some v := by
  rw [World.cell?_of_block (w := w) (hb.block _ (Nat.lt_of_lt_of_le (cell_in h) hB))]
  exact h
theorem add0 (a : Addr) : a.add 0 = a := by unfold Addr.add; split <;> simp_all
theorem add_block2 (a : Addr) (i j : Nat) : ((a.add i).add j).block = a.block := by unfold Addr.add; (repeat' split) <;> rfl

/-- a block that begins with these cells -/
def Boxed (w : World) (g : Nat) (vs : List Value) : Prop := ∀ j x, vs[j]? = some x → w.cell? ((⟨g, 0, none⟩ : Addr).add j) = some x
theorem Boxed.all {w : World} {g : Nat} {vs : List Value} (h : Boxed w g vs) : ∀ j x, vs[j]? = some x → w.cell? ((⟨g, 0, none⟩ : Addr).add j) = some x := h
theorem Boxed.below {B : Nat} {w w' : World} {g : Nat} {vs : List Value} (h : Boxed w g vs) (hb : Below B w w') (hB : w.heap.size ≤ B) : Boxed w' g vs := fun j x hj => cell_kept hb hB (h j x hj)
theorem Boxed.made {T : TypeId} (w : World) (vs : List Value) : Boxed (w.alloc (.cells vs.toArray T)) w.heap.size vs := (RowV.made w vs).part (pre := []) (rest := []) (by simp) rfl
theorem Boxed.cell {w : World} {g : Nat} {vs : List Value} (h : Boxed w g vs) (j : Nat) {x : Value} (hx : vs[j]? = some x) : w.cell? ⟨g, j, none⟩ = some x := by
  have hadd : (⟨g, 0, none⟩ : Addr).add j = ⟨g, j, none⟩ := by unfold Addr.add; split <;> simp_all
  have := h j x hx
  rwa [hadd] at this
theorem Boxed.part {w : World} {g : Nat} {vs : List Value} (h : Boxed w g vs) {o : Nat} {ys : List Value} (hc : ∀ j v, ys[j]? = some v → vs[o + j]? = some v) : ∀ j v, ys[j]? = some v → w.cell? ((⟨g, o, none⟩ : Addr).add j) = some v := by
  intro j v hj
  have hadd : (⟨g, o, none⟩ : Addr).add j = ⟨g, o + j, none⟩ := by unfold Addr.add; split <;> simp_all
  rw [hadd]
  exact h.cell (o + j) (hc j v hj)
theorem one_box {w W : World} {T1 : TypeId} {xs : List Value} (h : w.alloc (.cells xs.toArray T1) = W) : Below w.heap.size w W ∧ Boxed W w.heap.size xs ∧ W.heap.size = w.heap.size + 1 := by
  subst h
  exact ⟨(Below.refl _ _).alloc (Nat.le_refl _) _, Boxed.made w _, by simp⟩
theorem two_boxes {w W : World} {T1 T2 : TypeId} {xs ys : List Value} (h : (w.alloc (.cells xs.toArray T1)).alloc (.cells ys.toArray T2) = W) : Below w.heap.size w W ∧ Boxed W w.heap.size xs ∧ Boxed W (w.heap.size + 1) ys ∧ W.heap.size = w.heap.size + 2 := by
  obtain ⟨a1, a2, a3⟩ := one_box (w := w) (xs := xs) (T1 := T1) rfl
  obtain ⟨b1, b2, b3⟩ := one_box h
  rw [a3] at b2 b3
  exact ⟨a1.trans (b1.mono a1.size), a2.below b1 (Nat.le_refl _), b2, by omega⟩
theorem RowV.boxed {T : TypeId} {w : World} {g : Nat} {vs : List Value} (h : RowV T w g vs) : Boxed w g vs := h.part (pre := []) (rest := []) (by simp) rfl

/-- a slice that reads as a list of things -/
structure SlOn (w : World) (q : Option Addr) (n c : Nat) (l : List α) : Prop where
  len : l.length = n
  le : n ≤ c
  cap : c ≤ maxLen
  nil : q = none → c = 0
  get : ∀ i r, l[i]? = some r → ∃ a, q = some a ∧ ∀ j x, (cells r)[j]? = some x → w.cell? ((a.add (i * sz α)).add j) = some x

theorem SlOn.none_ (w : World) : SlOn w none 0 0 ([] : List α) := ⟨rfl, Nat.le_refl _, Nat.zero_le _, fun _ => rfl, fun i r h => by simp at h⟩
theorem SlOn.below {B : Nat} {w w' : World} {q : Option Addr} {n c : Nat} {l : List α} (h : SlOn w q n c l) (hb : Below B w w') (hB : w.heap.size ≤ B) : SlOn w' q n c l :=
  ⟨h.len, h.le, h.cap, h.nil, fun i r hi => by
    obtain ⟨a, rfl, hc⟩ := h.get i r hi
    exact ⟨a, rfl, fun j x hj => cell_kept hb hB (hc j x hj)⟩⟩
theorem SlOn.at {w : World} {q : Option Addr} {n c : Nat} {l : List α} (h : SlOn w q n c l) {i : Nat} (hi : i < n) :
    ∃ a r, q = some a ∧ l[i]? = some r ∧ ∀ j x, (cells r)[j]? = some x → w.cell? ((a.add (i * sz α)).add j) = some x := by
  have hl := h.len
  have hx : l[i]? = some (l[i]'(by omega)) := List.getElem?_eq_getElem (by omega)
  obtain ⟨a, ha, hc⟩ := h.get i _ hx
  exact ⟨a, _, ha, hx, hc⟩
theorem SlOn.front {w : World} {q : Option Addr} {n c m : Nat} {l : List α} (h : SlOn w q n c l) (hm : m ≤ n) : SlOn w q m c (l.take m) :=
  ⟨by rw [List.length_take, h.len]; omega, Nat.le_trans hm h.le, h.cap, h.nil, fun i r hi => by
    rw [List.getElem?_take] at hi
    split at hi
    · exact h.get i r hi
    · cases hi⟩
/-- blocks that are unlike are unlike -/
theorem SlOn.kept {w w' : World} {q : Option Addr} {n c : Nat} {l : List α} (h : SlOn w q n c l) (hk : n ≠ 0 → ∀ a, q = some a → w'.heap[a.block]? = w.heap[a.block]?) : SlOn w' q n c l :=
  ⟨h.len, h.le, h.cap, h.nil, fun i r hi => by
    obtain ⟨a, ha, hc⟩ := h.get i r hi
    refine ⟨a, ha, fun j x hj => ?_⟩
    have hn : n ≠ 0 := by have := h.len; have := (List.getElem?_eq_some_iff.1 hi).1; omega
    rw [World.cell?_of_block (w := w) (by rw [add_block2]; exact hk hn a ha)]
    exact hc j x hj⟩
theorem SlOn.gr {w w' : World} {q : Option Addr} {n c g : Nat} {l : List α} (h : SlOn w q n c l) (hg : w.grownBy w' (some g)) (hne : ∀ a, q = some a → a.block ≠ g) : SlOn w' q n c l :=
  ⟨h.len, h.le, h.cap, h.nil, fun i r hi => by
    obtain ⟨a, ha, hc⟩ := h.get i r hi
    refine ⟨a, ha, fun j x hj => ?_⟩
    have hlt := cell_in (hc j x hj)
    rw [add_block2] at hlt
    rw [World.cell?_of_block (w := w) (by rw [add_block2]; exact hg.block _ hlt (fun e => hne a ha (by simpa using e)))]
    exact hc j x hj⟩

/-- The slice v holds just these things, in a block of its own from block base on. -/
def OwnS (T : TypeId) (w : World) (base : Nat) (v : Value) (l : List α) : Prop := w.ownsRow base T (sz α) v l.length (cellsL l)

theorem OwnS.nil (T : TypeId) (w : World) (base : Nat) : OwnS T w base (.slice none 0 0) ([] : List α) := World.ownsRow_nil w base T (sz α)
theorem OwnS.shape {T : TypeId} {w : World} {base : Nat} {v : Value} {l : List α} (h : OwnS T w base v l) : ∃ q c, v = .slice q l.length c := by
  obtain ⟨_, ⟨he, h0⟩ | ⟨g, cap, cur, he, _⟩⟩ := h
  · exact ⟨none, 0, by rw [he, h0]⟩
  · exact ⟨_, _, he⟩
theorem OwnS.len {T : TypeId} {w : World} {base : Nat} {q : Option Addr} {n c : Nat} {l : List α} (h : OwnS T w base (.slice q n c) l) : n = l.length := by
  obtain ⟨q', c', e⟩ := h.shape
  injection e
theorem OwnS.far {T : TypeId} {w : World} {base : Nat} {q : Option Addr} {n c : Nat} {l : List α} (h : OwnS T w base (.slice q n c) l) : ∀ a, q = some a → base ≤ a.block ∧ a.block < w.heap.size := by
  intro a ha
  obtain ⟨_, ⟨he, _⟩ | ⟨g, cap, cur, he, hg, hh, _⟩⟩ := h
  · simp only [Value.slice.injEq] at he; obtain ⟨rfl, _⟩ := he; cases ha
  · simp only [Value.slice.injEq] at he; obtain ⟨rfl, _⟩ := he; cases ha; exact ⟨hg, (Array.getElem?_eq_some_iff.1 hh).1⟩
theorem OwnS.kept {T : TypeId} {w w' : World} {base : Nat} {q : Option Addr} {n c : Nat} {l : List α} (h : OwnS T w base (.slice q n c) l) (hb : ∀ a, q = some a → w'.heap[a.block]? = w.heap[a.block]?) : OwnS T w' base (.slice q n c) l := by
  obtain ⟨hlen, ⟨he, h0⟩ | ⟨g, cap, cur, he, hg, hh, r⟩⟩ := h
  · exact ⟨hlen, .inl ⟨he, h0⟩⟩
  · simp only [Value.slice.injEq] at he
    obtain ⟨rfl, e2, rfl⟩ := he
    exact ⟨hlen, .inr ⟨g, c, cur, by rw [e2], hg, by rw [hb _ rfl]; exact hh, r⟩⟩
theorem OwnS.below {T : TypeId} {w w' : World} {base : Nat} {q : Option Addr} {n c : Nat} {l : List α} (h : OwnS T w base (.slice q n c) l) (hb : Below w.heap.size w w') : OwnS T w' base (.slice q n c) l :=
  h.kept fun a ha => hb.block _ (h.far a ha).2
theorem OwnS.mono {T : TypeId} {w : World} {b b' : Nat} {v : Value} {l : List α} (h : OwnS T w b v l) (hb : b' ≤ b) : OwnS T w b' v l := by
  obtain ⟨hlen, hr | ⟨g, cap, cur, he, hg, r⟩⟩ := h
  · exact ⟨hlen, .inl hr⟩
  · exact ⟨hlen, .inr ⟨g, cap, cur, he, Nat.le_trans hb hg, r⟩⟩
/-- what is owned reads as a list -/
theorem OwnS.reads {T : TypeId} {w : World} {base : Nat} {q : Option Addr} {n c : Nat} {l : List α} (h : OwnS T w base (.slice q n c) l) : SlOn w q n c l := by
  have hl := h.len
  have hc := fun g hg => World.ownsRow.cells (h := h) (g := g) hg
  obtain ⟨hlen, ⟨he, h0⟩ | ⟨g, cap, cur, he, hg, hh, hle, hm, r⟩⟩ := h
  · simp only [Value.slice.injEq] at he
    obtain ⟨rfl, rfl, rfl⟩ := he
    exact ⟨hl.symm, Nat.le_refl _, Nat.zero_le _, fun _ => rfl, fun i r hi => by rw [List.eq_nil_of_length_eq_zero hl.symm] at hi; simp at hi⟩
  · simp only [Value.slice.injEq] at he
    obtain ⟨rfl, e2, rfl⟩ := he
    refine ⟨hl.symm, by omega, hm, (fun e => by cases e), fun i r hi => ⟨_, rfl, fun j x hj => ?_⟩⟩
    rw [Go.Deep.add_add]
    exact hc g rfl _ _ (cellsL_get l i r hi j x hj)
theorem OwnS.nil_cap {T : TypeId} {w : World} {base : Nat} {n c : Nat} {l : List α} (h : OwnS T w base (.slice none n c) l) : n = 0 ∧ c = 0 ∧ l = [] := by
  have hl := h.len
  obtain ⟨_, ⟨he, h0⟩ | ⟨g, cap, cur, he, _⟩⟩ := h
  · simp only [Value.slice.injEq] at he
    obtain ⟨_, rfl, rfl⟩ := he
    exact ⟨rfl, rfl, List.eq_nil_of_length_eq_zero hl.symm⟩
  · simp only [Value.slice.injEq] at he; exact absurd he.1 (by simp)

/-- a list of the call's own, opened: the block and all of its cells -/
theorem OwnS.opened {T : TypeId} {w : World} {B : Nat} {a : Addr} {n c : Nat} {l : List α} (h : OwnS T w B (.slice (some a) n c) l) :
    ∃ g cur, a = ⟨g, 0, none⟩ ∧ B ≤ g ∧ RowV T w g cur ∧ n ≤ c ∧ c ≤ maxLen ∧ cur.length = c * sz α ∧ cur.take (n * sz α) = cellsL l := by
  have hl := h.len
  obtain ⟨hlen, ⟨he, h0⟩ | ⟨g, cap, cur, he, hg, hh, hle, hm, hs, ht⟩⟩ := h
  · simp only [Value.slice.injEq] at he; exact absurd he.1 (by simp)
  · simp only [Value.slice.injEq] at he
    obtain ⟨e1, e2, rfl⟩ := he
    cases e1
    exact ⟨g, cur.toList, rfl, hg, by unfold RowV; simpa using hh, by omega, hm, by simpa using hs, by rw [hl]; exact ht⟩
theorem OwnS.mk {T : TypeId} {w : World} {B g n c : Nat} {cur : List Value} {l : List α} (hB : B ≤ g) (hr : RowV T w g cur) (hn : n ≤ c) (hc : c ≤ maxLen) (hs : cur.length = c * sz α) (ht : cur.take (n * sz α) = cellsL l) (hl : l.length = n) : OwnS T w B (.slice (some ⟨g, 0, none⟩) n c) l := by
  subst hl
  exact ⟨cellsL_len l, .inr ⟨g, c, cur.toArray, rfl, hB, hr, hn, hc, by simpa using hs, by simpa using ht⟩⟩
theorem OwnS.empty {T : TypeId} {w w' : World} {g : Nat} (h : w.alloc (.cells #[] T) = w') (hg : w.heap.size = g) : OwnS T w' g (.slice (some ⟨g, 0, none⟩) 0 0) ([] : List α) := by
  subst h hg
  exact ⟨by simp [cellsL], .inr ⟨_, 0, #[], rfl, Nat.le_refl _, heap_alloc_new w _, Nat.le_refl _, Nat.zero_le _, by simp, by simp [cellsL]⟩⟩
/-- one thing in a block is a list of one -/
theorem OwnS.single {T : TypeId} {w : World} {g : Nat} {r : α} (h : RowV T w g (cells r)) : OwnS T w g (.slice (some ⟨g, 0, none⟩) 1 1) [r] :=
  OwnS.mk (Nat.le_refl _) h (Nat.le_refl _) (by unfold maxLen; omega) (by rw [Cel.len, Nat.one_mul]) (by rw [List.take_of_length_le (by rw [Cel.len, Nat.one_mul]; exact Nat.le_refl _)]; simp [cellsL]) rfl

/-! append onto a list of the call's own, from whatever list -/
variable {P : Program} {w : World}
theorem run_append_l {t T : TypeId} {bytes : Nat} {z : Value} (ht : P.underlying t = some (.slice T)) (hi : (P.info? T).map (fun i => (i.zero, i.size, i.bytes)) = some (some z, sz α, bytes)) (hz : z.cells.size = sz α) (ty : TypeId)
    {base : Nat} {q0 : Option Addr} {n0 c0 : Nat} {l : List α} {q : Option Addr} {m d : Nat} {ms : List α} (hown : OwnS T w base (.slice q0 n0 c0) l) (hr : SlOn w q m d ms) (hbig : (n0 + m) * bytes ≤ 140737488355328) (hbig2 : n0 + m ≤ 140737488355328) (hbase : base ≤ w.heap.size) :
    ∃ q' c' w', (Builtin.append_ #[t, t] ty #[.slice q0 n0 c0, .slice q m d]).run P w = .ok (.slice q' (n0 + m) c') w' ∧ OwnS T w' base (.slice q' (n0 + m) c') (l ++ ms) ∧ w.grownBy w' (q0.map (·.block)) ∧ (q'.map (·.block) = q0.map (·.block) ∨ q'.map (·.block) = some w.heap.size) := by
  obtain ⟨i0, hi0, hz0, hz1, hz2⟩ := info_parts hi
  have hl := hown.len
  have hm := hr.len
  subst hl
  cases q with
  | none =>
    have h0 : m = 0 := by have := hr.nil rfl; have := hr.le; omega
    subst h0
    obtain rfl := List.eq_nil_of_length_eq_zero hm
    refine ⟨q0, c0, w, ?_, by simpa using hown, ⟨rfl, rfl, rfl, Nat.le_refl _, fun _ _ _ => rfl⟩, .inl rfl⟩
    obtain ⟨hlen, ⟨he, h0⟩ | ⟨g, cap, cur, he, hg, hh, hle, hm2, r⟩⟩ := hown
    · simp only [Value.slice.injEq] at he
      obtain ⟨rfl, h1, rfl⟩ := he
      simp [Builtin.append_, run_underlying ht, sizeOf, typeInfo, hi0, Builtin.lenOf, Builtin.firstCells, h1]
    · simp only [Value.slice.injEq] at he
      obtain ⟨rfl, _, rfl⟩ := he
      simp [Builtin.append_, run_underlying ht, sizeOf, typeInfo, hi0, Builtin.lenOf, Builtin.firstCells, hle, storeCells]
  | some ad =>
    obtain ⟨v', w', hrun, hown', hg, _, hat⟩ := run_append_own_at (P := P) w base t ty T i0 z (sz α) bytes ht hi0 hz0 hz1 hz2 hz Cel.pos _ l.length (cellsL l) hown ad m d (cellsL ms) (by rw [cellsL_len, hm]) (fun j u hj => by
      obtain ⟨i, r, k, rfl, h1, h2⟩ := cellsL_get' ms j u hj
      obtain ⟨a', ha', hc⟩ := hr.get i r h1
      cases ha'
      rw [← Go.Deep.add_add]
      exact hc k u h2) (cellsL_one ms) (by unfold maxLen; omega) hbig hbase
    have hown2 : OwnS T w' base v' (l ++ ms) := by
      unfold OwnS
      rw [List.length_append, hm, cellsL_append]
      exact hown'
    obtain ⟨q', c', rfl⟩ := hown2.shape
    rw [List.length_append, hm] at hrun hown2
    exact ⟨q', c', w', hrun, hown2, by cases q0 <;> exact hg, by cases q0 <;> cases q' <;> exact hat⟩
theorem wpList_append_l {t T : TypeId} {bytes : Nat} {z : Value} (ht : P.underlying t = some (.slice T)) (hi : (P.info? T).map (fun i => (i.zero, i.size, i.bytes)) = some (some z, sz α, bytes)) (hz : z.cells.size = sz α)
    {ops : Array Oper} {rest : List Oper} {o : Oper} {a : Act} {Q : Exit → Act → World → Prop} (hgd : o.guard = none) (sl x : Operand)
    (ho : o.op = .call { callee := .builtin .append, args := #[sl, x], argTypes := #[t, t] }) {base : Nat} {q0 : Option Addr} {n0 c0 m d : Nat} {l ms : List α} {q : Option Addr} (hsl : a.eval sl = .slice q0 n0 c0) (hx : a.eval x = .slice q m d)
    (hown : OwnS T w base (.slice q0 n0 c0) l) (hr : SlOn w q m d ms) (hbig : (n0 + m) * bytes ≤ 140737488355328) (hbig2 : n0 + m ≤ 140737488355328) (hbase : base ≤ w.heap.size)
    (h : ∀ q' c' w', OwnS T w' base (.slice q' (n0 + m) c') (l ++ ms) → w.grownBy w' (q0.map (·.block)) → (q'.map (·.block) = q0.map (·.block) ∨ q'.map (·.block) = some w.heap.size) → wpList P ops Q rest (a.put o.dst (.slice q' (n0 + m) c')) w') : wpList P ops Q (o :: rest) a w := by
  obtain ⟨q', c', w', hrun, h1, h2, h3⟩ := run_append_l ht hi hz o.type hown hr hbig hbig2 hbase
  exact Lib.wpList_append_run_sl w hgd sl x t ho _ _ hsl hx hrun (h q' c' w' h1 h2 h3)
end

/-! the layer's things -/
structure ResD where
  t : Int
  k : Bool
  id : Int
deriving DecidableEq
structure HoldD where
  x : Int
  m : Int
deriving DecidableEq
structure WaitD where
  x : Int
  m : Int
  h : Int
deriving DecidableEq
structure QueD where
  res : ResD
  hs : List HoldD
  ws : List WaitD
deriving DecidableEq
structure LockD where
  res : ResD
  m : Int
deriving DecidableEq
def ResD.ok (r : ResD) : Prop := 0 ≤ r.id ∧ r.id < 65536
@[reducible] instance : Cel HoldD := ⟨fun h => [.int .i64 h.x, .int .i64 h.m], 2, fun _ => rfl, fun r v hv => by simp only [List.mem_cons, List.not_mem_nil, or_false] at hv; rcases hv with rfl | rfl <;> rfl, by decide⟩
@[reducible] instance : Cel WaitD := ⟨fun h => [.int .i64 h.x, .int .i64 h.m, .int .i64 h.h], 3, fun _ => rfl, fun r v hv => by simp only [List.mem_cons, List.not_mem_nil, or_false] at hv; rcases hv with rfl | rfl | rfl <;> rfl, by decide⟩
@[reducible] instance : Cel LockD := ⟨fun h => [.int .i64 h.res.t, .bool h.res.k, .int .u16 h.res.id, .int .i64 h.m], 4, fun _ => rfl, fun r v hv => by simp only [List.mem_cons, List.not_mem_nil, or_false] at hv; rcases hv with rfl | rfl | rfl | rfl <;> rfl, by decide⟩
/-- a queue as it lies in memory: its Res, and two slices -/
structure QV where
  res : ResD
  hq : Option Addr
  hn : Nat
  hc : Nat
  wq : Option Addr
  wn : Nat
  wc : Nat
@[reducible] instance : Cel QV := ⟨fun v => [.int .i64 v.res.t, .bool v.res.k, .int .u16 v.res.id, .slice v.hq v.hn v.hc, .slice v.wq v.wn v.wc], 5, fun _ => rfl, fun r v hv => by simp only [List.mem_cons, List.not_mem_nil, or_false] at hv; rcases hv with rfl | rfl | rfl | rfl | rfl <;> rfl, by decide⟩
def QV.val (v : QV) : Value := .agg #[.int .i64 v.res.t, .bool v.res.k, .int .u16 v.res.id, .slice v.hq v.hn v.hc, .slice v.wq v.wn v.wc]

/-- a queue that is read -/
structure QV.On (w : World) (v : QV) (d : QueD) : Prop where
  res : v.res = d.res
  ok : d.res.ok
  hs : SlOn w v.hq v.hn v.hc d.hs
  ws : SlOn w v.wq v.wn v.wc d.ws
theorem QV.On.below {B : Nat} {w w' : World} {v : QV} {d : QueD} (h : v.On w d) (hb : Below B w w') (hB : w.heap.size ≤ B) : v.On w' d := ⟨h.res, h.ok, h.hs.below hb hB, h.ws.below hb hB⟩
/-- locks that are read: the queues as they lie there, and what each says -/
structure LkOn (w : World) (q : Option Addr) (n c : Nat) (V : List QV) (L : List QueD) : Prop where
  sl : SlOn w q n c V
  len : L.length = n
  on : ∀ (i : Nat) (v : QV) (d : QueD), V[i]? = some v → L[i]? = some d → v.On w d
theorem LkOn.below {B : Nat} {w w' : World} {q : Option Addr} {n c : Nat} {V : List QV} {L : List QueD} (h : LkOn w q n c V L) (hb : Below B w w') (hB : w.heap.size ≤ B) : LkOn w' q n c V L :=
  ⟨h.sl.below hb hB, h.len, fun i v d h1 h2 => (h.on i v d h1 h2).below hb hB⟩
theorem LkOn.at {w : World} {q : Option Addr} {n c : Nat} {V : List QV} {L : List QueD} (h : LkOn w q n c V L) {i : Nat} (hi : i < n) :
    ∃ a v d, q = some a ∧ V[i]? = some v ∧ L[i]? = some d ∧ v.On w d ∧ ∀ j x, (cells v)[j]? = some x → w.cell? ((a.add (i * 5)).add j) = some x := by
  obtain ⟨a, v, ha, hv, hc⟩ := h.sl.at hi
  have hl := h.len
  have hd : L[i]? = some (L[i]'(by omega)) := List.getElem?_eq_getElem (by omega)
  exact ⟨a, v, _, ha, hv, hd, h.on i v _ hv hd, hc⟩
end Go.Proofs.YtbgpppbcffpdbaaGreatDoor

/-! The small functions of locks: what may be a transaction, something that is locked, a mode of it; the order; who converts; who hinders. -/
namespace Go.Proofs.YtbgpppbcffpdbaaGreatDoor
open Go.RowKit

def txnB (n : Int) : Bool := decide (1 ≤ n) && decide (n ≤ 1073741824)
def resB (r : ResD) : Bool := decide (0 ≤ r.t) && decide (r.t < 3) && (r.k || r.id == 0)
def modB (k : Bool) (m : Int) : Bool := if m = 0 then false else if k then ofK m else ofT m
def inT (r : ResD) : Int := if r.k then 1 + r.id else 0
def cmpI (a b : Int) : Int := if a < b then -1 else if b < a then 1 else 0
def orI (x y : Int) : Int := if x = 0 then y else x
def cmpR (a b : ResD) : Int := orI (cmpI a.t b.t) (cmpI (inT a) (inT b))
def convB (w : WaitD) : Bool := decide (w.h ≠ 0)
def hindB (h : HoldD) (w : WaitD) : Bool := decide (h.x ≠ w.x) && !goesB h.m w.m
def ResD.val (r : ResD) : Value := .agg #[.int .i64 r.t, .bool r.k, .int .u16 r.id]
def HoldD.val (h : HoldD) : Value := .agg #[.int .i64 h.x, .int .i64 h.m]
def WaitD.val (h : WaitD) : Value := .agg #[.int .i64 h.x, .int .i64 h.m, .int .i64 h.h]

theorem cmpI_cases (a b : Int) : (a < b ∧ cmpI a b = -1) ∨ (b < a ∧ cmpI a b = 1) ∨ (a = b ∧ cmpI a b = 0) := by
  unfold cmpI
  by_cases h1 : a < b
  · exact .inl ⟨h1, if_pos h1⟩
  · by_cases h2 : b < a
    · exact .inr (.inl ⟨h2, by rw [if_neg h1, if_pos h2]⟩)
    · exact .inr (.inr ⟨by omega, by rw [if_neg h1, if_neg h2]⟩)
theorem ret_i {a b : Int} {k : IntKind} (h : a = b) : Ending.returned (.int k a) = .returned (.int k b) := by rw [h]
theorem ret_b {a b : Bool} (h : a = b) : Ending.returned (.bool a) = .returned (.bool b) := by rw [h]

set_option maxRecDepth 100000 in
theorem nan_int (x : Int) (w : World) : Calls Tryz.prog 120 #[.int .i64 x] w (fun e w' => e = .returned (.bool false) ∧ w' = w) := by
  go_enter Tryz.func120, Tryz.ntmps120
  go_wp2
  go_ret
  exact ⟨by simp, rfl⟩
set_option maxRecDepth 100000 in
theorem cmp_int (x y : Int) (w : World) : Calls Tryz.prog 87 #[.int .i64 x, .int .i64 y] w (fun e w' => e = .returned (.int .i64 (cmpI x y)) ∧ w' = w) := by
  rcases cmpI_cases x y with ⟨h, e⟩ | ⟨h, e⟩ | ⟨h, e⟩
  all_goals
    rw [e]
    clear e
  · go_enter Tryz.func87, Tryz.ntmps87
    go_wp2_with (go_at_call 120; refine (nan_int _ _).mono ?_; rintro e w' ⟨rfl, hw⟩; obtain rfl := hw.symm)
    go_ret
    exact ⟨rfl, rfl⟩
  · have h2 : ¬ x < y := by omega
    go_enter Tryz.func87, Tryz.ntmps87
    go_wp2_with (go_at_call 120; refine (nan_int _ _).mono ?_; rintro e w' ⟨rfl, hw⟩; obtain rfl := hw.symm)
    go_ret
    exact ⟨rfl, rfl⟩
  · subst h
    go_enter Tryz.func87, Tryz.ntmps87
    go_wp2_with (go_at_call 120; refine (nan_int _ _).mono ?_; rintro e w' ⟨rfl, hw⟩; obtain rfl := hw.symm)
    go_ret
    exact ⟨rfl, rfl⟩

set_option maxRecDepth 100000 in
set_option maxHeartbeats 1000000 in
theorem or2 (x y : Int) (g : Nat) (w : World) (h0 : w.cell? ⟨g, 0, none⟩ = some (.int .i64 x)) (h1 : w.cell? ⟨g, 1, none⟩ = some (.int .i64 y)) :
    Calls Tryz.prog 86 #[.slice (some ⟨g, 0, none⟩) 2 2] w (fun e w' => e = .returned (.int .i64 (orI x y)) ∧ w' = w) := by
  go_enter Tryz.func86, Tryz.ntmps86
  go_wp2
  go_loop [8] (fun v8 => ∃ k : Nat, k ≤ 2 ∧ v8 = .int .i64 k ∧ (0 < k → x = 0) ∧ (1 < k → y = 0)) (fun v8 => 2 - (intOf v8).toNat)
  case atStart => exact ⟨0, by omega, rfl, (fun h => by omega), (fun h => by omega)⟩
  case round =>
    obtain ⟨k, hk, rfl, hx, hy⟩ := hrel
    match k, hk with
    | 0, _ =>
      by_cases hz : x = 0
      · subst hz
        go_wp2
        go_round
        case rel => exact ⟨1, by omega, by go_num, by simp, by simp⟩
        case measure => simp [intOf]
      · go_wp2
        go_ret
        exact ⟨ret_i (by simp [orI, *]), rfl⟩
    | 1, _ =>
      have hx0 := hx (by omega)
      subst hx0
      by_cases hz : y = 0
      · subst hz
        go_wp2
        go_round
        case rel => exact ⟨2, by omega, by go_num, by simp, by simp⟩
        case measure => simp [intOf]
      · go_wp2
        go_ret
        exact ⟨ret_i (by simp [orI, *]), rfl⟩
    | 2, _ =>
      have hx0 := hx (by omega)
      have hy0 := hy (by omega)
      subst hx0
      subst hy0
      go_wp2
      go_ret
      exact ⟨ret_i (by simp [orI]), rfl⟩

theorem isTxn_any (n : Int) (w : World) (b : Bool) (hb : txnB n = b) : Calls Tryz.prog 98 #[.int .i64 n] w (fun e w' => e = .returned (.bool b) ∧ w' = w) := by
  unfold txnB at hb
  by_cases h1 : 1 ≤ n
  · by_cases h2 : n ≤ 1073741824
    · obtain rfl : true = b := by rw [← hb]; simp [h1, h2]
      go_enter Tryz.func98, Tryz.ntmps98
      go_wp2
      go_ret
      exact ⟨rfl, rfl⟩
    · obtain rfl : false = b := by rw [← hb]; simp [h1, h2]
      go_enter Tryz.func98, Tryz.ntmps98
      go_wp2
      go_ret
      exact ⟨rfl, rfl⟩
  · obtain rfl : false = b := by rw [← hb]; simp [h1]
    go_enter Tryz.func98, Tryz.ntmps98
    go_wp2
    go_ret
    exact ⟨rfl, rfl⟩

theorem isRes_any (t : Int) (k : Bool) (id : Int) (w : World) (b : Bool) (hb : resB ⟨t, k, id⟩ = b) : Calls Tryz.prog 83 #[.agg #[.int .i64 t, .bool k, .int .u16 id]] w (fun e w' => e = .returned (.bool b) ∧ Below w.heap.size w w') := by
  unfold resB at hb
  simp only at hb
  by_cases h1 : 0 ≤ t
  · by_cases h2 : t < 3
    · cases k with
      | true =>
        obtain rfl : true = b := by rw [← hb]; simp [h1, h2]
        go_enter Tryz.func83, Tryz.ntmps83
        go_wp2
        go_ret
        exact ⟨rfl, by go_grown⟩
      | false =>
        by_cases h3 : id = 0
        · subst h3
          obtain rfl : true = b := by rw [← hb]; simp [h1, h2]
          go_enter Tryz.func83, Tryz.ntmps83
          go_wp2
          go_ret
          exact ⟨rfl, by go_grown⟩
        · obtain rfl : false = b := by rw [← hb]; simp [h1, h2, h3]
          go_enter Tryz.func83, Tryz.ntmps83
          go_wp2
          go_ret
          exact ⟨ret_b (by simp [h3]), by go_grown⟩
    · obtain rfl : false = b := by rw [← hb]; simp [h2]
      go_enter Tryz.func83, Tryz.ntmps83
      go_wp2
      go_ret
      exact ⟨rfl, by go_grown⟩
  · obtain rfl : false = b := by rw [← hb]; simp [h1]
    go_enter Tryz.func83, Tryz.ntmps83
    go_wp2
    go_ret
    exact ⟨rfl, by go_grown⟩

theorem isModeOf_any (t : Int) (k : Bool) (id m : Int) (w : World) (b : Bool) (hb : modB k m = b) : Calls Tryz.prog 106 #[.agg #[.int .i64 t, .bool k, .int .u16 id], .int .i64 m] w (fun e w' => e = .returned (.bool b) ∧ Below w.heap.size w w') := by
  unfold modB at hb
  by_cases h1 : m = 0
  · subst h1
    obtain rfl : false = b := by rw [← hb]; simp
    go_enter Tryz.func106, Tryz.ntmps106
    go_wp2
    go_ret
    exact ⟨rfl, by go_grown⟩
  · rw [if_neg h1] at hb
    obtain ⟨W, hW⟩ : ∃ W, w.alloc (.cells #[.int .i64 t, .bool k, .int .u16 id] 30) = W := ⟨_, rfl⟩
    have hbx := Lib.hid (one_box (xs := [.int .i64 t, .bool k, .int .u16 id]) hW)
    cases k with
    | true =>
      have hc := Lib.hid (ofK_any m W)
      have c1 := hbx.out.2.1.cell 1 rfl
      simp only [if_true] at hb
      go_enter Tryz.func106, Tryz.ntmps106
      go_wp2_with fail
      clear hW c1
      refine hc.out.mono ?_
      rintro e w1 ⟨rfl, h1⟩
      go_wp2
      go_ret
      exact ⟨rfl, below_step h1 hbx.out.1⟩
    | false =>
      have hc := Lib.hid (ofT_any m W)
      have c1 := hbx.out.2.1.cell 1 rfl
      simp only [Bool.false_eq_true, if_false] at hb
      go_enter Tryz.func106, Tryz.ntmps106
      go_wp2_with fail
      clear hW c1
      refine hc.out.mono ?_
      rintro e w1 ⟨rfl, h1⟩
      go_wp2
      go_ret
      exact ⟨rfl, below_step h1 hbx.out.1⟩

theorem inTable_any (t : Int) (k : Bool) (id : Int) (w : World) (h0 : 0 ≤ id) (h1 : id < 65536) : Calls Tryz.prog 88 #[.agg #[.int .i64 t, .bool k, .int .u16 id]] w (fun e w' => e = .returned (.int .i64 (inT ⟨t, k, id⟩)) ∧ Below w.heap.size w w') := by
  cases k with
  | true =>
    have hw : IntKind.i64.wrap id = id := IntWalk.i64_in _ (by omega)
    have hw2 : IntKind.i64.wrap (1 + id) = 1 + id := IntWalk.i64_in _ (by omega)
    go_enter Tryz.func88, Tryz.ntmps88
    go_wp2
    go_ret
    exact ⟨ret_i (by simp [inT]), by go_grown⟩
  | false =>
    go_enter Tryz.func88, Tryz.ntmps88
    go_wp2
    go_ret
    exact ⟨ret_i (by simp [inT]), by go_grown⟩

theorem converts_any (x m h : Int) (w : World) : Calls Tryz.prog 67 #[.agg #[.int .i64 x, .int .i64 m, .int .i64 h]] w (fun e w' => e = .returned (.bool (convB ⟨x, m, h⟩)) ∧ Below w.heap.size w w') := by
  go_enter Tryz.func67, Tryz.ntmps67
  go_wp2
  go_ret
  exact ⟨ret_b (by by_cases h0 : h = 0 <;> simp [convB, h0]), by go_grown⟩

theorem hinders_any (hx hm wx wm wh : Int) (w : World) (hG : LaidG w) : Calls Tryz.prog 48 #[.agg #[.int .i64 hx, .int .i64 hm], .agg #[.int .i64 wx, .int .i64 wm, .int .i64 wh]] w (fun e w' => e = .returned (.bool (hindB ⟨hx, hm⟩ ⟨wx, wm, wh⟩)) ∧ Below w.heap.size w w') := by
  by_cases hne : hx = wx
  · have e : hindB ⟨hx, hm⟩ ⟨wx, wm, wh⟩ = false := by simp [hindB, hne]
    rw [e]
    subst hne
    clear e hG
    go_enter Tryz.func48, Tryz.ntmps48
    go_wp2
    go_ret
    exact ⟨by simp, by go_grown⟩
  · have e : hindB ⟨hx, hm⟩ ⟨wx, wm, wh⟩ = !goesB hm wm := by simp [hindB, hne]
    rw [e]
    obtain ⟨W, hW⟩ : ∃ W, (w.alloc (.cells #[.int .i64 hx, .int .i64 hm] 45)).alloc (.cells #[.int .i64 wx, .int .i64 wm, .int .i64 wh] 47) = W := ⟨_, rfl⟩
    have hbx := Lib.hid (two_boxes (xs := [.int .i64 hx, .int .i64 hm]) (ys := [.int .i64 wx, .int .i64 wm, .int .i64 wh]) hW)
    have hc := Lib.hid (goes_any hm wm W (hG.below hbx.out.1))
    have c0 := hbx.out.2.1.cell 0 rfl
    have c1 := hbx.out.2.1.cell 1 rfl
    have d0 := hbx.out.2.2.1.cell 0 rfl
    have d1 := hbx.out.2.2.1.cell 1 rfl
    clear e hG
    go_enter Tryz.func48, Tryz.ntmps48
    go_wp2_with fail
    clear hW c0 c1 d0 d1
    refine hc.out.mono ?_
    rintro e w1 ⟨rfl, h1⟩
    go_wp2
    go_ret
    exact ⟨ret_b (by simp [bne, hne]), below_step h1 hbx.out.1⟩
end Go.Proofs.YtbgpppbcffpdbaaGreatDoor

/-! holder and held of locks: a binary search over holders that rise. -/
namespace Go.Proofs.YtbgpppbcffpdbaaGreatDoor
open Go.RowKit

theorem sizeHold (a b : Value) : (Tryz.prog.info? 45).map (·.size) = some [a, b].length := by kernel_rfl
theorem sizeWait (a b c : Value) : (Tryz.prog.info? 47).map (·.size) = some [a, b, c].length := by kernel_rfl
theorem sizeRes (a b c : Value) : (Tryz.prog.info? 30).map (·.size) = some [a, b, c].length := by kernel_rfl
theorem sizeQue (a b c d e : Value) : (Tryz.prog.info? 43).map (·.size) = some [a, b, c, d, e].length := by kernel_rfl
theorem sizeLks (a : Value) : (Tryz.prog.info? 24).map (·.size) = some [a].length := by kernel_rfl

def SortH (hs : List HoldD) : Prop := hs.Pairwise (fun a b => a.x < b.x)
def posH (hs : List HoldD) (x : Int) : Nat := (hs.takeWhile (fun h => decide (h.x < x))).length
def fndH (hs : List HoldD) (x : Int) : Bool := match hs[posH hs x]? with
  | some h => decide (h.x = x)
  | none => false
def heldH (hs : List HoldD) (x : Int) : Int := match hs[posH hs x]? with
  | some h => if h.x = x then h.m else 0
  | none => 0

theorem posH_le (hs : List HoldD) (x : Int) : posH hs x ≤ hs.length := by unfold posH; exact (List.takeWhile_sublist _).length_le
theorem posH_of : ∀ {hs : List HoldD} {x : Int} {i : Nat}, i ≤ hs.length → (∀ k h, k < i → hs[k]? = some h → h.x < x) → (∀ h, hs[i]? = some h → ¬ h.x < x) → posH hs x = i
  | [], x, i, hi, _, _ => by simp at hi; subst hi; rfl
  | a :: hs, x, 0, _, _, h2 => by
    have := h2 a rfl
    simp [posH, this]
  | a :: hs, x, i + 1, hi, h1, h2 => by
    have ha := h1 0 a (by omega) rfl
    have ih := posH_of (hs := hs) (x := x) (i := i) (by simpa using hi) (fun k h hk hg => h1 (k + 1) h (by omega) (by simpa using hg)) (fun h hg => h2 h (by simpa using hg))
    unfold posH at ih ⊢
    simp [ha, ih]
theorem SortH.lt {hs : List HoldD} (h : SortH hs) {i j : Nat} {a b : HoldD} (hij : i < j) (ha : hs[i]? = some a) (hb : hs[j]? = some b) : a.x < b.x := by
  obtain ⟨h1, rfl⟩ := List.getElem?_eq_some_iff.1 ha
  obtain ⟨h2, rfl⟩ := List.getElem?_eq_some_iff.1 hb
  exact List.pairwise_iff_getElem.1 h i j h1 h2 hij

set_option maxRecDepth 100000 in
theorem holderFn_any (hx hm x : Int) (w : World) : Calls Tryz.prog 124 #[.agg #[.int .i64 hx, .int .i64 hm], .int .i64 x] w (fun e w' => e = .returned (.int .i64 (cmpI hx x)) ∧ Below w.heap.size w w') := by
  have hc := Lib.hid (fun u => cmp_int hx x u)
  go_enter Tryz.func124, Tryz.ntmps124
  go_wp2_with (go_at_call 87; refine (hc.out _).mono ?_; rintro e w1 ⟨rfl, hw⟩; obtain rfl := hw.symm)
  go_ret
  exact ⟨rfl, by go_grown⟩

structure BsH (w wr : World) (hs : List HoldD) (x : Int) (n i j : Nat) : Prop where
  below : Below w.heap.size w wr
  le : i ≤ j
  top : j ≤ n
  lo : ∀ k h, k < i → hs[k]? = some h → h.x < x
  hi : ∀ k h, j ≤ k → hs[k]? = some h → ¬ h.x < x

set_option maxRecDepth 100000 in
set_option maxHeartbeats 2000000 in
theorem bsH_any (q : Option Addr) (n c : Nat) (hs : List HoldD) (x : Int) (w : World) (h : SlOn w q n c hs) (hso : SortH hs) (hsm : n ≤ 1000000) :
    Calls Tryz.prog 123 #[.slice q n c, .int .i64 x, .func (.func 124) #[] #[]] w (fun e w' => e = .returned (.tuple #[.int .i64 (posH hs x : Nat), .bool (fndH hs x)]) ∧ Below w.heap.size w w') := by
  have hh := Lib.hid h
  have hso' := Lib.hid hso
  have hl := Lib.hid h.len
  clear h hso
  go_enter Tryz.func123, Tryz.ntmps123
  go_wp2
  go_loopw [9, 10] (fun v9 v10 wr => ∃ i j : Nat, v9 = .int .i64 i ∧ v10 = .int .i64 j ∧ Hid (BsH w wr hs x n i j)) (fun v9 v10 _ => (intOf v10).toNat - (intOf v9).toNat)
  case atStart => exact ⟨0, n, rfl, rfl, Below.refl _ _, Nat.zero_le _, Nat.le_refl _, (fun k h hk => by omega), fun k h hk hg => by have := (List.getElem?_eq_some_iff.1 hg).1; have := hl.out; omega⟩
  case round =>
    obtain ⟨i, j, rfl, rfl, hr⟩ := hrel
    have hij := hr.out.le
    have hjn := hr.out.top
    by_cases hlt : i < j
    · have i0 : (0 : Int) ≤ (i : Int) + j := by omega
      have i1 : (i : Int) + j < 9223372036854775808 := by omega
      obtain ⟨H, hH⟩ : ∃ H : Nat, ((i : Int) + j) / 2 = H := ⟨(i + j) / 2, by omega⟩
      have hH1 : i ≤ H := by omega
      have hH2 : H < j := by omega
      have hH3 : (H : Int) < n := by omega
      have hH0 : (0 : Int) ≤ H := by omega
      obtain ⟨A, ⟨ax, am⟩, hqA, hx, hcA⟩ := (hh.out.below hr.out.below (Nat.le_refl _)).at (show H < n by omega)
      subst hqA
      have hcell : Hid (∀ j' v, ([.int .i64 ax, .int .i64 am] : List Value)[j']? = some v → wr.cell? ((A.add (H * 2)).add j') = some v) := hcA
      have hs2 := sizeHold (.int .i64 ax) (.int .i64 am)
      have hx' := Lib.hid hx
      have hc := Lib.hid (fun u => holderFn_any ax am x u)
      clear hx hcA
      by_cases hb : ax < x
      · have e : cmpI ax x = -1 := if_pos hb
        rw [e] at hc
        clear e
        have hb' := Lib.hid hb
        clear hb
        go_wp2_with (first
          | (with_reducible refine wpList_load_at rfl 45 (.tmp 27) rfl Tryz.underlying45 rfl hs2 rfl hcell.out ?_)
          | (go_at_call 124; refine (hc.out _).mono ?_; rintro e w2 ⟨rfl, hb2⟩; have hb3 := Lib.hid (hr.out.below.trans (hb2.mono hr.out.below.size)); clear hb2))
        go_roundw
        case rel =>
          refine ⟨H + 1, j, by go_num, rfl, hb3.out, by omega, hjn, (fun k h hk hg => ?_), hr.out.hi⟩
          rcases Nat.lt_or_ge k H with h1 | h1
          · exact Int.lt_trans (hso'.out.lt h1 hg hx'.out) hb'.out
          · obtain rfl : k = H := by omega
            rw [hx'.out] at hg; cases hg; exact hb'.out
        case measure => simp [intOf]; omega
      · have hy : cmpI ax x = 1 ∨ cmpI ax x = 0 := by
          rcases cmpI_cases ax x with ⟨h, e⟩ | ⟨h, e⟩ | ⟨h, e⟩
          · exact absurd h hb
          · exact .inl e
          · exact .inr e
        have hb' := Lib.hid hb
        clear hb
        rcases hy with hy | hy
        all_goals
          rw [hy] at hc
          clear hy
          go_wp2_with (first
            | (with_reducible refine wpList_load_at rfl 45 (.tmp 27) rfl Tryz.underlying45 rfl hs2 rfl hcell.out ?_)
            | (go_at_call 124; refine (hc.out _).mono ?_; rintro e w2 ⟨rfl, hb2⟩; have hb3 := Lib.hid (hr.out.below.trans (hb2.mono hr.out.below.size)); clear hb2))
          go_roundw
          case rel =>
            refine ⟨i, H, rfl, rfl, hb3.out, hH1, by omega, hr.out.lo, (fun k h hk hg => ?_)⟩
            rcases Nat.lt_or_ge H k with h1 | h1
            · have h2 := hso'.out.lt h1 hx'.out hg
              have h3 := hb'.out
              show ¬ h.x < x
              have h4 : ax < h.x := h2
              omega
            · obtain rfl : k = H := by omega
              rw [hx'.out] at hg; cases hg; exact Int.not_lt.2 hb'.out
          case measure => simp [intOf]; omega
    · obtain rfl : i = j := by omega
      have hp : Hid (posH hs x = i) := posH_of (by have := hl.out; omega) hr.out.lo (fun h hg => hr.out.hi i h (Nat.le_refl _) hg)
      by_cases hin : i < n
      · have hH3 : (i : Int) < n := by omega
        have hH0 : (0 : Int) ≤ i := by omega
        obtain ⟨A, ⟨ax, am⟩, hqA, hx, hcA⟩ := (hh.out.below hr.out.below (Nat.le_refl _)).at hin
        subst hqA
        have p0 : wr.cell? (A.add (i * 2)) = some (.int .i64 ax) := by have h := hcA 0 _ rfl; rwa [add0] at h
        have p1 : wr.cell? ⟨(A.add (i * 2)).block, (A.add (i * 2)).off + 1, none⟩ = some (.int .i64 am) := hcA 1 _ rfl
        have hf : Hid (fndH hs x = decide (ax = x)) := by show _ = _; unfold fndH; rw [hp.out, hx]
        have hc := Lib.hid (fun u => holderFn_any ax am x u)
        clear hx hcA
        obtain ⟨y, hy⟩ : ∃ y, cmpI ax x = y := ⟨_, rfl⟩
        obtain ⟨b, hb⟩ : ∃ b, decide (ax = x) = b := ⟨_, rfl⟩
        have hy0 : (y == 0) = b := by
          rw [← hb]
          rcases cmpI_cases ax x with ⟨h, e⟩ | ⟨h, e⟩ | ⟨h, e⟩
          · rw [e] at hy; subst hy; symm; simp; omega
          · rw [e] at hy; subst hy; symm; simp; omega
          · rw [e] at hy; subst hy; symm; simp [h]
        rw [hy] at hc
        rw [hb] at hf
        clear hy hb
        go_wp2_with (first
          | (go_at_call 124; refine (hc.out _).mono ?_; rintro e w2 ⟨rfl, hb2⟩; have hb3 := Lib.hid (hr.out.below.trans (hb2.mono hr.out.below.size)); clear hb2))
        go_ret2
        rw [hp.out, hf.out]
        exact ⟨rfl, hb3.out⟩
      · obtain rfl : i = n := by omega
        have hf : Hid (fndH hs x = false) := by
          show _ = _
          unfold fndH
          rw [hp.out, List.getElem?_eq_none (by rw [hl.out]; exact Nat.le_refl _)]
        go_wp2
        go_ret2
        rw [hp.out, hf.out]
        exact ⟨rfl, hr.out.below⟩

/-- the value of a queue, and its box -/
theorem QV.val_eq (v : QV) : v.val = .agg #[.int .i64 v.res.t, .bool v.res.k, .int .u16 v.res.id, .slice v.hq v.hn v.hc, .slice v.wq v.wn v.wc] := rfl

set_option maxRecDepth 100000 in
theorem holder_any (t : Int) (k : Bool) (id : Int) (hq : Option Addr) (hn hc : Nat) (wq : Option Addr) (wn wc : Nat) (hs : List HoldD) (x : Int) (w : World) (h : SlOn w hq hn hc hs) (hso : SortH hs) (hsm : hn ≤ 1000000) :
    Calls Tryz.prog 91 #[.agg #[.int .i64 t, .bool k, .int .u16 id, .slice hq hn hc, .slice wq wn wc], .int .i64 x] w (fun e w' => e = .returned (.tuple #[.int .i64 (posH hs x : Nat), .bool (fndH hs x)]) ∧ Below w.heap.size w w') := by
  obtain ⟨W, hW⟩ : ∃ W, w.alloc (.cells #[.int .i64 t, .bool k, .int .u16 id, .slice hq hn hc, .slice wq wn wc] 43) = W := ⟨_, rfl⟩
  have hbx := Lib.hid (one_box (xs := [.int .i64 t, .bool k, .int .u16 id, .slice hq hn hc, .slice wq wn wc]) hW)
  have hc' := Lib.hid (bsH_any hq hn hc hs x W (h.below hbx.out.1 (Nat.le_refl _)) hso hsm)
  have c3 := hbx.out.2.1.cell 3 rfl
  clear h hso
  go_enter Tryz.func91, Tryz.ntmps91
  go_wp2_with fail
  clear hW c3
  refine hc'.out.mono ?_
  rintro e w1 ⟨rfl, h1⟩
  have h1' := Lib.hid (below_step h1 hbx.out.1)
  clear h1
  go_wp2
  go_ret2
  exact ⟨rfl, h1'.out⟩

set_option maxRecDepth 100000 in
theorem held_any (t : Int) (k : Bool) (id : Int) (hq : Option Addr) (hn hc : Nat) (wq : Option Addr) (wn wc : Nat) (hs : List HoldD) (x : Int) (w : World) (h : SlOn w hq hn hc hs) (hso : SortH hs) (hsm : hn ≤ 1000000) :
    Calls Tryz.prog 47 #[.agg #[.int .i64 t, .bool k, .int .u16 id, .slice hq hn hc, .slice wq wn wc], .int .i64 x] w (fun e w' => e = .returned (.int .i64 (heldH hs x)) ∧ Below w.heap.size w w') := by
  obtain ⟨W, hW⟩ : ∃ W, w.alloc (.cells #[.int .i64 t, .bool k, .int .u16 id, .slice hq hn hc, .slice wq wn wc] 43) = W := ⟨_, rfl⟩
  have hbx := Lib.hid (one_box (xs := [.int .i64 t, .bool k, .int .u16 id, .slice hq hn hc, .slice wq wn wc]) hW)
  have hon := Lib.hid (h.below hbx.out.1 (Nat.le_refl _))
  have hc' := Lib.hid (holder_any t k id hq hn hc wq wn wc hs x W hon.out hso hsm)
  have hs5 := sizeQue (.int .i64 t) (.bool k) (.int .u16 id) (.slice hq hn hc) (.slice wq wn wc)
  have key : (∃ p y, posH hs x = p ∧ hs[p]? = some y ∧ fndH hs x = true ∧ heldH hs x = y.m) ∨ (fndH hs x = false ∧ heldH hs x = 0) := by
    unfold fndH heldH
    cases hx : hs[posH hs x]? with
    | none => exact .inr ⟨rfl, rfl⟩
    | some y =>
      by_cases hy : y.x = x
      · exact .inl ⟨_, y, rfl, hx, by simp [hy], by simp [hy]⟩
      · exact .inr ⟨by simp [hy], by simp [hy]⟩
  clear h hso
  rcases key with ⟨p, ⟨yx, ym⟩, hp, hx, e1, e2⟩ | ⟨e1, e2⟩
  · rw [e1, hp] at hc'
    rw [e2]
    have hpn : p < hn := by have := (List.getElem?_eq_some_iff.1 hx).1; have := hon.out.len; omega
    have hx' := Lib.hid hx
    clear e1 e2 hp hx
    go_enter Tryz.func47, Tryz.ntmps47
    go_wp2_with (first
      | (with_reducible refine wpList_load_at rfl 43 (.tmp 2) rfl Tryz.underlying43 rfl hs5 rfl hbx.out.2.1.all ?_))
    clear hW
    refine hc'.out.mono ?_
    rintro e w1 ⟨rfl, h1⟩
    have h1' := Lib.hid h1
    have h2' := Lib.hid (below_step h1 hbx.out.1)
    clear h1
    obtain ⟨A, ⟨ax, am⟩, hqA, hx2, hcA⟩ := (hon.out.below h1'.out (Nat.le_refl _)).at hpn
    rw [hx'.out] at hx2
    cases hx2
    subst hqA
    have p1 : w1.cell? ⟨(A.add (p * 2)).block, (A.add (p * 2)).off + 1, none⟩ = some (.int .i64 ym) := hcA 1 _ rfl
    have p0 : (0 : Int) ≤ p := by omega
    have p2 : (p : Int) < hn := by omega
    have c3 := (hbx.out.2.1.below h1'.out (Nat.le_refl _)).cell 3 rfl
    clear hcA
    go_wp2
    go_ret
    exact ⟨rfl, h2'.out⟩
  · rw [e1] at hc'
    rw [e2]
    clear e1 e2
    go_enter Tryz.func47, Tryz.ntmps47
    go_wp2_with (first
      | (with_reducible refine wpList_load_at rfl 43 (.tmp 2) rfl Tryz.underlying43 rfl hs5 rfl hbx.out.2.1.all ?_))
    clear hW
    refine hc'.out.mono ?_
    rintro e w1 ⟨rfl, h1⟩
    have h2' := Lib.hid (below_step h1 hbx.out.1)
    clear h1
    go_wp2
    go_ret
    exact ⟨rfl, h2'.out⟩
end Go.Proofs.YtbgpppbcffpdbaaGreatDoor

/-! slices.IndexFunc at each closure of locks; waiter and goes. -/
namespace Go.Proofs.YtbgpppbcffpdbaaGreatDoor
open Go.RowKit

section
variable {α : Type}
def fIdx (p : α → Bool) : List α → Int
  | [] => -1
  | a :: l => if p a = true then 0 else if fIdx p l < 0 then -1 else fIdx p l + 1
theorem fIdx_none {p : α → Bool} : ∀ {l : List α}, (∀ (i : Nat) a, l[i]? = some a → p a = false) → fIdx p l = -1
  | [], _ => rfl
  | a :: l, h => by
    have h0 := h 0 a rfl
    have ih := fIdx_none (p := p) (l := l) (fun i b hb => h (i + 1) b (by simpa using hb))
    simp [fIdx, h0, ih]
theorem fIdx_at {p : α → Bool} : ∀ {l : List α} {k : Nat} {a : α}, (∀ i b, i < k → l[i]? = some b → p b = false) → l[k]? = some a → p a = true → fIdx p l = k
  | [], k, a, _, h, _ => by simp at h
  | b :: l, 0, a, _, h, hp => by simp at h; subst h; simp [fIdx, hp]
  | b :: l, k + 1, a, h, hk, hp => by
    have h0 := h 0 b (by omega) rfl
    have ih := fIdx_at (p := p) (l := l) (k := k) (a := a) (fun i c hi hc => h (i + 1) c (by omega) (by simpa using hc)) (by simpa using hk) hp
    simp [fIdx, h0, ih]; omega
theorem fIdx_or (p : α → Bool) (l : List α) : (fIdx p l = -1 ∧ ∀ a ∈ l, p a = false) ∨ ∃ k a, fIdx p l = (k : Nat) ∧ l[k]? = some a ∧ p a = true ∧ ∀ i b, i < k → l[i]? = some b → p b = false := by
  induction l with
  | nil => exact .inl ⟨rfl, fun a h => by cases h⟩
  | cons b l ih =>
    by_cases hb : p b = true
    · exact .inr ⟨0, b, by simp [fIdx, hb], rfl, hb, fun i c hi => by omega⟩
    · rcases ih with ⟨h1, h2⟩ | ⟨k, a, h1, h2, h3, h4⟩
      · refine .inl ⟨by simp [fIdx, hb, h1], fun a ha => ?_⟩
        rcases List.mem_cons.1 ha with rfl | ha
        · simpa using hb
        · exact h2 a ha
      · refine .inr ⟨k + 1, a, by simp [fIdx, hb, h1]; omega, by simpa using h2, h3, fun i c hi hc => ?_⟩
        match i, hc with
        | 0, hc => simp at hc; subst hc; simpa using hb
        | i + 1, hc => exact h4 i c (by omega) (by simpa using hc)
end

theorem waiterFn_any (ax am ah x : Int) (g : Nat) (w : World) (hg : w.cell? ⟨g, 0, none⟩ = some (.int .i64 x)) : Calls Tryz.prog 122 #[.agg #[.int .i64 ax, .int .i64 am, .int .i64 ah], .pointer (some ⟨g, 0, none⟩)] w (fun e w' => e = .returned (.bool (ax == x)) ∧ Below w.heap.size w w') := by
  have hlt := cell_in hg
  have hne : ¬ (g = w.heap.size) := by have : g < w.heap.size := hlt; omega
  go_enter Tryz.func122, Tryz.ntmps122
  go_wp2
  go_ret
  exact ⟨rfl, by go_grown⟩

theorem dropWaitFn_any (ax am ah x : Int) (g : Nat) (w : World) (hg : w.cell? ⟨g, 0, none⟩ = some (.int .i64 x)) : Calls Tryz.prog 105 #[.agg #[.int .i64 ax, .int .i64 am, .int .i64 ah], .pointer (some ⟨g, 0, none⟩)] w (fun e w' => e = .returned (.bool (ax == x)) ∧ Below w.heap.size w w') := by
  have hlt := cell_in hg
  have hne : ¬ (g = w.heap.size) := by have : g < w.heap.size := hlt; omega
  go_enter Tryz.func105, Tryz.ntmps105
  go_wp2
  go_ret
  exact ⟨rfl, by go_grown⟩

theorem dropHoldFn_any (ax am x : Int) (g : Nat) (w : World) (hg : w.cell? ⟨g, 0, none⟩ = some (.int .i64 x)) : Calls Tryz.prog 103 #[.agg #[.int .i64 ax, .int .i64 am], .pointer (some ⟨g, 0, none⟩)] w (fun e w' => e = .returned (.bool (ax == x)) ∧ Below w.heap.size w w') := by
  have hlt := cell_in hg
  have hne : ¬ (g = w.heap.size) := by have : g < w.heap.size := hlt; omega
  go_enter Tryz.func103, Tryz.ntmps103
  go_wp2
  go_ret
  exact ⟨rfl, by go_grown⟩

theorem goesFn_any (ax am wx wm wh : Int) (g : Nat) (w : World) (hG : LaidG w) (hg : Boxed w g [.int .i64 wx, .int .i64 wm, .int .i64 wh]) : Calls Tryz.prog 112 #[.agg #[.int .i64 ax, .int .i64 am], .pointer (some ⟨g, 0, none⟩)] w (fun e w' => e = .returned (.bool (hindB ⟨ax, am⟩ ⟨wx, wm, wh⟩)) ∧ Below w.heap.size w w') := by
  obtain ⟨W, hW⟩ : ∃ W, w.alloc (.cells #[.int .i64 ax, .int .i64 am] 45) = W := ⟨_, rfl⟩
  have hbx := Lib.hid (one_box (xs := [.int .i64 ax, .int .i64 am]) hW)
  have hgW := Lib.hid (hg.below hbx.out.1 (Nat.le_refl _))
  have hc := Lib.hid (hinders_any ax am wx wm wh W (hG.below hbx.out.1))
  have s1 := sizeHold (.int .i64 ax) (.int .i64 am)
  have s2 := sizeWait (.int .i64 wx) (.int .i64 wm) (.int .i64 wh)
  clear hG hg
  go_enter Tryz.func112, Tryz.ntmps112
  go_wp2_with (first
    | (with_reducible refine wpList_load_at rfl 45 (.tmp 2) rfl Tryz.underlying45 rfl s1 rfl hbx.out.2.1.all ?_)
    | (with_reducible refine wpList_load_at rfl 47 (.tmp 1) rfl Tryz.underlying47 rfl s2 rfl hgW.out.all ?_))
  clear hW
  refine hc.out.mono ?_
  rintro e w1 ⟨rfl, h1⟩
  go_wp2
  go_ret
  exact ⟨rfl, below_step h1 hbx.out.1⟩

theorem withoutFn_any (t : Int) (k : Bool) (id : Int) (hq : Option Addr) (hn hc : Nat) (wq : Option Addr) (wn wc : Nat) (w : World) : Calls Tryz.prog 101 #[.agg #[.int .i64 t, .bool k, .int .u16 id, .slice hq hn hc, .slice wq wn wc]] w (fun e w' => e = .returned (.bool (decide (hn = 0))) ∧ Below w.heap.size w w') := by
  go_enter Tryz.func101, Tryz.ntmps101
  go_wp2
  go_ret
  exact ⟨ret_b (by by_cases h : hn = 0 <;> simp [h]), by go_grown⟩

set_option maxRecDepth 100000 in
set_option maxHeartbeats 1000000 in
theorem idxWaiter_any (g : Nat) (p : WaitD → Bool) (q : Option Addr) (n c : Nat) (l : List WaitD) (w : World) (h : SlOn w q n c l) (hsm : n ≤ 1000000)
    (hf : ∀ (a : WaitD) u, Below w.heap.size w u → Calls Tryz.prog 122 #[.agg #[.int .i64 a.x, .int .i64 a.m, .int .i64 a.h], .pointer (some ⟨g, 0, none⟩)] u (fun e w' => e = .returned (.bool (p a)) ∧ Below u.heap.size u w')) :
    Calls Tryz.prog 121 #[.slice q n c, .func (.func 122) #[] #[.pointer (some ⟨g, 0, none⟩)]] w (fun e w' => e = .returned (.int .i64 (fIdx p l)) ∧ Below w.heap.size w w') := by
  have hh := Lib.hid h
  have hl := Lib.hid h.len
  have hf' := Lib.hid hf
  clear h hf
  obtain ⟨R, hR⟩ : ∃ R, fIdx p l = R := ⟨_, rfl⟩
  have hR' := Lib.hid hR
  rw [hR]
  clear hR
  go_enter Tryz.func121, Tryz.ntmps121
  go_wp2
  go_loopw [8] (fun v8 wr => ∃ k : Nat, k ≤ n ∧ v8 = .int .i64 k ∧ Hid (Below w.heap.size w wr) ∧ Hid (∀ i a, i < k → l[i]? = some a → p a = false)) (fun v8 _ => n - (intOf v8).toNat)
  case atStart => exact ⟨0, Nat.zero_le _, rfl, Below.refl _ _, fun i a hi => by omega⟩
  case round =>
    obtain ⟨k, hk, rfl, hb, hp⟩ := hrel
    by_cases hlt : k < n
    · obtain ⟨A, ⟨ax, am, ah⟩, hqA, hx, hcA⟩ := (hh.out.below hb.out (Nat.le_refl _)).at hlt
      subst hqA
      have hcell : Hid (∀ j' v, ([.int .i64 ax, .int .i64 am, .int .i64 ah] : List Value)[j']? = some v → wr.cell? ((A.add (k * 3)).add j') = some v) := hcA
      have hs2 := sizeWait (.int .i64 ax) (.int .i64 am) (.int .i64 ah)
      have hx' := Lib.hid hx
      have hcl := Lib.hid (hf'.out ⟨ax, am, ah⟩ wr hb.out)
      have i0 : (0 : Int) ≤ k := by omega
      have i1 : (k : Int) < n := by omega
      clear hx hcA
      obtain ⟨b, hbv⟩ : ∃ b, p ⟨ax, am, ah⟩ = b := ⟨_, rfl⟩
      have hbv' := Lib.hid hbv
      rw [hbv] at hcl
      clear hbv
      cases b with
      | true =>
        have hfin : Hid ((k : Int) = R) := by rw [← hR'.out]; exact (fIdx_at hp.out hx'.out hbv'.out).symm
        go_wp2_with (first
          | (with_reducible refine wpList_load_at rfl 47 (.tmp 14) rfl Tryz.underlying47 rfl hs2 rfl hcell.out ?_)
          | (go_at_call 122; refine hcl.out.mono ?_; rintro e w2 ⟨rfl, hb2⟩; have hb3 := Lib.hid (hb.out.trans (hb2.mono hb.out.size)); clear hb2))
        go_ret
        exact ⟨ret_i hfin.out, hb3.out⟩
      | false =>
        go_wp2_with (first
          | (with_reducible refine wpList_load_at rfl 47 (.tmp 14) rfl Tryz.underlying47 rfl hs2 rfl hcell.out ?_)
          | (go_at_call 122; refine hcl.out.mono ?_; rintro e w2 ⟨rfl, hb2⟩; have hb3 := Lib.hid (hb.out.trans (hb2.mono hb.out.size)); clear hb2))
        go_roundw
        case rel =>
          refine ⟨k + 1, by omega, by go_num, hb3.out, fun i a hi ha => ?_⟩
          rcases Nat.lt_or_ge i k with h | h
          · exact hp.out i a h ha
          · obtain rfl : i = k := by omega
            rw [hx'.out] at ha; cases ha; exact hbv'.out
        case measure => simp [intOf]; omega
    · obtain rfl : n = k := by omega
      have hfin : Hid ((-1 : Int) = R) := by rw [← hR'.out]; exact (fIdx_none (fun i a ha => hp.out i a (by have := (List.getElem?_eq_some_iff.1 ha).1; have := hl.out; omega) ha)).symm
      go_wp2
      go_ret
      exact ⟨ret_i hfin.out, hb.out⟩

set_option maxRecDepth 100000 in
set_option maxHeartbeats 1000000 in
theorem idxDropW_any (g : Nat) (p : WaitD → Bool) (q : Option Addr) (n c : Nat) (l : List WaitD) (w : World) (h : SlOn w q n c l) (hsm : n ≤ 1000000)
    (hf : ∀ (a : WaitD) u, Below w.heap.size w u → Calls Tryz.prog 105 #[.agg #[.int .i64 a.x, .int .i64 a.m, .int .i64 a.h], .pointer (some ⟨g, 0, none⟩)] u (fun e w' => e = .returned (.bool (p a)) ∧ Below u.heap.size u w')) :
    Calls Tryz.prog 121 #[.slice q n c, .func (.func 105) #[] #[.pointer (some ⟨g, 0, none⟩)]] w (fun e w' => e = .returned (.int .i64 (fIdx p l)) ∧ Below w.heap.size w w') := by
  have hh := Lib.hid h
  have hl := Lib.hid h.len
  have hf' := Lib.hid hf
  clear h hf
  obtain ⟨R, hR⟩ : ∃ R, fIdx p l = R := ⟨_, rfl⟩
  have hR' := Lib.hid hR
  rw [hR]
  clear hR
  go_enter Tryz.func121, Tryz.ntmps121
  go_wp2
  go_loopw [8] (fun v8 wr => ∃ k : Nat, k ≤ n ∧ v8 = .int .i64 k ∧ Hid (Below w.heap.size w wr) ∧ Hid (∀ i a, i < k → l[i]? = some a → p a = false)) (fun v8 _ => n - (intOf v8).toNat)
  case atStart => exact ⟨0, Nat.zero_le _, rfl, Below.refl _ _, fun i a hi => by omega⟩
  case round =>
    obtain ⟨k, hk, rfl, hb, hp⟩ := hrel
    by_cases hlt : k < n
    · obtain ⟨A, ⟨ax, am, ah⟩, hqA, hx, hcA⟩ := (hh.out.below hb.out (Nat.le_refl _)).at hlt
      subst hqA
      have hcell : Hid (∀ j' v, ([.int .i64 ax, .int .i64 am, .int .i64 ah] : List Value)[j']? = some v → wr.cell? ((A.add (k * 3)).add j') = some v) := hcA
      have hs2 := sizeWait (.int .i64 ax) (.int .i64 am) (.int .i64 ah)
      have hx' := Lib.hid hx
      have hcl := Lib.hid (hf'.out ⟨ax, am, ah⟩ wr hb.out)
      have i0 : (0 : Int) ≤ k := by omega
      have i1 : (k : Int) < n := by omega
      clear hx hcA
      obtain ⟨b, hbv⟩ : ∃ b, p ⟨ax, am, ah⟩ = b := ⟨_, rfl⟩
      have hbv' := Lib.hid hbv
      rw [hbv] at hcl
      clear hbv
      cases b with
      | true =>
        have hfin : Hid ((k : Int) = R) := by rw [← hR'.out]; exact (fIdx_at hp.out hx'.out hbv'.out).symm
        go_wp2_with (first
          | (with_reducible refine wpList_load_at rfl 47 (.tmp 14) rfl Tryz.underlying47 rfl hs2 rfl hcell.out ?_)
          | (go_at_call 105; refine hcl.out.mono ?_; rintro e w2 ⟨rfl, hb2⟩; have hb3 := Lib.hid (hb.out.trans (hb2.mono hb.out.size)); clear hb2))
        go_ret
        exact ⟨ret_i hfin.out, hb3.out⟩
      | false =>
        go_wp2_with (first
          | (with_reducible refine wpList_load_at rfl 47 (.tmp 14) rfl Tryz.underlying47 rfl hs2 rfl hcell.out ?_)
          | (go_at_call 105; refine hcl.out.mono ?_; rintro e w2 ⟨rfl, hb2⟩; have hb3 := Lib.hid (hb.out.trans (hb2.mono hb.out.size)); clear hb2))
        go_roundw
        case rel =>
          refine ⟨k + 1, by omega, by go_num, hb3.out, fun i a hi ha => ?_⟩
          rcases Nat.lt_or_ge i k with h | h
          · exact hp.out i a h ha
          · obtain rfl : i = k := by omega
            rw [hx'.out] at ha; cases ha; exact hbv'.out
        case measure => simp [intOf]; omega
    · obtain rfl : n = k := by omega
      have hfin : Hid ((-1 : Int) = R) := by rw [← hR'.out]; exact (fIdx_none (fun i a ha => hp.out i a (by have := (List.getElem?_eq_some_iff.1 ha).1; have := hl.out; omega) ha)).symm
      go_wp2
      go_ret
      exact ⟨ret_i hfin.out, hb.out⟩

set_option maxRecDepth 100000 in
set_option maxHeartbeats 1000000 in
theorem idxGoes_any (g : Nat) (p : HoldD → Bool) (q : Option Addr) (n c : Nat) (l : List HoldD) (w : World) (h : SlOn w q n c l) (hsm : n ≤ 1000000)
    (hf : ∀ (a : HoldD) u, Below w.heap.size w u → Calls Tryz.prog 112 #[.agg #[.int .i64 a.x, .int .i64 a.m], .pointer (some ⟨g, 0, none⟩)] u (fun e w' => e = .returned (.bool (p a)) ∧ Below u.heap.size u w')) :
    Calls Tryz.prog 139 #[.slice q n c, .func (.func 112) #[] #[.pointer (some ⟨g, 0, none⟩)]] w (fun e w' => e = .returned (.int .i64 (fIdx p l)) ∧ Below w.heap.size w w') := by
  have hh := Lib.hid h
  have hl := Lib.hid h.len
  have hf' := Lib.hid hf
  clear h hf
  obtain ⟨R, hR⟩ : ∃ R, fIdx p l = R := ⟨_, rfl⟩
  have hR' := Lib.hid hR
  rw [hR]
  clear hR
  go_enter Tryz.func139, Tryz.ntmps139
  go_wp2
  go_loopw [8] (fun v8 wr => ∃ k : Nat, k ≤ n ∧ v8 = .int .i64 k ∧ Hid (Below w.heap.size w wr) ∧ Hid (∀ i a, i < k → l[i]? = some a → p a = false)) (fun v8 _ => n - (intOf v8).toNat)
  case atStart => exact ⟨0, Nat.zero_le _, rfl, Below.refl _ _, fun i a hi => by omega⟩
  case round =>
    obtain ⟨k, hk, rfl, hb, hp⟩ := hrel
    by_cases hlt : k < n
    · obtain ⟨A, ⟨ax, am⟩, hqA, hx, hcA⟩ := (hh.out.below hb.out (Nat.le_refl _)).at hlt
      subst hqA
      have hcell : Hid (∀ j' v, ([.int .i64 ax, .int .i64 am] : List Value)[j']? = some v → wr.cell? ((A.add (k * 2)).add j') = some v) := hcA
      have hs2 := sizeHold (.int .i64 ax) (.int .i64 am)
      have hx' := Lib.hid hx
      have hcl := Lib.hid (hf'.out ⟨ax, am⟩ wr hb.out)
      have i0 : (0 : Int) ≤ k := by omega
      have i1 : (k : Int) < n := by omega
      clear hx hcA
      obtain ⟨b, hbv⟩ : ∃ b, p ⟨ax, am⟩ = b := ⟨_, rfl⟩
      have hbv' := Lib.hid hbv
      rw [hbv] at hcl
      clear hbv
      cases b with
      | true =>
        have hfin : Hid ((k : Int) = R) := by rw [← hR'.out]; exact (fIdx_at hp.out hx'.out hbv'.out).symm
        go_wp2_with (first
          | (with_reducible refine wpList_load_at rfl 45 (.tmp 14) rfl Tryz.underlying45 rfl hs2 rfl hcell.out ?_)
          | (go_at_call 112; refine hcl.out.mono ?_; rintro e w2 ⟨rfl, hb2⟩; have hb3 := Lib.hid (hb.out.trans (hb2.mono hb.out.size)); clear hb2))
        go_ret
        exact ⟨ret_i hfin.out, hb3.out⟩
      | false =>
        go_wp2_with (first
          | (with_reducible refine wpList_load_at rfl 45 (.tmp 14) rfl Tryz.underlying45 rfl hs2 rfl hcell.out ?_)
          | (go_at_call 112; refine hcl.out.mono ?_; rintro e w2 ⟨rfl, hb2⟩; have hb3 := Lib.hid (hb.out.trans (hb2.mono hb.out.size)); clear hb2))
        go_roundw
        case rel =>
          refine ⟨k + 1, by omega, by go_num, hb3.out, fun i a hi ha => ?_⟩
          rcases Nat.lt_or_ge i k with h | h
          · exact hp.out i a h ha
          · obtain rfl : i = k := by omega
            rw [hx'.out] at ha; cases ha; exact hbv'.out
        case measure => simp [intOf]; omega
    · obtain rfl : n = k := by omega
      have hfin : Hid ((-1 : Int) = R) := by rw [← hR'.out]; exact (fIdx_none (fun i a ha => hp.out i a (by have := (List.getElem?_eq_some_iff.1 ha).1; have := hl.out; omega) ha)).symm
      go_wp2
      go_ret
      exact ⟨ret_i hfin.out, hb.out⟩

set_option maxRecDepth 100000 in
set_option maxHeartbeats 1000000 in
theorem idxDropH_any (g : Nat) (p : HoldD → Bool) (q : Option Addr) (n c : Nat) (l : List HoldD) (w : World) (h : SlOn w q n c l) (hsm : n ≤ 1000000)
    (hf : ∀ (a : HoldD) u, Below w.heap.size w u → Calls Tryz.prog 103 #[.agg #[.int .i64 a.x, .int .i64 a.m], .pointer (some ⟨g, 0, none⟩)] u (fun e w' => e = .returned (.bool (p a)) ∧ Below u.heap.size u w')) :
    Calls Tryz.prog 139 #[.slice q n c, .func (.func 103) #[] #[.pointer (some ⟨g, 0, none⟩)]] w (fun e w' => e = .returned (.int .i64 (fIdx p l)) ∧ Below w.heap.size w w') := by
  have hh := Lib.hid h
  have hl := Lib.hid h.len
  have hf' := Lib.hid hf
  clear h hf
  obtain ⟨R, hR⟩ : ∃ R, fIdx p l = R := ⟨_, rfl⟩
  have hR' := Lib.hid hR
  rw [hR]
  clear hR
  go_enter Tryz.func139, Tryz.ntmps139
  go_wp2
  go_loopw [8] (fun v8 wr => ∃ k : Nat, k ≤ n ∧ v8 = .int .i64 k ∧ Hid (Below w.heap.size w wr) ∧ Hid (∀ i a, i < k → l[i]? = some a → p a = false)) (fun v8 _ => n - (intOf v8).toNat)
  case atStart => exact ⟨0, Nat.zero_le _, rfl, Below.refl _ _, fun i a hi => by omega⟩
  case round =>
    obtain ⟨k, hk, rfl, hb, hp⟩ := hrel
    by_cases hlt : k < n
    · obtain ⟨A, ⟨ax, am⟩, hqA, hx, hcA⟩ := (hh.out.below hb.out (Nat.le_refl _)).at hlt
      subst hqA
      have hcell : Hid (∀ j' v, ([.int .i64 ax, .int .i64 am] : List Value)[j']? = some v → wr.cell? ((A.add (k * 2)).add j') = some v) := hcA
      have hs2 := sizeHold (.int .i64 ax) (.int .i64 am)
      have hx' := Lib.hid hx
      have hcl := Lib.hid (hf'.out ⟨ax, am⟩ wr hb.out)
      have i0 : (0 : Int) ≤ k := by omega
      have i1 : (k : Int) < n := by omega
      clear hx hcA
      obtain ⟨b, hbv⟩ : ∃ b, p ⟨ax, am⟩ = b := ⟨_, rfl⟩
      have hbv' := Lib.hid hbv
      rw [hbv] at hcl
      clear hbv
      cases b with
      | true =>
        have hfin : Hid ((k : Int) = R) := by rw [← hR'.out]; exact (fIdx_at hp.out hx'.out hbv'.out).symm
        go_wp2_with (first
          | (with_reducible refine wpList_load_at rfl 45 (.tmp 14) rfl Tryz.underlying45 rfl hs2 rfl hcell.out ?_)
          | (go_at_call 103; refine hcl.out.mono ?_; rintro e w2 ⟨rfl, hb2⟩; have hb3 := Lib.hid (hb.out.trans (hb2.mono hb.out.size)); clear hb2))
        go_ret
        exact ⟨ret_i hfin.out, hb3.out⟩
      | false =>
        go_wp2_with (first
          | (with_reducible refine wpList_load_at rfl 45 (.tmp 14) rfl Tryz.underlying45 rfl hs2 rfl hcell.out ?_)
          | (go_at_call 103; refine hcl.out.mono ?_; rintro e w2 ⟨rfl, hb2⟩; have hb3 := Lib.hid (hb.out.trans (hb2.mono hb.out.size)); clear hb2))
        go_roundw
        case rel =>
          refine ⟨k + 1, by omega, by go_num, hb3.out, fun i a hi ha => ?_⟩
          rcases Nat.lt_or_ge i k with h | h
          · exact hp.out i a h ha
          · obtain rfl : i = k := by omega
            rw [hx'.out] at ha; cases ha; exact hbv'.out
        case measure => simp [intOf]; omega
    · obtain rfl : n = k := by omega
      have hfin : Hid ((-1 : Int) = R) := by rw [← hR'.out]; exact (fIdx_none (fun i a ha => hp.out i a (by have := (List.getElem?_eq_some_iff.1 ha).1; have := hl.out; omega) ha)).symm
      go_wp2
      go_ret
      exact ⟨ret_i hfin.out, hb.out⟩

set_option maxRecDepth 100000 in
set_option maxHeartbeats 1000000 in
theorem idxQ_any (p : QV → Bool) (q : Option Addr) (n c : Nat) (l : List QV) (w : World) (h : SlOn w q n c l) (hsm : n ≤ 1000000)
    (hf : ∀ (a : QV) u, Below w.heap.size w u → Calls Tryz.prog 101 #[.agg #[.int .i64 a.res.t, .bool a.res.k, .int .u16 a.res.id, .slice a.hq a.hn a.hc, .slice a.wq a.wn a.wc]] u (fun e w' => e = .returned (.bool (p a)) ∧ Below u.heap.size u w')) :
    Calls Tryz.prog 138 #[.slice q n c, .func (.func 101) #[] #[]] w (fun e w' => e = .returned (.int .i64 (fIdx p l)) ∧ Below w.heap.size w w') := by
  have hh := Lib.hid h
  have hl := Lib.hid h.len
  have hf' := Lib.hid hf
  clear h hf
  obtain ⟨R, hR⟩ : ∃ R, fIdx p l = R := ⟨_, rfl⟩
  have hR' := Lib.hid hR
  rw [hR]
  clear hR
  go_enter Tryz.func138, Tryz.ntmps138
  go_wp2
  go_loopw [8] (fun v8 wr => ∃ k : Nat, k ≤ n ∧ v8 = .int .i64 k ∧ Hid (Below w.heap.size w wr) ∧ Hid (∀ i a, i < k → l[i]? = some a → p a = false)) (fun v8 _ => n - (intOf v8).toNat)
  case atStart => exact ⟨0, Nat.zero_le _, rfl, Below.refl _ _, fun i a hi => by omega⟩
  case round =>
    obtain ⟨k, hk, rfl, hb, hp⟩ := hrel
    by_cases hlt : k < n
    · obtain ⟨A, ⟨⟨at_, ak, ai⟩, hq, hn, hc, wq, wn, wc⟩, hqA, hx, hcA⟩ := (hh.out.below hb.out (Nat.le_refl _)).at hlt
      subst hqA
      have hcell : Hid (∀ j' v, ([.int .i64 at_, .bool ak, .int .u16 ai, .slice hq hn hc, .slice wq wn wc] : List Value)[j']? = some v → wr.cell? ((A.add (k * 5)).add j') = some v) := hcA
      have hs2 := sizeQue (.int .i64 at_) (.bool ak) (.int .u16 ai) (.slice hq hn hc) (.slice wq wn wc)
      have hx' := Lib.hid hx
      have hcl := Lib.hid (hf'.out ⟨⟨at_, ak, ai⟩, hq, hn, hc, wq, wn, wc⟩ wr hb.out)
      have i0 : (0 : Int) ≤ k := by omega
      have i1 : (k : Int) < n := by omega
      clear hx hcA
      obtain ⟨b, hbv⟩ : ∃ b, p ⟨⟨at_, ak, ai⟩, hq, hn, hc, wq, wn, wc⟩ = b := ⟨_, rfl⟩
      have hbv' := Lib.hid hbv
      rw [hbv] at hcl
      clear hbv
      cases b with
      | true =>
        have hfin : Hid ((k : Int) = R) := by rw [← hR'.out]; exact (fIdx_at hp.out hx'.out hbv'.out).symm
        go_wp2_with (first
          | (with_reducible refine wpList_load_at rfl 43 (.tmp 14) rfl Tryz.underlying43 rfl hs2 rfl hcell.out ?_)
          | (go_at_call 101; refine hcl.out.mono ?_; rintro e w2 ⟨rfl, hb2⟩; have hb3 := Lib.hid (hb.out.trans (hb2.mono hb.out.size)); clear hb2))
        go_ret
        exact ⟨ret_i hfin.out, hb3.out⟩
      | false =>
        go_wp2_with (first
          | (with_reducible refine wpList_load_at rfl 43 (.tmp 14) rfl Tryz.underlying43 rfl hs2 rfl hcell.out ?_)
          | (go_at_call 101; refine hcl.out.mono ?_; rintro e w2 ⟨rfl, hb2⟩; have hb3 := Lib.hid (hb.out.trans (hb2.mono hb.out.size)); clear hb2))
        go_roundw
        case rel =>
          refine ⟨k + 1, by omega, by go_num, hb3.out, fun i a hi ha => ?_⟩
          rcases Nat.lt_or_ge i k with h | h
          · exact hp.out i a h ha
          · obtain rfl : i = k := by omega
            rw [hx'.out] at ha; cases ha; exact hbv'.out
        case measure => simp [intOf]; omega
    · obtain rfl : n = k := by omega
      have hfin : Hid ((-1 : Int) = R) := by rw [← hR'.out]; exact (fIdx_none (fun i a ha => hp.out i a (by have := (List.getElem?_eq_some_iff.1 ha).1; have := hl.out; omega) ha)).symm
      go_wp2
      go_ret
      exact ⟨ret_i hfin.out, hb.out⟩

def waitI (ws : List WaitD) (x : Int) : Int := fIdx (fun a => a.x == x) ws
theorem waiter_any (t : Int) (k : Bool) (id : Int) (hq : Option Addr) (hn hc : Nat) (wq : Option Addr) (wn wc : Nat) (ws : List WaitD) (x : Int) (w : World) (h : SlOn w wq wn wc ws) (hsm : wn ≤ 1000000) :
    Calls Tryz.prog 89 #[.agg #[.int .i64 t, .bool k, .int .u16 id, .slice hq hn hc, .slice wq wn wc], .int .i64 x] w (fun e w' => e = .returned (.int .i64 (waitI ws x)) ∧ Below w.heap.size w w') := by
  obtain ⟨W, hW⟩ : ∃ W, (w.alloc (.cells #[.int .i64 t, .bool k, .int .u16 id, .slice hq hn hc, .slice wq wn wc] 43)).alloc (.cells #[.int .i64 x] 3) = W := ⟨_, rfl⟩
  have hbx := Lib.hid (two_boxes (xs := [.int .i64 t, .bool k, .int .u16 id, .slice hq hn hc, .slice wq wn wc]) (ys := [.int .i64 x]) hW)
  have hc' := Lib.hid (idxWaiter_any (w.heap.size + 1) (fun a => a.x == x) wq wn wc ws W (h.below hbx.out.1 (Nat.le_refl _)) hsm (fun a u hu => waiterFn_any a.x a.m a.h x _ u ((hbx.out.2.2.1.below hu (Nat.le_refl _)).cell 0 rfl)))
  have c3 := hbx.out.2.1.cell 4 rfl
  clear h
  go_enter Tryz.func89, Tryz.ntmps89
  go_wp2_with fail
  clear hW c3
  refine hc'.out.mono ?_
  rintro e w1 ⟨rfl, h1⟩
  have h1' := Lib.hid (below_step h1 hbx.out.1)
  clear h1
  go_wp2
  go_ret
  exact ⟨rfl, h1'.out⟩

def goesW (hs : List HoldD) (x : WaitD) : Bool := !hs.any (fun h => hindB h x)
theorem goesW_idx (hs : List HoldD) (x : WaitD) : (!decide (fIdx (fun a => hindB a x) hs ≥ 0)) = goesW hs x := by
  unfold goesW
  congr 1
  rcases fIdx_or (fun a => hindB a x) hs with ⟨h1, h2⟩ | ⟨k, a, h1, h2, h3, _⟩
  · rw [h1]
    have : hs.any (fun h => hindB h x) = false := List.any_eq_false.2 (fun a ha => by simp [h2 a ha])
    rw [this]
    simp
  · rw [h1]
    have : hs.any (fun h => hindB h x) = true := List.any_eq_true.2 ⟨a, List.mem_of_getElem? h2, h3⟩
    rw [this]
    simp
theorem contains_any (g : Nat) (wx wm wh : Int) (q : Option Addr) (n c : Nat) (hs : List HoldD) (w : World) (hG : LaidG w) (h : SlOn w q n c hs) (hsm : n ≤ 1000000) (hg : Boxed w g [.int .i64 wx, .int .i64 wm, .int .i64 wh]) :
    Calls Tryz.prog 111 #[.slice q n c, .func (.func 112) #[] #[.pointer (some ⟨g, 0, none⟩)]] w (fun e w' => e = .returned (.bool (!goesW hs ⟨wx, wm, wh⟩)) ∧ Below w.heap.size w w') := by
  have hc' := Lib.hid (idxGoes_any g (fun a => hindB a ⟨wx, wm, wh⟩) q n c hs w h hsm (fun a u hu => goesFn_any a.x a.m wx wm wh g u (hG.below hu) (hg.below hu (Nat.le_refl _))))
  have he := Lib.hid (goesW_idx hs ⟨wx, wm, wh⟩)
  clear hG h hg
  obtain ⟨R, hR⟩ : ∃ R, fIdx (fun a => hindB a ⟨wx, wm, wh⟩) hs = R := ⟨_, rfl⟩
  rw [hR] at hc' he
  clear hR
  go_enter Tryz.func111, Tryz.ntmps111
  go_wp2_with fail
  refine hc'.out.mono ?_
  rintro e w1 ⟨rfl, h1⟩
  have h1' := Lib.hid h1
  clear h1
  go_wp2
  go_ret
  exact ⟨ret_b (by rw [← he.out]; simp), h1'.out⟩
theorem goes_l_any (t : Int) (k : Bool) (id : Int) (hq : Option Addr) (hn hc : Nat) (wq : Option Addr) (wn wc : Nat) (hs : List HoldD) (wx wm wh : Int) (w : World) (hG : LaidG w) (h : SlOn w hq hn hc hs) (hsm : hn ≤ 1000000) :
    Calls Tryz.prog 66 #[.agg #[.int .i64 t, .bool k, .int .u16 id, .slice hq hn hc, .slice wq wn wc], .agg #[.int .i64 wx, .int .i64 wm, .int .i64 wh]] w (fun e w' => e = .returned (.bool (goesW hs ⟨wx, wm, wh⟩)) ∧ Below w.heap.size w w') := by
  obtain ⟨W, hW⟩ : ∃ W, (w.alloc (.cells #[.int .i64 t, .bool k, .int .u16 id, .slice hq hn hc, .slice wq wn wc] 43)).alloc (.cells #[.int .i64 wx, .int .i64 wm, .int .i64 wh] 47) = W := ⟨_, rfl⟩
  have hbx := Lib.hid (two_boxes (xs := [.int .i64 t, .bool k, .int .u16 id, .slice hq hn hc, .slice wq wn wc]) (ys := [.int .i64 wx, .int .i64 wm, .int .i64 wh]) hW)
  have hc' := Lib.hid (contains_any (w.heap.size + 1) wx wm wh hq hn hc hs W (hG.below hbx.out.1) (h.below hbx.out.1 (Nat.le_refl _)) hsm hbx.out.2.2.1)
  have c3 := hbx.out.2.1.cell 3 rfl
  clear h hG
  go_enter Tryz.func66, Tryz.ntmps66
  go_wp2_with fail
  clear hW c3
  refine hc'.out.mono ?_
  rintro e w1 ⟨rfl, h1⟩
  have h1' := Lib.hid (below_step h1 hbx.out.1)
  clear h1
  go_wp2
  go_ret
  exact ⟨ret_b (by simp), h1'.out⟩
end Go.Proofs.YtbgpppbcffpdbaaGreatDoor
