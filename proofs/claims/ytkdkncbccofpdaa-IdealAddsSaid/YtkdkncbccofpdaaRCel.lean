/- Things of several cells each, in a slice that is read or of the call's own; nothing of a program is claimed here. -/
import Derived.Test.YtkdkncbccofpdaaYTak
import Derived.Test.YtkdkncbccofpdaaYPlu
import Derived.Test.YtkdkncbccofpdaaYMth
import Derived.Maps.AppendAt
import Derived.Lib.SlBuf
import Derived.Lib.SliceRun
import Derived.Laws.StructEq
import Derived.Laws.OwnMore
import Derived.Handy
import Derived.IntWalk
import Derived.Lib.SmallJoins
import Derived.StillTailTactics
import Derived.BigQuiet
import Derived.Deep.QuietTactic
import Derived.Deep.RegionWith

/-! Things of several cells each, in a slice that is read or of the call's own; nothing of a program is claimed here. -/
namespace Go.Proofs.Ytkdkncbccofpdaa
open Go.RowKit

/-- things that lie in memory as so many cells -/
class Cel (α : Type) where
  cells : α → List Value
  sz : Nat
  len : ∀ r, (cells r).length = sz
  one : ∀ r, ∀ v ∈ cells r, v.oneCell' = true
  pos : 0 < sz
open Cel

section
variable {α : Type} [Cel α]

/-- the cells of a list of things, one behind the other -/
def cellsL : List α → List Value
  | [] => []
  | r :: l => cells r ++ cellsL l
theorem cellsL_len : ∀ l : List α, (cellsL l).length = l.length * sz α
  | [] => by simp [cellsL]
  | r :: l => by simp [cellsL, cellsL_len l, Cel.len, Nat.add_mul]; omega
theorem cellsL_append : ∀ l m : List α, cellsL (l ++ m) = cellsL l ++ cellsL m
  | [], m => rfl
  | r :: l, m => by simp [cellsL, cellsL_append l m]
theorem cellsL_one : ∀ l : List α, ∀ v ∈ cellsL l, v.oneCell' = true
  | [], v, h => by cases h
  | r :: l, v, h => by
    rcases List.mem_append.1 h with h | h
    · exact Cel.one r v h
    · exact cellsL_one l v h
theorem cellsL_get : ∀ (l : List α) (i : Nat) (r : α), l[i]? = some r → ∀ j x, (cells r)[j]? = some x → (cellsL l)[i * sz α + j]? = some x
  | [], i, r, h, _, _, _ => by simp at h
  | s :: l, 0, r, h, j, x, hx => by
    simp at h; subst h
    have hj : j < (cells s).length := (List.getElem?_eq_some_iff.1 hx).1
    simp only [cellsL, Nat.zero_mul, Nat.zero_add]
    rw [List.getElem?_append_left hj]; exact hx
  | s :: l, i + 1, r, h, j, x, hx => by
    simp at h
    have := cellsL_get l i r h j x hx
    simp only [cellsL]
    rw [List.getElem?_append_right (by rw [Cel.len, Nat.add_mul]; omega)]
    have e : (i + 1) * sz α + j - (cells s).length = i * sz α + j := by rw [Cel.len, Nat.add_mul]; omega
    rw [e]; exact this
theorem cellsL_get' : ∀ (l : List α) (k : Nat) (x : Value), (cellsL l)[k]? = some x → ∃ i r j, k = i * sz α + j ∧ l[i]? = some r ∧ (cells r)[j]? = some x
  | [], k, x, h => by simp [cellsL] at h
  | s :: l, k, x, h => by
    simp only [cellsL] at h
    by_cases hk : k < sz α
    · rw [List.getElem?_append_left (by rw [Cel.len]; omega)] at h
      exact ⟨0, s, k, by omega, rfl, h⟩
    · rw [List.getElem?_append_right (by rw [Cel.len]; omega), Cel.len] at h
      obtain ⟨i, r, j, h1, h2, h3⟩ := cellsL_get' l (k - sz α) x h
      exact ⟨i + 1, r, j, by rw [Nat.add_mul]; omega, by simpa using h2, h3⟩
theorem cellsL_take (l : List α) (i : Nat) : cellsL (l.take i) = (cellsL l).take (i * sz α) := by
  by_cases hi : i ≤ l.length
  · have h := cellsL_append (l.take i) (l.drop i)
    have hlen : (cellsL (l.take i)).length = i * sz α := by rw [cellsL_len, List.length_take, Nat.min_eq_left hi]
    rw [List.take_append_drop] at h
    rw [h, List.take_append_of_le_length (Nat.le_of_eq hlen.symm), List.take_of_length_le (Nat.le_of_eq hlen)]
  · have hlen : (cellsL l).length ≤ i * sz α := by rw [cellsL_len]; exact Nat.mul_le_mul_right _ (by omega)
    rw [List.take_of_length_le (show l.length ≤ i by omega), List.take_of_length_le hlen]
theorem cellsL_drop (l : List α) (i : Nat) (hi : i ≤ l.length) : cellsL (l.drop i) = (cellsL l).drop (i * sz α) := by
  have h := cellsL_append (l.take i) (l.drop i)
  have hlen : (cellsL (l.take i)).length = i * sz α := by rw [cellsL_len, List.length_take, Nat.min_eq_left hi]
  rw [List.take_append_drop] at h
  rw [h, List.drop_append_of_le_length (Nat.le_of_eq hlen.symm), List.drop_of_length_le (Nat.le_of_eq hlen), List.nil_append]

theorem cell_kept {B : Nat} {w w' : World} (hb : Below B w w') (hB : w.heap.size ≤ B) {a : Addr} {v : Value} (h : w.cell? a = some v) : w'.cell? a = some v := by
  rw [World.cell?_of_block (w := w) (hb.block _ (Nat.lt_of_lt_of_le (cell_in h) hB))]
  exact h
theorem add_block2 (a : Addr) (i j : Nat) : ((a.add i).add j).block = a.block := by unfold Addr.add; (repeat' split) <;> rfl

theorem Boxed.part {w : World} {g : Nat} {vs : List Value} (h : Boxed w g vs) {o : Nat} {ys : List Value} (hc : ∀ j v, ys[j]? = some v → vs[o + j]? = some v) : ∀ j v, ys[j]? = some v → w.cell? ((⟨g, o, none⟩ : Addr).add j) = some v := by
  intro j v hj
  have hadd : (⟨g, o, none⟩ : Addr).add j = ⟨g, o + j, none⟩ := by unfold Addr.add; split <;> simp_all
  rw [hadd]
  exact h.cell (o + j) (hc j v hj)
theorem RowV.boxed {T : TypeId} {w : World} {g : Nat} {vs : List Value} (h : RowV T w g vs) : Boxed w g vs := h.part (pre := []) (rest := []) (by simp) rfl

/-- a slice that reads as a list of things -/
structure SlOn (w : World) (q : Option Addr) (n c : Nat) (l : List α) : Prop where
  len : l.length = n
  le : n ≤ c
  cap : c ≤ maxLen
  nil : q = none → c = 0
  get : ∀ i r, l[i]? = some r → ∃ a, q = some a ∧ ∀ j x, (cells r)[j]? = some x → w.cell? ((a.add (i * sz α)).add j) = some x

theorem SlOn.none_ (w : World) : SlOn w none 0 0 ([] : List α) := ⟨rfl, Nat.le_refl _, Nat.zero_le _, fun _ => rfl, fun i r h => by simp at h⟩
theorem SlOn.below {B : Nat} {w w' : World} {q : Option Addr} {n c : Nat} {l : List α} (h : SlOn w q n c l) (hb : Below B w w') (hB : w.heap.size ≤ B) : SlOn w' q n c l :=
  ⟨h.len, h.le, h.cap, h.nil, fun i r hi => by
    obtain ⟨a, rfl, hc⟩ := h.get i r hi
    exact ⟨a, rfl, fun j x hj => cell_kept hb hB (hc j x hj)⟩⟩
theorem SlOn.at {w : World} {q : Option Addr} {n c : Nat} {l : List α} (h : SlOn w q n c l) {i : Nat} (hi : i < n) :
    ∃ a r, q = some a ∧ l[i]? = some r ∧ ∀ j x, (cells r)[j]? = some x → w.cell? ((a.add (i * sz α)).add j) = some x := by
  have hl := h.len
  have hx : l[i]? = some (l[i]'(by omega)) := List.getElem?_eq_getElem (by omega)
  obtain ⟨a, ha, hc⟩ := h.get i _ hx
  exact ⟨a, _, ha, hx, hc⟩
theorem SlOn.front {w : World} {q : Option Addr} {n c m : Nat} {l : List α} (h : SlOn w q n c l) (hm : m ≤ n) : SlOn w q m c (l.take m) :=
  ⟨by rw [List.length_take, h.len]; omega, Nat.le_trans hm h.le, h.cap, h.nil, fun i r hi => by
    rw [List.getElem?_take] at hi
    split at hi
    · exact h.get i r hi
    · cases hi⟩
/-- blocks that are unlike are unlike -/
theorem SlOn.kept {w w' : World} {q : Option Addr} {n c : Nat} {l : List α} (h : SlOn w q n c l) (hk : n ≠ 0 → ∀ a, q = some a → w'.heap[a.block]? = w.heap[a.block]?) : SlOn w' q n c l :=
  ⟨h.len, h.le, h.cap, h.nil, fun i r hi => by
    obtain ⟨a, ha, hc⟩ := h.get i r hi
    refine ⟨a, ha, fun j x hj => ?_⟩
    have hn : n ≠ 0 := by have := h.len; have := (List.getElem?_eq_some_iff.1 hi).1; omega
    rw [World.cell?_of_block (w := w) (by rw [add_block2]; exact hk hn a ha)]
    exact hc j x hj⟩
theorem SlOn.gr {w w' : World} {q : Option Addr} {n c g : Nat} {l : List α} (h : SlOn w q n c l) (hg : w.grownBy w' (some g)) (hne : ∀ a, q = some a → a.block ≠ g) : SlOn w' q n c l :=
  ⟨h.len, h.le, h.cap, h.nil, fun i r hi => by
    obtain ⟨a, ha, hc⟩ := h.get i r hi
    refine ⟨a, ha, fun j x hj => ?_⟩
    have hlt := cell_in (hc j x hj)
    rw [add_block2] at hlt
    rw [World.cell?_of_block (w := w) (by rw [add_block2]; exact hg.block _ hlt (fun e => hne a ha (by simpa using e)))]
    exact hc j x hj⟩

/-- The slice v holds just these things, in a block of its own from block base on. -/
def OwnS (T : TypeId) (w : World) (base : Nat) (v : Value) (l : List α) : Prop := w.ownsRow base T (sz α) v l.length (cellsL l)

theorem OwnS.nil (T : TypeId) (w : World) (base : Nat) : OwnS T w base (.slice none 0 0) ([] : List α) := World.ownsRow_nil w base T (sz α)
theorem OwnS.shape {T : TypeId} {w : World} {base : Nat} {v : Value} {l : List α} (h : OwnS T w base v l) : ∃ q c, v = .slice q l.length c := by
  obtain ⟨_, ⟨he, h0⟩ | ⟨g, cap, cur, he, _⟩⟩ := h
  · exact ⟨none, 0, by rw [he, h0]⟩
  · exact ⟨_, _, he⟩
theorem OwnS.len {T : TypeId} {w : World} {base : Nat} {q : Option Addr} {n c : Nat} {l : List α} (h : OwnS T w base (.slice q n c) l) : n = l.length := by
  obtain ⟨q', c', e⟩ := h.shape
  injection e
theorem OwnS.far {T : TypeId} {w : World} {base : Nat} {q : Option Addr} {n c : Nat} {l : List α} (h : OwnS T w base (.slice q n c) l) : ∀ a, q = some a → base ≤ a.block ∧ a.block < w.heap.size := by
  intro a ha
  obtain ⟨_, ⟨he, _⟩ | ⟨g, cap, cur, he, hg, hh, _⟩⟩ := h
  · simp only [Value.slice.injEq] at he; obtain ⟨rfl, _⟩ := he; cases ha
  · simp only [Value.slice.injEq] at he; obtain ⟨rfl, _⟩ := he; cases ha; exact ⟨hg, (Array.getElem?_eq_some_iff.1 hh).1⟩
theorem OwnS.kept {T : TypeId} {w w' : World} {base : Nat} {q : Option Addr} {n c : Nat} {l : List α} (h : OwnS T w base (.slice q n c) l) (hb : ∀ a, q = some a → w'.heap[a.block]? = w.heap[a.block]?) : OwnS T w' base (.slice q n c) l := by
  obtain ⟨hlen, ⟨he, h0⟩ | ⟨g, cap, cur, he, hg, hh, r⟩⟩ := h
  · exact ⟨hlen, .inl ⟨he, h0⟩⟩
  · simp only [Value.slice.injEq] at he
    obtain ⟨rfl, e2, rfl⟩ := he
    exact ⟨hlen, .inr ⟨g, c, cur, by rw [e2], hg, by rw [hb _ rfl]; exact hh, r⟩⟩
theorem OwnS.below {T : TypeId} {w w' : World} {base : Nat} {q : Option Addr} {n c : Nat} {l : List α} (h : OwnS T w base (.slice q n c) l) (hb : Below w.heap.size w w') : OwnS T w' base (.slice q n c) l :=
  h.kept fun a ha => hb.block _ (h.far a ha).2
theorem OwnS.mono {T : TypeId} {w : World} {b b' : Nat} {v : Value} {l : List α} (h : OwnS T w b v l) (hb : b' ≤ b) : OwnS T w b' v l := by
  obtain ⟨hlen, hr | ⟨g, cap, cur, he, hg, r⟩⟩ := h
  · exact ⟨hlen, .inl hr⟩
  · exact ⟨hlen, .inr ⟨g, cap, cur, he, Nat.le_trans hb hg, r⟩⟩
/-- what is owned reads as a list -/
theorem OwnS.reads {T : TypeId} {w : World} {base : Nat} {q : Option Addr} {n c : Nat} {l : List α} (h : OwnS T w base (.slice q n c) l) : SlOn w q n c l := by
  have hl := h.len
  have hc := fun g hg => World.ownsRow.cells (h := h) (g := g) hg
  obtain ⟨hlen, ⟨he, h0⟩ | ⟨g, cap, cur, he, hg, hh, hle, hm, r⟩⟩ := h
  · simp only [Value.slice.injEq] at he
    obtain ⟨rfl, rfl, rfl⟩ := he
    exact ⟨hl.symm, Nat.le_refl _, Nat.zero_le _, fun _ => rfl, fun i r hi => by rw [List.eq_nil_of_length_eq_zero hl.symm] at hi; simp at hi⟩
  · simp only [Value.slice.injEq] at he
    obtain ⟨rfl, e2, rfl⟩ := he
    refine ⟨hl.symm, by omega, hm, (fun e => by cases e), fun i r hi => ⟨_, rfl, fun j x hj => ?_⟩⟩
    rw [Go.Deep.add_add]
    exact hc g rfl _ _ (cellsL_get l i r hi j x hj)
theorem OwnS.nil_cap {T : TypeId} {w : World} {base : Nat} {n c : Nat} {l : List α} (h : OwnS T w base (.slice none n c) l) : n = 0 ∧ c = 0 ∧ l = [] := by
  have hl := h.len
  obtain ⟨_, ⟨he, h0⟩ | ⟨g, cap, cur, he, _⟩⟩ := h
  · simp only [Value.slice.injEq] at he
    obtain ⟨_, rfl, rfl⟩ := he
    exact ⟨rfl, rfl, List.eq_nil_of_length_eq_zero hl.symm⟩
  · simp only [Value.slice.injEq] at he; exact absurd he.1 (by simp)

/-- a list of the call's own, opened: the block and all of its cells -/
theorem OwnS.opened {T : TypeId} {w : World} {B : Nat} {a : Addr} {n c : Nat} {l : List α} (h : OwnS T w B (.slice (some a) n c) l) :
    ∃ g cur, a = ⟨g, 0, none⟩ ∧ B ≤ g ∧ RowV T w g cur ∧ n ≤ c ∧ c ≤ maxLen ∧ cur.length = c * sz α ∧ cur.take (n * sz α) = cellsL l := by
  have hl := h.len
  obtain ⟨hlen, ⟨he, h0⟩ | ⟨g, cap, cur, he, hg, hh, hle, hm, hs, ht⟩⟩ := h
  · simp only [Value.slice.injEq] at he; exact absurd he.1 (by simp)
  · simp only [Value.slice.injEq] at he
    obtain ⟨e1, e2, rfl⟩ := he
    cases e1
    exact ⟨g, cur.toList, rfl, hg, by unfold RowV; simpa using hh, by omega, hm, by simpa using hs, by rw [hl]; exact ht⟩
theorem OwnS.mk {T : TypeId} {w : World} {B g n c : Nat} {cur : List Value} {l : List α} (hB : B ≤ g) (hr : RowV T w g cur) (hn : n ≤ c) (hc : c ≤ maxLen) (hs : cur.length = c * sz α) (ht : cur.take (n * sz α) = cellsL l) (hl : l.length = n) : OwnS T w B (.slice (some ⟨g, 0, none⟩) n c) l := by
  subst hl
  exact ⟨cellsL_len l, .inr ⟨g, c, cur.toArray, rfl, hB, hr, hn, hc, by simpa using hs, by simpa using ht⟩⟩
theorem OwnS.empty {T : TypeId} {w w' : World} {g : Nat} (h : w.alloc (.cells #[] T) = w') (hg : w.heap.size = g) : OwnS T w' g (.slice (some ⟨g, 0, none⟩) 0 0) ([] : List α) := by
  subst h hg
  exact ⟨by simp [cellsL], .inr ⟨_, 0, #[], rfl, Nat.le_refl _, heap_alloc_new w _, Nat.le_refl _, Nat.zero_le _, by simp, by simp [cellsL]⟩⟩
/-- one thing in a block is a list of one -/
theorem OwnS.single {T : TypeId} {w : World} {g : Nat} {r : α} (h : RowV T w g (cells r)) : OwnS T w g (.slice (some ⟨g, 0, none⟩) 1 1) [r] :=
  OwnS.mk (Nat.le_refl _) h (Nat.le_refl _) (by unfold maxLen; omega) (by rw [Cel.len, Nat.one_mul]) (by rw [List.take_of_length_le (by rw [Cel.len, Nat.one_mul]; exact Nat.le_refl _)]; simp [cellsL]) rfl

/-! append onto a list of the call's own, from whatever list -/
variable {P : Program} {w : World}
theorem run_append_l {t T : TypeId} {bytes : Nat} {z : Value} (ht : P.underlying t = some (.slice T)) (hi : (P.info? T).map (fun i => (i.zero, i.size, i.bytes)) = some (some z, sz α, bytes)) (hz : z.cells.size = sz α) (ty : TypeId)
    {base : Nat} {q0 : Option Addr} {n0 c0 : Nat} {l : List α} {q : Option Addr} {m d : Nat} {ms : List α} (hown : OwnS T w base (.slice q0 n0 c0) l) (hr : SlOn w q m d ms) (hbig : (n0 + m) * bytes ≤ 140737488355328) (hbig2 : n0 + m ≤ 140737488355328) (hbase : base ≤ w.heap.size) :
    ∃ q' c' w', (Builtin.append_ #[t, t] ty #[.slice q0 n0 c0, .slice q m d]).run P w = .ok (.slice q' (n0 + m) c') w' ∧ OwnS T w' base (.slice q' (n0 + m) c') (l ++ ms) ∧ w.grownBy w' (q0.map (·.block)) ∧ (q'.map (·.block) = q0.map (·.block) ∨ q'.map (·.block) = some w.heap.size) := by
  obtain ⟨i0, hi0, hz0, hz1, hz2⟩ := info_parts hi
  have hl := hown.len
  have hm := hr.len
  subst hl
  cases q with
  | none =>
    have h0 : m = 0 := by have := hr.nil rfl; have := hr.le; omega
    subst h0
    obtain rfl := List.eq_nil_of_length_eq_zero hm
    refine ⟨q0, c0, w, ?_, by simpa using hown, ⟨rfl, rfl, rfl, Nat.le_refl _, fun _ _ _ => rfl⟩, .inl rfl⟩
    obtain ⟨hlen, ⟨he, h0⟩ | ⟨g, cap, cur, he, hg, hh, hle, hm2, r⟩⟩ := hown
    · simp only [Value.slice.injEq] at he
      obtain ⟨rfl, h1, rfl⟩ := he
      simp [Builtin.append_, run_underlying ht, sizeOf, typeInfo, hi0, Builtin.lenOf, Builtin.firstCells, h1]
    · simp only [Value.slice.injEq] at he
      obtain ⟨rfl, _, rfl⟩ := he
      simp [Builtin.append_, run_underlying ht, sizeOf, typeInfo, hi0, Builtin.lenOf, Builtin.firstCells, hle, storeCells]
  | some ad =>
    obtain ⟨v', w', hrun, hown', hg, _, hat⟩ := run_append_own_at (P := P) w base t ty T i0 z (sz α) bytes ht hi0 hz0 hz1 hz2 hz Cel.pos _ l.length (cellsL l) hown ad m d (cellsL ms) (by rw [cellsL_len, hm]) (fun j u hj => by
      obtain ⟨i, r, k, rfl, h1, h2⟩ := cellsL_get' ms j u hj
      obtain ⟨a', ha', hc⟩ := hr.get i r h1
      cases ha'
      rw [← Go.Deep.add_add]
      exact hc k u h2) (cellsL_one ms) (by unfold maxLen; omega) hbig hbase
    have hown2 : OwnS T w' base v' (l ++ ms) := by
      unfold OwnS
      rw [List.length_append, hm, cellsL_append]
      exact hown'
    obtain ⟨q', c', rfl⟩ := hown2.shape
    rw [List.length_append, hm] at hrun hown2
    exact ⟨q', c', w', hrun, hown2, by cases q0 <;> exact hg, by cases q0 <;> cases q' <;> exact hat⟩
theorem wpList_append_l {t T : TypeId} {bytes : Nat} {z : Value} (ht : P.underlying t = some (.slice T)) (hi : (P.info? T).map (fun i => (i.zero, i.size, i.bytes)) = some (some z, sz α, bytes)) (hz : z.cells.size = sz α)
    {ops : Array Oper} {rest : List Oper} {o : Oper} {a : Act} {Q : Exit → Act → World → Prop} (hgd : o.guard = none) (sl x : Operand)
    (ho : o.op = .call { callee := .builtin .append, args := #[sl, x], argTypes := #[t, t] }) {base : Nat} {q0 : Option Addr} {n0 c0 m d : Nat} {l ms : List α} {q : Option Addr} (hsl : a.eval sl = .slice q0 n0 c0) (hx : a.eval x = .slice q m d)
    (hown : OwnS T w base (.slice q0 n0 c0) l) (hr : SlOn w q m d ms) (hbig : (n0 + m) * bytes ≤ 140737488355328) (hbig2 : n0 + m ≤ 140737488355328) (hbase : base ≤ w.heap.size)
    (h : ∀ q' c' w', OwnS T w' base (.slice q' (n0 + m) c') (l ++ ms) → w.grownBy w' (q0.map (·.block)) → (q'.map (·.block) = q0.map (·.block) ∨ q'.map (·.block) = some w.heap.size) → wpList P ops Q rest (a.put o.dst (.slice q' (n0 + m) c')) w') : wpList P ops Q (o :: rest) a w := by
  obtain ⟨q', c', w', hrun, h1, h2, h3⟩ := run_append_l ht hi hz o.type hown hr hbig hbig2 hbase
  exact Lib.wpList_append_run_sl w hgd sl x t ho _ _ hsl hx hrun (h q' c' w' h1 h2 h3)
end

end Go.Proofs.Ytkdkncbccofpdaa
