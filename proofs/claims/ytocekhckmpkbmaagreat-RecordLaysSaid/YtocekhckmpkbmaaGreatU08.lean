/- Parts of the proof: Things of several cells each, in a slice that is read or of the call's own; nothing of a program is claimed here; Records: images, steps, a checkpoint's transactions and pages, and a record as a value and as what it says; Which records may be: pages that rise, a checkpoint's pages and transactions -/
import Derived.Test.YtocekhckmpkbmaaGreatU01
import Derived.Maps.AppendAt
import Derived.Lib.SlBuf
import Derived.Lib.SliceRun
import Derived.Laws.StructEq
import Derived.Laws.OwnMore
import Derived.Handy
import Derived.IntWalk
import Derived.Lib.SmallJoins
import Derived.Test.YtocekhckmpkbmaaGreatU07
import Derived.StillTailTactics
import Derived.BigQuiet
import Derived.Deep.QuietTactic
import Derived.Deep.RegionWith
namespace Go.Proofs.YtocekhckmpkbmaaGreat
open Go.RowKit
/-- things that lie in memory as so many cells -/
class Cel (α : Type) where
 cells : α → List Value
 sz : Nat
 len : ∀ r, (cells r).length = sz
 one : ∀ r, ∀ v ∈ cells r, v.oneCell' = true
 pos : 0 < sz
open Cel
section
variable {α : Type} [Cel α]
/-- the cells of a list of things, one behind the other -/
def cellsL : List α → List Value
 | [] => []
 | r :: l => cells r ++ cellsL l
theorem cellsL_len : ∀ l : List α, (cellsL l).length = l.length * sz α
 | [] => by simp [cellsL]
 | r :: l => by simp [cellsL, cellsL_len l, Cel.len, Nat.add_mul]; omega
theorem cellsL_append : ∀ l m : List α, cellsL (l ++ m) = cellsL l ++ cellsL m
 | [], m => rfl
 | r :: l, m => by simp [cellsL, cellsL_append l m]
theorem cellsL_one : ∀ l : List α, ∀ v ∈ cellsL l, v.oneCell' = true
 | [], v, h => by cases h
 | r :: l, v, h => by
   rcases List.mem_append.1 h with h | h
   · exact Cel.one r v h
   · exact cellsL_one l v h
theorem cellsL_get : ∀ (l : List α) (i : Nat) (r : α), l[i]? = some r → ∀ j x, (cells r)[j]? = some x → (cellsL l)[i * sz α + j]? = some x
 | [], i, r, h, _, _, _ => by simp at h
 | s :: l, 0, r, h, j, x, hx => by simp at h; subst h; have hj : j < (cells s).length := (List.getElem?_eq_some_iff.1 hx).1; simp only [cellsL, Nat.zero_mul, Nat.zero_add]; rw [List.getElem?_append_left hj]; exact hx
 | s :: l, i + 1, r, h, j, x, hx => by
   simp at h; have := cellsL_get l i r h j x hx; simp only [cellsL]; rw [List.getElem?_append_right (by rw [Cel.len, Nat.add_mul]; omega)]; have e : (i + 1) * sz α + j - (cells s).length = i * sz α + j := by rw [Cel.len, Nat.add_mul]; omega
   rw [e]; exact this
theorem cellsL_get' : ∀ (l : List α) (k : Nat) (x : Value), (cellsL l)[k]? = some x → ∃ i r j, k = i * sz α + j ∧ l[i]? = some r ∧ (cells r)[j]? = some x
 | [], k, x, h => by simp [cellsL] at h
 | s :: l, k, x, h => by
   simp only [cellsL] at h
   by_cases hk : k < sz α
   · rw [List.getElem?_append_left (by rw [Cel.len]; omega)] at h; exact ⟨0, s, k, by omega, rfl, h⟩
   · rw [List.getElem?_append_right (by rw [Cel.len]; omega), Cel.len] at h; obtain ⟨i, r, j, h1, h2, h3⟩ := cellsL_get' l (k - sz α) x h; exact ⟨i + 1, r, j, by rw [Nat.add_mul]; omega, by simpa using h2, h3⟩
theorem cell_kept {B : Nat} {w w' : World} (hb : Below B w w') (hB : w.heap.size ≤ B) {a : Addr} {v : Value} (h : w.cell? a = some v) : w'.cell? a = some v := by
 rw [World.cell?_of_block (w := w) (hb.block _ (Nat.lt_of_lt_of_le (cell_in h) hB))]; exact h
theorem add_block2 (a : Addr) (i j : Nat) : ((a.add i).add j).block = a.block := by unfold Addr.add; (repeat' split) <;> rfl
theorem Boxed.part {w : World} {g : Nat} {vs : List Value} (h : Boxed w g vs) {o : Nat} {ys : List Value} (hc : ∀ j v, ys[j]? = some v → vs[o + j]? = some v) : ∀ j v, ys[j]? = some v → w.cell? ((⟨g, o, none⟩ : Addr).add j) = some v := by
 intro j v hj; have hadd : (⟨g, o, none⟩ : Addr).add j = ⟨g, o + j, none⟩ := by unfold Addr.add; split <;> simp_all
 rw [hadd]; exact h.cell (o + j) (hc j v hj)
theorem RowV.boxed {T : TypeId} {w : World} {g : Nat} {vs : List Value} (h : RowV T w g vs) : Boxed w g vs := h.part (pre := []) (rest := []) (by simp) rfl
/-- a slice that reads as a list of things -/
structure SlOn (w : World) (q : Option Addr) (n c : Nat) (l : List α) : Prop where
 len : l.length = n
 le : n ≤ c
 cap : c ≤ maxLen
 nil : q = none → c = 0
 get : ∀ i r, l[i]? = some r → ∃ a, q = some a ∧ ∀ j x, (cells r)[j]? = some x → w.cell? ((a.add (i * sz α)).add j) = some x
theorem SlOn.none_ (w : World) : SlOn w none 0 0 ([] : List α) := ⟨rfl, Nat.le_refl _, Nat.zero_le _, fun _ => rfl, fun i r h => by simp at h⟩
theorem SlOn.below {B : Nat} {w w' : World} {q : Option Addr} {n c : Nat} {l : List α} (h : SlOn w q n c l) (hb : Below B w w') (hB : w.heap.size ≤ B) : SlOn w' q n c l :=
 ⟨h.len, h.le, h.cap, h.nil, fun i r hi => by
  obtain ⟨a, rfl, hc⟩ := h.get i r hi
  exact ⟨a, rfl, fun j x hj => cell_kept hb hB (hc j x hj)⟩⟩
theorem SlOn.at {w : World} {q : Option Addr} {n c : Nat} {l : List α} (h : SlOn w q n c l) {i : Nat} (hi : i < n) :
 ∃ a r, q = some a ∧ l[i]? = some r ∧ ∀ j x, (cells r)[j]? = some x → w.cell? ((a.add (i * sz α)).add j) = some x := by
 have hl := h.len; have hx : l[i]? = some (l[i]'(by omega)) := List.getElem?_eq_getElem (by omega); obtain ⟨a, ha, hc⟩ := h.get i _ hx; exact ⟨a, _, ha, hx, hc⟩
theorem SlOn.front {w : World} {q : Option Addr} {n c m : Nat} {l : List α} (h : SlOn w q n c l) (hm : m ≤ n) : SlOn w q m c (l.take m) :=
 ⟨by rw [List.length_take, h.len]; omega, Nat.le_trans hm h.le, h.cap, h.nil, fun i r hi => by
  rw [List.getElem?_take] at hi
  split at hi
  · exact h.get i r hi
  · cases hi⟩
/-- blocks that are unlike are unlike -/
theorem SlOn.kept {w w' : World} {q : Option Addr} {n c : Nat} {l : List α} (h : SlOn w q n c l) (hk : n ≠ 0 → ∀ a, q = some a → w'.heap[a.block]? = w.heap[a.block]?) : SlOn w' q n c l :=
 ⟨h.len, h.le, h.cap, h.nil, fun i r hi => by
  obtain ⟨a, ha, hc⟩ := h.get i r hi; refine ⟨a, ha, fun j x hj => ?_⟩; have hn : n ≠ 0 := by have := h.len; have := (List.getElem?_eq_some_iff.1 hi).1; omega
  rw [World.cell?_of_block (w := w) (by rw [add_block2]; exact hk hn a ha)]
  exact hc j x hj⟩
theorem SlOn.gr {w w' : World} {q : Option Addr} {n c g : Nat} {l : List α} (h : SlOn w q n c l) (hg : w.grownBy w' (some g)) (hne : ∀ a, q = some a → a.block ≠ g) : SlOn w' q n c l :=
 ⟨h.len, h.le, h.cap, h.nil, fun i r hi => by
  obtain ⟨a, ha, hc⟩ := h.get i r hi; refine ⟨a, ha, fun j x hj => ?_⟩; have hlt := cell_in (hc j x hj); rw [add_block2] at hlt; rw [World.cell?_of_block (w := w) (by rw [add_block2]; exact hg.block _ hlt (fun e => hne a ha (by simpa using e)))]
  exact hc j x hj⟩
/-- The slice v holds just these things, in a block of its own from block base on. -/
def OwnS (T : TypeId) (w : World) (base : Nat) (v : Value) (l : List α) : Prop := w.ownsRow base T (sz α) v l.length (cellsL l)
theorem OwnS.nil (T : TypeId) (w : World) (base : Nat) : OwnS T w base (.slice none 0 0) ([] : List α) := World.ownsRow_nil w base T (sz α)
theorem OwnS.shape {T : TypeId} {w : World} {base : Nat} {v : Value} {l : List α} (h : OwnS T w base v l) : ∃ q c, v = .slice q l.length c := by
 obtain ⟨_, ⟨he, h0⟩ | ⟨g, cap, cur, he, _⟩⟩ := h
 · exact ⟨none, 0, by rw [he, h0]⟩
 · exact ⟨_, _, he⟩
theorem OwnS.len {T : TypeId} {w : World} {base : Nat} {q : Option Addr} {n c : Nat} {l : List α} (h : OwnS T w base (.slice q n c) l) : n = l.length := by
 obtain ⟨q', c', e⟩ := h.shape
 injection e
theorem OwnS.far {T : TypeId} {w : World} {base : Nat} {q : Option Addr} {n c : Nat} {l : List α} (h : OwnS T w base (.slice q n c) l) : ∀ a, q = some a → base ≤ a.block ∧ a.block < w.heap.size := by
 intro a ha; obtain ⟨_, ⟨he, _⟩ | ⟨g, cap, cur, he, hg, hh, _⟩⟩ := h
 · simp only [Value.slice.injEq] at he; obtain ⟨rfl, _⟩ := he; cases ha
 · simp only [Value.slice.injEq] at he; obtain ⟨rfl, _⟩ := he; cases ha; exact ⟨hg, (Array.getElem?_eq_some_iff.1 hh).1⟩
theorem OwnS.kept {T : TypeId} {w w' : World} {base : Nat} {q : Option Addr} {n c : Nat} {l : List α} (h : OwnS T w base (.slice q n c) l) (hb : ∀ a, q = some a → w'.heap[a.block]? = w.heap[a.block]?) : OwnS T w' base (.slice q n c) l := by
 obtain ⟨hlen, ⟨he, h0⟩ | ⟨g, cap, cur, he, hg, hh, r⟩⟩ := h
 · exact ⟨hlen, .inl ⟨he, h0⟩⟩
 · simp only [Value.slice.injEq] at he; obtain ⟨rfl, e2, rfl⟩ := he; exact ⟨hlen, .inr ⟨g, c, cur, by rw [e2], hg, by rw [hb _ rfl]; exact hh, r⟩⟩
theorem OwnS.below {T : TypeId} {w w' : World} {base : Nat} {q : Option Addr} {n c : Nat} {l : List α} (h : OwnS T w base (.slice q n c) l) (hb : Below w.heap.size w w') : OwnS T w' base (.slice q n c) l :=
 h.kept fun a ha => hb.block _ (h.far a ha).2
theorem OwnS.mono {T : TypeId} {w : World} {b b' : Nat} {v : Value} {l : List α} (h : OwnS T w b v l) (hb : b' ≤ b) : OwnS T w b' v l := by
 obtain ⟨hlen, hr | ⟨g, cap, cur, he, hg, r⟩⟩ := h
 · exact ⟨hlen, .inl hr⟩
 · exact ⟨hlen, .inr ⟨g, cap, cur, he, Nat.le_trans hb hg, r⟩⟩
/-- what is owned reads as a list -/
theorem OwnS.reads {T : TypeId} {w : World} {base : Nat} {q : Option Addr} {n c : Nat} {l : List α} (h : OwnS T w base (.slice q n c) l) : SlOn w q n c l := by
 have hl := h.len; have hc := fun g hg => World.ownsRow.cells (h := h) (g := g) hg
 obtain ⟨hlen, ⟨he, h0⟩ | ⟨g, cap, cur, he, hg, hh, hle, hm, r⟩⟩ := h
 · simp only [Value.slice.injEq] at he; obtain ⟨rfl, rfl, rfl⟩ := he; exact ⟨hl.symm, Nat.le_refl _, Nat.zero_le _, fun _ => rfl, fun i r hi => by rw [List.eq_nil_of_length_eq_zero hl.symm] at hi; simp at hi⟩
 · simp only [Value.slice.injEq] at he; obtain ⟨rfl, e2, rfl⟩ := he; refine ⟨hl.symm, by omega, hm, (fun e => by cases e), fun i r hi => ⟨_, rfl, fun j x hj => ?_⟩⟩; rw [Go.Deep.add_add]; exact hc g rfl _ _ (cellsL_get l i r hi j x hj)
theorem OwnS.nil_cap {T : TypeId} {w : World} {base : Nat} {n c : Nat} {l : List α} (h : OwnS T w base (.slice none n c) l) : n = 0 ∧ c = 0 ∧ l = [] := by
 have hl := h.len; obtain ⟨_, ⟨he, h0⟩ | ⟨g, cap, cur, he, _⟩⟩ := h
 · simp only [Value.slice.injEq] at he; obtain ⟨_, rfl, rfl⟩ := he; exact ⟨rfl, rfl, List.eq_nil_of_length_eq_zero hl.symm⟩
 · simp only [Value.slice.injEq] at he; exact absurd he.1 (by simp)
/-- a list of the call's own, opened: the block and all of its cells -/
theorem OwnS.opened {T : TypeId} {w : World} {B : Nat} {a : Addr} {n c : Nat} {l : List α} (h : OwnS T w B (.slice (some a) n c) l) :
 ∃ g cur, a = ⟨g, 0, none⟩ ∧ B ≤ g ∧ RowV T w g cur ∧ n ≤ c ∧ c ≤ maxLen ∧ cur.length = c * sz α ∧ cur.take (n * sz α) = cellsL l := by
 have hl := h.len; obtain ⟨hlen, ⟨he, h0⟩ | ⟨g, cap, cur, he, hg, hh, hle, hm, hs, ht⟩⟩ := h
 · simp only [Value.slice.injEq] at he; exact absurd he.1 (by simp)
 · simp only [Value.slice.injEq] at he; obtain ⟨e1, e2, rfl⟩ := he; cases e1; exact ⟨g, cur.toList, rfl, hg, by unfold RowV; simpa using hh, by omega, hm, by simpa using hs, by rw [hl]; exact ht⟩
theorem OwnS.mk {T : TypeId} {w : World} {B g n c : Nat} {cur : List Value} {l : List α} (hB : B ≤ g) (hr : RowV T w g cur) (hn : n ≤ c) (hc : c ≤ maxLen) (hs : cur.length = c * sz α) (ht : cur.take (n * sz α) = cellsL l) (hl : l.length = n) : OwnS T w B (.slice (some ⟨g, 0, none⟩) n c) l := by
 subst hl; exact ⟨cellsL_len l, .inr ⟨g, c, cur.toArray, rfl, hB, hr, hn, hc, by simpa using hs, by simpa using ht⟩⟩
theorem OwnS.empty {T : TypeId} {w w' : World} {g : Nat} (h : w.alloc (.cells #[] T) = w') (hg : w.heap.size = g) : OwnS T w' g (.slice (some ⟨g, 0, none⟩) 0 0) ([] : List α) := by
 subst h hg; exact ⟨by simp [cellsL], .inr ⟨_, 0, #[], rfl, Nat.le_refl _, heap_alloc_new w _, Nat.le_refl _, Nat.zero_le _, by simp, by simp [cellsL]⟩⟩
/-- one thing in a block is a list of one -/
theorem OwnS.single {T : TypeId} {w : World} {g : Nat} {r : α} (h : RowV T w g (cells r)) : OwnS T w g (.slice (some ⟨g, 0, none⟩) 1 1) [r] :=
 OwnS.mk (Nat.le_refl _) h (Nat.le_refl _) (by unfold maxLen; omega) (by rw [Cel.len, Nat.one_mul]) (by rw [List.take_of_length_le (by rw [Cel.len, Nat.one_mul]; exact Nat.le_refl _)]; simp [cellsL]) rfl
/-! append onto a list of the call's own, from whatever list -/
variable {P : Program} {w : World}
theorem run_append_l {t T : TypeId} {bytes : Nat} {z : Value} (ht : P.underlying t = some (.slice T)) (hi : (P.info? T).map (fun i => (i.zero, i.size, i.bytes)) = some (some z, sz α, bytes)) (hz : z.cells.size = sz α) (ty : TypeId)
 {base : Nat} {q0 : Option Addr} {n0 c0 : Nat} {l : List α} {q : Option Addr} {m d : Nat} {ms : List α} (hown : OwnS T w base (.slice q0 n0 c0) l) (hr : SlOn w q m d ms) (hbig : (n0 + m) * bytes ≤ 140737488355328) (hbig2 : n0 + m ≤ 140737488355328) (hbase : base ≤ w.heap.size) :
 ∃ q' c' w', (Builtin.append_ #[t, t] ty #[.slice q0 n0 c0, .slice q m d]).run P w = .ok (.slice q' (n0 + m) c') w' ∧ OwnS T w' base (.slice q' (n0 + m) c') (l ++ ms) ∧ w.grownBy w' (q0.map (·.block)) ∧ (q'.map (·.block) = q0.map (·.block) ∨ q'.map (·.block) = some w.heap.size) := by
 obtain ⟨i0, hi0, hz0, hz1, hz2⟩ := info_parts hi; have hl := hown.len; have hm := hr.len; subst hl; cases q with
 | none =>
   have h0 : m = 0 := by have := hr.nil rfl; have := hr.le; omega
   subst h0; obtain rfl := List.eq_nil_of_length_eq_zero hm; refine ⟨q0, c0, w, ?_, by simpa using hown, ⟨rfl, rfl, rfl, Nat.le_refl _, fun _ _ _ => rfl⟩, .inl rfl⟩; obtain ⟨hlen, ⟨he, h0⟩ | ⟨g, cap, cur, he, hg, hh, hle, hm2, r⟩⟩ := hown
   · simp only [Value.slice.injEq] at he; obtain ⟨rfl, h1, rfl⟩ := he; simp [Builtin.append_, run_underlying ht, sizeOf, typeInfo, hi0, Builtin.lenOf, Builtin.firstCells, h1]
   · simp only [Value.slice.injEq] at he; obtain ⟨rfl, _, rfl⟩ := he; simp [Builtin.append_, run_underlying ht, sizeOf, typeInfo, hi0, Builtin.lenOf, Builtin.firstCells, hle, storeCells]
 | some ad =>
   obtain ⟨v', w', hrun, hown', hg, _, hat⟩ := run_append_own_at (P := P) w base t ty T i0 z (sz α) bytes ht hi0 hz0 hz1 hz2 hz Cel.pos _ l.length (cellsL l) hown ad m d (cellsL ms) (by rw [cellsL_len, hm]) (fun j u hj => by
    obtain ⟨i, r, k, rfl, h1, h2⟩ := cellsL_get' ms j u hj; obtain ⟨a', ha', hc⟩ := hr.get i r h1; cases ha'; rw [← Go.Deep.add_add]
    exact hc k u h2) (cellsL_one ms) (by unfold maxLen; omega) hbig hbase
   have hown2 : OwnS T w' base v' (l ++ ms) := by unfold OwnS; rw [List.length_append, hm, cellsL_append]; exact hown'
   obtain ⟨q', c', rfl⟩ := hown2.shape; rw [List.length_append, hm] at hrun hown2; exact ⟨q', c', w', hrun, hown2, by cases q0 <;> exact hg, by cases q0 <;> cases q' <;> exact hat⟩
theorem wpList_append_l {t T : TypeId} {bytes : Nat} {z : Value} (ht : P.underlying t = some (.slice T)) (hi : (P.info? T).map (fun i => (i.zero, i.size, i.bytes)) = some (some z, sz α, bytes)) (hz : z.cells.size = sz α)
 {ops : Array Oper} {rest : List Oper} {o : Oper} {a : Act} {Q : Exit → Act → World → Prop} (hgd : o.guard = none) (sl x : Operand)
 (ho : o.op = .call { callee := .builtin .append, args := #[sl, x], argTypes := #[t, t] }) {base : Nat} {q0 : Option Addr} {n0 c0 m d : Nat} {l ms : List α} {q : Option Addr} (hsl : a.eval sl = .slice q0 n0 c0) (hx : a.eval x = .slice q m d)
 (hown : OwnS T w base (.slice q0 n0 c0) l) (hr : SlOn w q m d ms) (hbig : (n0 + m) * bytes ≤ 140737488355328) (hbig2 : n0 + m ≤ 140737488355328) (hbase : base ≤ w.heap.size)
 (h : ∀ q' c' w', OwnS T w' base (.slice q' (n0 + m) c') (l ++ ms) → w.grownBy w' (q0.map (·.block)) → (q'.map (·.block) = q0.map (·.block) ∨ q'.map (·.block) = some w.heap.size) → wpList P ops Q rest (a.put o.dst (.slice q' (n0 + m) c')) w') : wpList P ops Q (o :: rest) a w := by
 obtain ⟨q', c', w', hrun, h1, h2, h3⟩ := run_append_l ht hi hz o.type hown hr hbig hbig2 hbase; exact Lib.wpList_append_run_sl w hgd sl x t ho _ _ hsl hx hrun (h q' c' w' h1 h2 h3)
end
end Go.Proofs.YtocekhckmpkbmaaGreat
namespace Go.Proofs.YtocekhckmpkbmaaGreat
open Go.RowKit
/-! contents as values -/
structure CV where
 k : Int
 rq : Option Addr
 rn : Nat
 rc : Nat
 kq : Option Addr
 kn : Nat
 kc : Nat
abbrev CV.val (v : CV) : Value := .agg #[.int .i64 v.k, .slice v.rq v.rn v.rc, .slice v.kq v.kn v.kc]
abbrev CV.cells (v : CV) : List Value := [.int .i64 v.k, .slice v.rq v.rn v.rc, .slice v.kq v.kn v.kc]
def CV.On (v : CV) (w : World) (c : ContD) : Prop := ContOn w v.k v.rq v.rn v.rc v.kq v.kn v.kc c
theorem CV.On.below {B : Nat} {w w' : World} {v : CV} {c : ContD} (h : v.On w c) (hb : Below B w w') (hB : w.heap.size ≤ B) : v.On w' c := ContOn.below h hb hB
theorem bool_of (p : Prop) : ∃ b : Bool, (b = true ↔ p) := by
 by_cases h : p
 · exact ⟨true, by simp [h]⟩
 · exact ⟨false, by simp [h]⟩
theorem b_false {b : Bool} {p : Prop} (h : b = true ↔ p) (hp : ¬ p) : b = false := by
 cases b
 · rfl
 · exact absurd (h.1 rfl) hp
/-! what records say -/
structure ImgD where
 page : Int
 bef : ContD
 aft : ContD
structure StepD where
 kind : Int
 row : RowD
 by_ : Int
structure TxnD where
 txn : Int
 first : Int
 last : Int
 undo : Int
 state : Int
structure PgD where
 page : Int
 rec_ : Int
structure RecD where
 kind : Int
 lsn : Int
 txn : Int
 prev : Int
 next : Int
 images : List ImgD
 steps : List StepD
 nextTxn : Int
 txns : List TxnD
 dirty : List PgD
def U64 (x : Int) : Prop := 0 ≤ x ∧ x < 18446744073709551616
structure StepOk (s : StepD) : Prop where
 kind : I64 s.kind
 row : RowOk s.row
 by_ : I64 s.by_
structure TxnOk (t : TxnD) : Prop where
 txn : I64 t.txn
 first : U64 t.first
 last : U64 t.last
 undo : U64 t.undo
 state : I64 t.state
structure PgOk (p : PgD) : Prop where
 page : I64 p.page
 rec_ : U64 p.rec_
/-! and as values -/
structure ImgV where
 page : Int
 bef : CV
 aft : CV
theorem one_all {l : List Value} (h : l.all (fun v => v.oneCell') = true) : ∀ v ∈ l, v.oneCell' = true := fun v hv => List.all_eq_true.1 h v hv
instance : Cel ImgV where
 cells v := [.int .i64 v.page, .int .i64 v.bef.k, .slice v.bef.rq v.bef.rn v.bef.rc, .slice v.bef.kq v.bef.kn v.bef.kc, .int .i64 v.aft.k, .slice v.aft.rq v.aft.rn v.aft.rc, .slice v.aft.kq v.aft.kn v.aft.kc]
 sz := 7
 len _ := rfl
 pos := by decide
 one _ := one_all rfl
instance : Cel StepD where
 cells s := [.int .i64 s.kind, .int .i64 s.row.key.t, .int .u16 s.row.key.id, .int .i64 s.row.val, .string s.row.note, .int .i64 s.by_]
 sz := 6
 len _ := rfl
 pos := by decide
 one _ := one_all rfl
instance : Cel TxnD where
 cells t := [.int .i64 t.txn, .int .u64 t.first, .int .u64 t.last, .int .u64 t.undo, .int .i64 t.state]
 sz := 5
 len _ := rfl
 pos := by decide
 one _ := one_all rfl
instance : Cel PgD where
 cells p := [.int .i64 p.page, .int .u64 p.rec_]
 sz := 2
 len _ := rfl
 pos := by decide
 one _ := one_all rfl
/-- images as values, and as what they say, in a world -/
structure ImgOn (w : World) (v : ImgV) (d : ImgD) : Prop where
 page : v.page = d.page
 pok : I64 d.page
 bef : v.bef.On w d.bef
 aft : v.aft.On w d.aft
theorem ImgOn.below {B : Nat} {w w' : World} {v : ImgV} {d : ImgD} (h : ImgOn w v d) (hb : Below B w w') (hB : w.heap.size ≤ B) : ImgOn w' v d := ⟨h.page, h.pok, h.bef.below hb hB, h.aft.below hb hB⟩
structure ImgsOn (w : World) (q : Option Addr) (n c : Nat) (V : List ImgV) (L : List ImgD) : Prop where
 on : SlOn w q n c V
 len : V.length = L.length
 get : ∀ (i : Nat) v d, V[i]? = some v → L[i]? = some d → ImgOn w v d
theorem ImgsOn.below {B : Nat} {w w' : World} {q : Option Addr} {n c : Nat} {V : List ImgV} {L : List ImgD} (h : ImgsOn w q n c V L) (hb : Below B w w') (hB : w.heap.size ≤ B) : ImgsOn w' q n c V L :=
 ⟨h.on.below hb hB, h.len, fun i v d hv hd => (h.get i v d hv hd).below hb hB⟩
theorem ImgsOn.at {w : World} {q : Option Addr} {n c : Nat} {V : List ImgV} {L : List ImgD} (h : ImgsOn w q n c V L) {i : Nat} (hi : i < n) :
 ∃ a v d, q = some a ∧ V[i]? = some v ∧ L[i]? = some d ∧ ImgOn w v d ∧ ∀ j x, (Cel.cells v)[j]? = some x → w.cell? ((a.add (i * 7)).add j) = some x := by
 have hl := h.on.len; have hx : V[i]? = some (V[i]'(by omega)) := List.getElem?_eq_getElem (by omega); have hd : L[i]? = some (L[i]'(by have := h.len; omega)) := List.getElem?_eq_getElem (by have := h.len; omega); obtain ⟨a, ha, hc⟩ := h.on.get i _ hx; exact ⟨a, _, _, ha, hx, hd, h.get i _ _ hx hd, hc⟩
/-- a record's value -/
structure RecV where
 kind : Int
 lsn : Int
 txn : Int
 prev : Int
 next : Int
 iq : Option Addr
 im : Nat
 ic : Nat
 sq : Option Addr
 sn : Nat
 sc : Nat
 nextTxn : Int
 tq : Option Addr
 tn : Nat
 tc : Nat
 dq : Option Addr
 dn : Nat
 dc : Nat
abbrev RecV.cells (v : RecV) : List Value := [.int .i64 v.kind, .int .u64 v.lsn, .int .i64 v.txn, .int .u64 v.prev, .int .u64 v.next, .slice v.iq v.im v.ic, .slice v.sq v.sn v.sc, .int .i64 v.nextTxn, .slice v.tq v.tn v.tc, .slice v.dq v.dn v.dc]
abbrev RecV.val (v : RecV) : Value := .agg #[.int .i64 v.kind, .int .u64 v.lsn, .int .i64 v.txn, .int .u64 v.prev, .int .u64 v.next, .slice v.iq v.im v.ic, .slice v.sq v.sn v.sc, .int .i64 v.nextTxn, .slice v.tq v.tn v.tc, .slice v.dq v.dn v.dc]
structure RecV.On (v : RecV) (w : World) (V : List ImgV) (r : RecD) : Prop where
 kind : v.kind = r.kind
 lsn : v.lsn = r.lsn
 txn : v.txn = r.txn
 prev : v.prev = r.prev
 next : v.next = r.next
 nextTxn : v.nextTxn = r.nextTxn
 ints : I64 r.kind ∧ U64 r.lsn ∧ I64 r.txn ∧ U64 r.prev ∧ U64 r.next ∧ I64 r.nextTxn
 images : ImgsOn w v.iq v.im v.ic V r.images
 steps : SlOn w v.sq v.sn v.sc r.steps
 txns : SlOn w v.tq v.tn v.tc r.txns
 dirty : SlOn w v.dq v.dn v.dc r.dirty
 sok : ∀ s ∈ r.steps, StepOk s
 tok : ∀ t ∈ r.txns, TxnOk t
 dok : ∀ p ∈ r.dirty, PgOk p
theorem RecV.On.below {B : Nat} {w w' : World} {v : RecV} {V : List ImgV} {r : RecD} (h : v.On w V r) (hb : Below B w w') (hB : w.heap.size ≤ B) : v.On w' V r :=
 ⟨h.kind, h.lsn, h.txn, h.prev, h.next, h.nextTxn, h.ints, h.images.below hb hB, h.steps.below hb hB, h.txns.below hb hB, h.dirty.below hb hB, h.sok, h.tok, h.dok⟩
theorem RecV.one (v : RecV) : ∀ x ∈ v.cells, x.oneCell' = true := one_all rfl
theorem sizeRec (v : RecV) : (Tryz.prog.info? 30).map (·.size) = some v.cells.length := by kernel_rfl
theorem sizeImg (v : ImgV) : (Tryz.prog.info? 62).map (·.size) = some (Cel.cells v).length := by kernel_rfl
theorem sizeStep (s : StepD) : (Tryz.prog.info? 70).map (·.size) = some (Cel.cells s).length := by kernel_rfl
theorem sizeTxn (t : TxnD) : (Tryz.prog.info? 82).map (·.size) = some (Cel.cells t).length := by kernel_rfl
theorem sizePg (p : PgD) : (Tryz.prog.info? 85).map (·.size) = some (Cel.cells p).length := by kernel_rfl
/-! numbered, chained -/
def numB (x : Int) : Bool := decide (1 ≤ x) && decide (x ≤ 1073741824)
set_option maxRecDepth 100000 in
set_option maxHeartbeats 1000000 in
theorem numbered_any (x : Int) (w : World) : Calls Tryz.prog 61 #[.int .i64 x] w (fun e w' => e = .returned (.bool (numB x)) ∧ w' = w) := by
 unfold numB
 go_enter Tryz.func61, Tryz.ntmps61
 by_cases h1 : 1 ≤ x
 · have d1 : decide (1 ≤ x) = true := decide_eq_true h1; rw [d1]; go_wp2; go_ret; exact ⟨by simp, rfl⟩
 · have d1 : decide (1 ≤ x) = false := decide_eq_false h1; rw [d1]; go_wp2; go_ret; exact ⟨by simp, rfl⟩
def chainB (r : RecD) : Bool := numB r.txn && (decide (1 ≤ r.prev) && decide (r.prev < r.lsn))
set_option maxRecDepth 100000 in
set_option maxHeartbeats 2000000 in
theorem chained_any (v : RecV) (V : List ImgV) (r : RecD) (w : World) (h : v.On w V r) :
 Calls Tryz.prog 62 #[v.val] w (fun e w' => e = .returned (.bool (chainB r)) ∧ Below w.heap.size w w') := by
 have e1 := h.txn; have e2 := h.prev; have e3 := h.lsn; have hs := lh (v.one); obtain ⟨W, hW⟩ : ∃ W, w.alloc (.cells v.cells.toArray 30) = W := ⟨_, rfl⟩; have hbx := lh (one_box hW); obtain ⟨kind, lsn, txn, prev, next, iq, im, ic, sq, sn, sc, nextTxn, tq, tn, tc, dq, dn, dc⟩ := v; simp only at e1 e2 e3; have c1 := hbx.out.2.1.cell 1 rfl; have c2 := hbx.out.2.1.cell 2 rfl; have c3 := hbx.out.2.1.cell 3 rfl; unfold chainB; rw [← e1, ← e2, ← e3]; have hW : w.alloc (.cells #[.int .i64 kind, .int .u64 lsn, .int .i64 txn, .int .u64 prev, .int .u64 next, .slice iq im ic, .slice sq sn sc, .int .i64 nextTxn, .slice tq tn tc, .slice dq dn dc] 30) = W := hW; obtain ⟨B, hB⟩ : ∃ B, numB txn = B := ⟨_, rfl⟩; have hnu := lh (numbered_any txn W); rw [hB] at hnu; rw [hB]; clear h e1 e2 e3 hB; show Calls _ _ #[.agg #[.int .i64 kind, .int .u64 lsn, .int .i64 txn, .int .u64 prev, .int .u64 next, .slice iq im ic, .slice sq sn sc, .int .i64 nextTxn, .slice tq tn tc, .slice dq dn dc]] _ _
 go_enter Tryz.func62, Tryz.ntmps62
 cases B with
 | false =>
   go_wp2_with fail
   refine hnu.out.mono ?_; rintro e w1 ⟨rfl, rfl⟩; go_wp2; go_ret; exact ⟨rfl, hbx.out.1⟩
 | true =>
   by_cases h1 : 1 ≤ prev
   · have d1 : decide (1 ≤ prev) = true := decide_eq_true h1; rw [d1]
     go_wp2_with fail
     refine hnu.out.mono ?_; rintro e w1 ⟨rfl, rfl⟩; go_wp2; go_ret; exact ⟨by simp, hbx.out.1⟩
   · have d1 : decide (1 ≤ prev) = false := decide_eq_false h1; rw [d1]
     go_wp2_with fail
     refine hnu.out.mono ?_; rintro e w1 ⟨rfl, rfl⟩; go_wp2; go_ret; exact ⟨by simp, hbx.out.1⟩
end Go.Proofs.YtocekhckmpkbmaaGreat
namespace Go.Proofs.YtocekhckmpkbmaaGreat
open Go.RowKit
/-- pages rise from behind one on, and are pages -/
def riseF : Int → List Int → Bool
 | _, [] => true
 | a, p :: r => if p ≤ a ∨ 64 ≤ p then false else riseF p r
theorem riseF_at {L : List Int} {k : Nat} {p a : Int} (h : L[k]? = some p) : riseF a (L.drop k) = if p ≤ a ∨ 64 ≤ p then false else riseF p (L.drop (k + 1)) := by
 obtain ⟨hl, rfl⟩ := List.getElem?_eq_some_iff.1 h; rw [List.drop_eq_getElem_cons hl]; rfl
theorem riseF_end {L : List Int} {a : Int} : riseF a (L.drop L.length) = true := by rw [List.drop_length]; rfl
set_option maxRecDepth 100000 in
set_option maxHeartbeats 1000000 in
theorem pageImg_any (p k1 : Int) (q1 : Option Addr) (n1 c1 : Nat) (q2 : Option Addr) (n2 c2 : Nat) (k3 : Int) (q3 : Option Addr) (n3 c3 : Nat) (q4 : Option Addr) (n4 c4 : Nat) (w : World) : Calls Tryz.prog 88 #[.agg #[.int .i64 p, .int .i64 k1, .slice q1 n1 c1, .slice q2 n2 c2, .int .i64 k3, .slice q3 n3 c3, .slice q4 n4 c4]] w (fun e w' => e = .returned (.int .i64 p) ∧ Below w.heap.size w w') := by
 obtain ⟨W, hW⟩ : ∃ W, w.alloc (.cells #[.int .i64 p, .int .i64 k1, .slice q1 n1 c1, .slice q2 n2 c2, .int .i64 k3, .slice q3 n3 c3, .slice q4 n4 c4] 62) = W := ⟨_, rfl⟩; have hbx := lh (one_box hW); have e0 := hbx.out.2.1.cell 0 rfl
 go_enter Tryz.func88, Tryz.ntmps88
 go_wp2; go_ret; exact ⟨rfl, hbx.out.1⟩
set_option maxRecDepth 100000 in
set_option maxHeartbeats 4000000 in
theorem riseImg_any (q : Option Addr) (n c : Nat) (V : List ImgV) (L : List ImgD) (w : World) (h : ImgsOn w q n c V L) (hm : n ≤ maxLen) :
 Calls Tryz.prog 87 #[.slice q n c, .func (.func 88) #[] #[]] w (fun e w' => e = .returned (.bool (riseF (-1) (L.map (·.page)))) ∧ Below w.heap.size w w') := by
 have hh := lh h; have hl : Hid (L.length = n) := by have h1 := h.len; have h2 := h.on.len; show L.length = n; omega
 unfold maxLen at hm; obtain ⟨B, hB⟩ : ∃ B, riseF (-1) (L.map (·.page)) = B := ⟨_, rfl⟩; have hB' := lh hB; rw [hB]; clear h hB
 go_enter Tryz.func87, Tryz.ntmps87
 go_wp2
 go_loopw [5, 10] (fun v5 v10 wr => ∃ (j : Nat) (a : Int), j ≤ n ∧ v10 = .int .i64 j ∧ v5 = .int .i64 a ∧ Hid (Below w.heap.size w wr) ∧ Hid (riseF a ((L.map (·.page)).drop j) = B)) (fun _ v10 _ => n - (RowKit.intOf v10).toNat)
 case atStart => exact ⟨0, -1, Nat.zero_le _, rfl, rfl, (show Below _ _ _ from Below.refl _ _), hB'.out⟩
 case round =>
  obtain ⟨j, a, hj, rfl, rfl, hd, hr⟩ := hrel
  by_cases hlt : j < n
  · obtain ⟨A, ⟨p, ⟨k1, q1, n1, c1, q2, n2, c2⟩, ⟨k3, q3, n3, c3, q4, n4, c4⟩⟩, d, hqA, hx, hdx, hon, hcA⟩ := (hh.out.below hd.out (Nat.le_refl _)).at hlt; subst hqA; have hcA : Hid (∀ j' x, ([.int .i64 p, .int .i64 k1, .slice q1 n1 c1, .slice q2 n2 c2, .int .i64 k3, .slice q3 n3 c3, .slice q4 n4 c4] : List Value)[j']? = some x → wr.cell? ((A.add (j * 7)).add j') = some x) := hcA; have hs : (Tryz.prog.info? 62).map (·.size) = some [Value.int .i64 p, Value.int .i64 k1, Value.slice q1 n1 c1, Value.slice q2 n2 c2, Value.int .i64 k3, Value.slice q3 n3 c3, Value.slice q4 n4 c4].length := sizeImg ⟨p, ⟨k1, q1, n1, c1, q2, n2, c2⟩, ⟨k3, q3, n3, c3, q4, n4, c4⟩⟩; have hx' : Hid ((L.map (·.page))[j]? = some p) := by show _ = _; rw [List.getElem?_map, hdx]; exact congrArg some hon.page.symm
    obtain ⟨w2, hw2⟩ : ∃ x, wr.alloc (.cells #[.int .i64 p, .int .i64 k1, .slice q1 n1 c1, .slice q2 n2 c2, .int .i64 k3, .slice q3 n3 c3, .slice q4 n4 c4] 62) = x := ⟨_, rfl⟩; have hbk := lh (one_box hw2); have hd2 := lh (below_step hbk.out.1 hd.out); have hpg := lh (fun u => pageImg_any p k1 q1 n1 c1 q2 n2 c2 k3 q3 n3 c3 q4 n4 c4 u); have i0 : (0 : Int) ≤ j := by omega
    have i1 : (j : Int) < n := by omega
    have hstep := hr.out; rw [riseF_at hx'.out] at hstep; have hstep := lh hstep; clear hx hdx hon; have bk := lh hbk.out.2.1
    go_wp2_with (first
     | (with_reducible refine wpList_load_at rfl 62 (.tmp 12) rfl Tryz.underlying62 rfl hs rfl hcA.out ?_)
     | (with_reducible refine wpList_load_at rfl 62 (.tmp 7) rfl Tryz.underlying62 rfl hs rfl bk.out.all ?_))
    refine (hpg.out w2).mono ?_; clear hw2; rintro e w3 ⟨rfl, hb⟩; have hd3 := lh (below_step hb hd2.out); have bk3 := lh (bk.out.below hb (Nat.le_refl _)); clear hb
    by_cases hpa : p ≤ a
    · have d1 : decide (p ≤ a) = true := decide_eq_true hpa; obtain rfl : B = false := by rw [← hstep.out, if_pos (.inl hpa)]
      go_wp2; go_ret; exact ⟨rfl, hd3.out⟩
    · have d1 : decide (p ≤ a) = false := decide_eq_false hpa; have e0 := bk3.out.cell 0 rfl; have e1 := bk3.out.cell 1 rfl; have e2 := bk3.out.cell 2 rfl; have e3 := bk3.out.cell 3 rfl; have e4 := bk3.out.cell 4 rfl; have e5 := bk3.out.cell 5 rfl; have e6 := bk3.out.cell 6 rfl
      go_wp2_with fail
      refine (hpg.out w3).mono ?_; rintro e w4 ⟨rfl, hb⟩; have hd4 := lh (below_step hb hd3.out); have bk4 := lh (bk3.out.below hb (Nat.le_refl _)); clear hb e0 e1 e2 e3 e4 e5 e6
      by_cases h64 : 64 ≤ p
      · have d2 : decide ((64 : Int) ≤ p) = true := decide_eq_true h64; obtain rfl : B = false := by rw [← hstep.out, if_pos (.inr h64)]
        go_wp2; go_ret; exact ⟨rfl, hd4.out⟩
      · have d2 : decide ((64 : Int) ≤ p) = false := decide_eq_false h64; have hnext := hstep.out; rw [if_neg (by omega)] at hnext; have hnext := lh hnext
        go_wp2_with (first
         | (with_reducible refine wpList_load_at rfl 62 (.tmp 7) rfl Tryz.underlying62 rfl hs rfl bk4.out.all ?_))
        refine (hpg.out w4).mono ?_; rintro e w5 ⟨rfl, hb⟩; have hd5 := lh (below_step hb hd4.out); clear hb; go_wp2
        go_roundw
        case rel => exact ⟨j + 1, p, by omega, by go_num, rfl, hd5, hnext⟩
        case measure => simp [RowKit.intOf]; omega
  · obtain rfl : n = j := by omega
    obtain rfl : B = true := by have h1 := hr.out; rw [← h1, show n = (L.map (·.page)).length by rw [List.length_map]; exact hl.out.symm]; exact riseF_end
    go_wp2; go_ret; exact ⟨rfl, hd.out⟩
set_option maxRecDepth 100000 in
set_option maxHeartbeats 1000000 in
theorem pagePg_any (p r : Int) (w : World) : Calls Tryz.prog 92 #[.agg #[.int .i64 p, .int .u64 r]] w (fun e w' => e = .returned (.int .i64 p) ∧ Below w.heap.size w w') := by
 obtain ⟨W, hW⟩ : ∃ W, w.alloc (.cells #[.int .i64 p, .int .u64 r] 85) = W := ⟨_, rfl⟩; have hbx := lh (one_box hW); have e0 := hbx.out.2.1.cell 0 rfl
 go_enter Tryz.func92, Tryz.ntmps92
 go_wp2; go_ret; exact ⟨rfl, hbx.out.1⟩
set_option maxRecDepth 100000 in
set_option maxHeartbeats 4000000 in
theorem risePg_any (q : Option Addr) (n c : Nat) (L : List PgD) (w : World) (h : SlOn w q n c L) (hm : n ≤ maxLen) :
 Calls Tryz.prog 91 #[.slice q n c, .func (.func 92) #[] #[]] w (fun e w' => e = .returned (.bool (riseF (-1) (L.map (·.page)))) ∧ Below w.heap.size w w') := by
 have hh := lh h; have hl : Hid (L.length = n) := h.len; unfold maxLen at hm; obtain ⟨B, hB⟩ : ∃ B, riseF (-1) (L.map (·.page)) = B := ⟨_, rfl⟩; have hB' := lh hB; rw [hB]; clear h hB
 go_enter Tryz.func91, Tryz.ntmps91
 go_wp2
 go_loopw [5, 10] (fun v5 v10 wr => ∃ (j : Nat) (a : Int), j ≤ n ∧ v10 = .int .i64 j ∧ v5 = .int .i64 a ∧ Hid (Below w.heap.size w wr) ∧ Hid (riseF a ((L.map (·.page)).drop j) = B)) (fun _ v10 _ => n - (RowKit.intOf v10).toNat)
 case atStart => exact ⟨0, -1, Nat.zero_le _, rfl, rfl, (show Below _ _ _ from Below.refl _ _), hB'.out⟩
 case round =>
  obtain ⟨j, a, hj, rfl, rfl, hd, hr⟩ := hrel
  by_cases hlt : j < n
  · obtain ⟨A, ⟨p, r⟩, hqA, hx, hcA⟩ := (hh.out.below hd.out (Nat.le_refl _)).at hlt; subst hqA; have hcA : Hid (∀ j' x, ([.int .i64 p, .int .u64 r] : List Value)[j']? = some x → wr.cell? ((A.add (j * 2)).add j') = some x) := hcA; have hs : (Tryz.prog.info? 85).map (·.size) = some [Value.int .i64 p, Value.int .u64 r].length := sizePg ⟨p, r⟩; have hx' : Hid ((L.map (·.page))[j]? = some p) := by show _ = _; rw [List.getElem?_map, hx]; rfl
    obtain ⟨w2, hw2⟩ : ∃ x, wr.alloc (.cells #[.int .i64 p, .int .u64 r] 85) = x := ⟨_, rfl⟩; have hbk := lh (one_box hw2); have hd2 := lh (below_step hbk.out.1 hd.out); have hpg := lh (fun u => pagePg_any p r u); have i0 : (0 : Int) ≤ j := by omega
    have i1 : (j : Int) < n := by omega
    have hstep := hr.out; rw [riseF_at hx'.out] at hstep; have hstep := lh hstep; clear hx; have bk := lh hbk.out.2.1
    go_wp2_with (first
     | (with_reducible refine wpList_load_at rfl 85 (.tmp 12) rfl Tryz.underlying85 rfl hs rfl hcA.out ?_)
     | (with_reducible refine wpList_load_at rfl 85 (.tmp 7) rfl Tryz.underlying85 rfl hs rfl bk.out.all ?_))
    refine (hpg.out w2).mono ?_; clear hw2; rintro e w3 ⟨rfl, hb⟩; have hd3 := lh (below_step hb hd2.out); have bk3 := lh (bk.out.below hb (Nat.le_refl _)); clear hb
    by_cases hpa : p ≤ a
    · have d1 : decide (p ≤ a) = true := decide_eq_true hpa; obtain rfl : B = false := by rw [← hstep.out, if_pos (.inl hpa)]
      go_wp2; go_ret; exact ⟨rfl, hd3.out⟩
    · have d1 : decide (p ≤ a) = false := decide_eq_false hpa; have e0 := bk3.out.cell 0 rfl; have e1 := bk3.out.cell 1 rfl
      go_wp2_with fail
      refine (hpg.out w3).mono ?_; rintro e w4 ⟨rfl, hb⟩; have hd4 := lh (below_step hb hd3.out); have bk4 := lh (bk3.out.below hb (Nat.le_refl _)); clear hb e0 e1
      by_cases h64 : 64 ≤ p
      · have d2 : decide ((64 : Int) ≤ p) = true := decide_eq_true h64; obtain rfl : B = false := by rw [← hstep.out, if_pos (.inr h64)]
        go_wp2; go_ret; exact ⟨rfl, hd4.out⟩
      · have d2 : decide ((64 : Int) ≤ p) = false := decide_eq_false h64; have hnext := hstep.out; rw [if_neg (by omega)] at hnext; have hnext := lh hnext
        go_wp2_with (first
         | (with_reducible refine wpList_load_at rfl 85 (.tmp 7) rfl Tryz.underlying85 rfl hs rfl bk4.out.all ?_))
        refine (hpg.out w4).mono ?_; rintro e w5 ⟨rfl, hb⟩; have hd5 := lh (below_step hb hd4.out); clear hb; go_wp2
        go_roundw
        case rel => exact ⟨j + 1, p, by omega, by go_num, rfl, hd5, hnext⟩
        case measure => simp [RowKit.intOf]; omega
  · obtain rfl : n = j := by omega
    obtain rfl : B = true := by have h1 := hr.out; rw [← h1, show n = (L.map (·.page)).length by rw [List.length_map]; exact hl.out.symm]; exact riseF_end
    go_wp2; go_ret; exact ⟨rfl, hd.out⟩
end Go.Proofs.YtocekhckmpkbmaaGreat
