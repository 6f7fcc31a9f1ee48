/- Parts of the proof: Plus of row and of the document; Things of several cells each, in a slice that is read or of the call's own; nothing of a program is claimed here; Two operations of a region that may come in either order, a call and one that gives a value: both orders end alike. Nothing of a program is claimed here; A region that draws its order and whose operations, reads and calls alike, each give one value in every world that meets S, calls leaving S as it is: one walk. Nothing of a program is claimed here; Requests, transactions that run alone, and answers, as they lie in memory -/
import Derived.Test.YtkdkncbccofpdaaQ05
import Derived.Test.YtkdkncbccofpdaaQ06
import Derived.Test.YtkdkncbccofpdaaQ07
import Derived.Maps.AppendAt
import Derived.Lib.SlBuf
import Derived.Lib.SliceRun
import Derived.Laws.StructEq
import Derived.Laws.OwnMore
import Derived.Handy
import Derived.IntWalk
import Derived.Lib.SmallJoins
import Derived.StillTailTactics
import Derived.BigQuiet
import Derived.Deep.QuietTactic
import Derived.Deep.RegionWith
import Derived.Test.YtkdkncbccofpdaaQ01
namespace Go.Proofs.Ytkdkncbccofpdaa
open Go.RowKit
def fits (a b : Int) : Bool := decide (-9223372036854775808 ≤ a + b) && decide (a + b ≤ 9223372036854775807)
def plusN (a b : Int) : Int := if fits a b = true then a + b else 0
theorem fits_or (a b : Int) : (-9223372036854775808 ≤ a + b ∧ a + b ≤ 9223372036854775807 ∧ fits a b = true ∧ plusN a b = a + b) ∨ (9223372036854775807 < a + b ∧ fits a b = false ∧ plusN a b = 0) ∨ (a + b < -9223372036854775808 ∧ fits a b = false ∧ plusN a b = 0) := by
 unfold plusN fits
 by_cases h1 : -9223372036854775808 ≤ a + b
 · by_cases h2 : a + b ≤ 9223372036854775807
   · left; simp [h1, h2]
   · right; left; simp [h2]; omega
 · right; right; simp [h1]; omega
set_option maxHeartbeats 1000000 in
theorem plus_any (a b : Int) (w : World) (ha : -9223372036854775808 ≤ a ∧ a ≤ 9223372036854775807) (hb : -9223372036854775808 ≤ b ∧ b ≤ 9223372036854775807) :
 Calls Try.prog 32 #[.int .i64 a, .int .i64 b] w (fun e w' => e = .returned (.tuple #[.int .i64 (plusN a b), .bool (fits a b)]) ∧ Below w.heap.size w w') := by
 rcases fits_or a b with ⟨h1, h2, e1, e2⟩ | ⟨h1, e1, e2⟩ | ⟨h1, e1, e2⟩
 · rw [e1, e2]
   clear e1 e2
   have hw := IntWalk.i64_in (a + b) ⟨h1, h2⟩
   by_cases hp : 0 < b
   · have hq : a < a + b := by omega
     go_enter Try.func32, Try.ntmps32
     go_wp2
     go_ret2
     exact ⟨rfl, by go_grown⟩
   · have hq : ¬ a < a + b := by omega
     go_enter Try.func32, Try.ntmps32
     go_wp2
     go_ret2
     exact ⟨rfl, by go_grown⟩
 · rw [e1, e2]
   clear e1 e2
   have hw : IntKind.i64.wrap (a + b) = a + b - 18446744073709551616 := by rw [IntKind.wrap_i64]; omega
   have hq : ¬ a < a + b - 18446744073709551616 := by omega
   have hp : 0 < b := by omega
   go_enter Try.func32, Try.ntmps32
   go_wp2
   go_ret2
   exact ⟨rfl, by go_grown⟩
 · rw [e1, e2]
   clear e1 e2
   have hw : IntKind.i64.wrap (a + b) = a + b + 18446744073709551616 := by rw [IntKind.wrap_i64]; omega
   have hq : a < a + b + 18446744073709551616 := by omega
   have hp : ¬ 0 < b := by omega
   go_enter Try.func32, Try.ntmps32
   go_wp2
   go_ret2
   exact ⟨rfl, by go_grown⟩
set_option maxRecDepth 100000 in
set_option maxHeartbeats 1000000 in
theorem refPlus_any (a b : Int) (w : World) (ha : -9223372036854775808 ≤ a ∧ a ≤ 9223372036854775807) (hb : -9223372036854775808 ≤ b ∧ b ≤ 9223372036854775807) :
 Calls Try.prog 63 #[.int .i64 a, .int .i64 b] w (fun e w' => e = .returned (.tuple #[.int .i64 (plusN a b), .bool (fits a b)]) ∧ Below w.heap.size w w') := by
 rcases fits_or a b with ⟨h1, h2, e1, e2⟩ | ⟨h1, e1, e2⟩ | ⟨h1, e1, e2⟩
 · rw [e1, e2]
   clear e1 e2
   rcases Int.lt_trichotomy b 0 with hp | hp | hp
   · have hq : ¬ a < -9223372036854775808 - b := by omega
     have hp2 : ¬ 0 < b := by omega
     go_enter Try.func63, Try.ntmps63
     go_wp2
     go_ret2
     exact ⟨rfl, by go_grown⟩
   · subst hp
     rw [Int.add_zero]
     go_enter Try.func63, Try.ntmps63
     go_wp2
     go_ret2
     exact ⟨rfl, by go_grown⟩
   · have hq : ¬ 9223372036854775807 - b < a := by omega
     have hp2 : ¬ b < 0 := by omega
     go_enter Try.func63, Try.ntmps63
     go_wp2
     go_ret2
     exact ⟨rfl, by go_grown⟩
 · rw [e1, e2]
   clear e1 e2
   have hq : 9223372036854775807 - b < a := by omega
   have hp : 0 < b := by omega
   go_enter Try.func63, Try.ntmps63
   go_wp2
   go_ret2
   exact ⟨rfl, by go_grown⟩
 · rw [e1, e2]
   clear e1 e2
   have hq : a < -9223372036854775808 - b := by omega
   have hp : b < 0 := by omega
   have hp2 : ¬ 0 < b := by omega
   go_enter Try.func63, Try.ntmps63
   go_wp2
   go_ret2
   exact ⟨rfl, by go_grown⟩
end Go.Proofs.Ytkdkncbccofpdaa
namespace Go.Proofs.Ytkdkncbccofpdaa
open Go.RowKit
/-- things that lie in memory as so many cells -/
class Cel (α : Type) where
 cells : α → List Value
 sz : Nat
 len : ∀ r, (cells r).length = sz
 one : ∀ r, ∀ v ∈ cells r, v.oneCell' = true
 pos : 0 < sz
open Cel
section
variable {α : Type} [Cel α]
/-- the cells of a list of things, one behind the other -/
def cellsL : List α → List Value
 | [] => []
 | r :: l => cells r ++ cellsL l
theorem cellsL_len : ∀ l : List α, (cellsL l).length = l.length * sz α
 | [] => by simp [cellsL]
 | r :: l => by simp [cellsL, cellsL_len l, Cel.len, Nat.add_mul]; omega
theorem cellsL_append : ∀ l m : List α, cellsL (l ++ m) = cellsL l ++ cellsL m
 | [], m => rfl
 | r :: l, m => by simp [cellsL, cellsL_append l m]
theorem cellsL_one : ∀ l : List α, ∀ v ∈ cellsL l, v.oneCell' = true
 | [], v, h => by cases h
 | r :: l, v, h => by
   rcases List.mem_append.1 h with h | h
   · exact Cel.one r v h
   · exact cellsL_one l v h
theorem cellsL_get : ∀ (l : List α) (i : Nat) (r : α), l[i]? = some r → ∀ j x, (cells r)[j]? = some x → (cellsL l)[i * sz α + j]? = some x
 | [], i, r, h, _, _, _ => by simp at h
 | s :: l, 0, r, h, j, x, hx => by
   simp at h; subst h
   have hj : j < (cells s).length := (List.getElem?_eq_some_iff.1 hx).1
   simp only [cellsL, Nat.zero_mul, Nat.zero_add]
   rw [List.getElem?_append_left hj]; exact hx
 | s :: l, i + 1, r, h, j, x, hx => by
   simp at h
   have := cellsL_get l i r h j x hx
   simp only [cellsL]
   rw [List.getElem?_append_right (by rw [Cel.len, Nat.add_mul]; omega)]
   have e : (i + 1) * sz α + j - (cells s).length = i * sz α + j := by rw [Cel.len, Nat.add_mul]; omega
   rw [e]; exact this
theorem cellsL_get' : ∀ (l : List α) (k : Nat) (x : Value), (cellsL l)[k]? = some x → ∃ i r j, k = i * sz α + j ∧ l[i]? = some r ∧ (cells r)[j]? = some x
 | [], k, x, h => by simp [cellsL] at h
 | s :: l, k, x, h => by
   simp only [cellsL] at h
   by_cases hk : k < sz α
   · rw [List.getElem?_append_left (by rw [Cel.len]; omega)] at h
     exact ⟨0, s, k, by omega, rfl, h⟩
   · rw [List.getElem?_append_right (by rw [Cel.len]; omega), Cel.len] at h
     obtain ⟨i, r, j, h1, h2, h3⟩ := cellsL_get' l (k - sz α) x h
     exact ⟨i + 1, r, j, by rw [Nat.add_mul]; omega, by simpa using h2, h3⟩
theorem cell_kept {B : Nat} {w w' : World} (hb : Below B w w') (hB : w.heap.size ≤ B) {a : Addr} {v : Value} (h : w.cell? a = some v) : w'.cell? a = some v := by
 rw [World.cell?_of_block (w := w) (hb.block _ (Nat.lt_of_lt_of_le (cell_in h) hB))]
 exact h
theorem add_block2 (a : Addr) (i j : Nat) : ((a.add i).add j).block = a.block := by unfold Addr.add; (repeat' split) <;> rfl
theorem Boxed.part {w : World} {g : Nat} {vs : List Value} (h : Boxed w g vs) {o : Nat} {ys : List Value} (hc : ∀ j v, ys[j]? = some v → vs[o + j]? = some v) : ∀ j v, ys[j]? = some v → w.cell? ((⟨g, o, none⟩ : Addr).add j) = some v := by
 intro j v hj
 have hadd : (⟨g, o, none⟩ : Addr).add j = ⟨g, o + j, none⟩ := by unfold Addr.add; split <;> simp_all
 rw [hadd]
 exact h.cell (o + j) (hc j v hj)
theorem RowV.boxed {T : TypeId} {w : World} {g : Nat} {vs : List Value} (h : RowV T w g vs) : Boxed w g vs := h.part (pre := []) (rest := []) (by simp) rfl
/-- a slice that reads as a list of things -/
structure SlOn (w : World) (q : Option Addr) (n c : Nat) (l : List α) : Prop where
 len : l.length = n
 le : n ≤ c
 cap : c ≤ maxLen
 nil : q = none → c = 0
 get : ∀ i r, l[i]? = some r → ∃ a, q = some a ∧ ∀ j x, (cells r)[j]? = some x → w.cell? ((a.add (i * sz α)).add j) = some x
theorem SlOn.none_ (w : World) : SlOn w none 0 0 ([] : List α) := ⟨rfl, Nat.le_refl _, Nat.zero_le _, fun _ => rfl, fun i r h => by simp at h⟩
theorem SlOn.below {B : Nat} {w w' : World} {q : Option Addr} {n c : Nat} {l : List α} (h : SlOn w q n c l) (hb : Below B w w') (hB : w.heap.size ≤ B) : SlOn w' q n c l :=
 ⟨h.len, h.le, h.cap, h.nil, fun i r hi => by
  obtain ⟨a, rfl, hc⟩ := h.get i r hi
  exact ⟨a, rfl, fun j x hj => cell_kept hb hB (hc j x hj)⟩⟩
theorem SlOn.at {w : World} {q : Option Addr} {n c : Nat} {l : List α} (h : SlOn w q n c l) {i : Nat} (hi : i < n) :
 ∃ a r, q = some a ∧ l[i]? = some r ∧ ∀ j x, (cells r)[j]? = some x → w.cell? ((a.add (i * sz α)).add j) = some x := by
 have hl := h.len
 have hx : l[i]? = some (l[i]'(by omega)) := List.getElem?_eq_getElem (by omega)
 obtain ⟨a, ha, hc⟩ := h.get i _ hx
 exact ⟨a, _, ha, hx, hc⟩
theorem SlOn.front {w : World} {q : Option Addr} {n c m : Nat} {l : List α} (h : SlOn w q n c l) (hm : m ≤ n) : SlOn w q m c (l.take m) :=
 ⟨by rw [List.length_take, h.len]; omega, Nat.le_trans hm h.le, h.cap, h.nil, fun i r hi => by
  rw [List.getElem?_take] at hi
  split at hi
  · exact h.get i r hi
  · cases hi⟩
/-- blocks that are unlike are unlike -/
theorem SlOn.kept {w w' : World} {q : Option Addr} {n c : Nat} {l : List α} (h : SlOn w q n c l) (hk : n ≠ 0 → ∀ a, q = some a → w'.heap[a.block]? = w.heap[a.block]?) : SlOn w' q n c l :=
 ⟨h.len, h.le, h.cap, h.nil, fun i r hi => by
  obtain ⟨a, ha, hc⟩ := h.get i r hi
  refine ⟨a, ha, fun j x hj => ?_⟩
  have hn : n ≠ 0 := by have := h.len; have := (List.getElem?_eq_some_iff.1 hi).1; omega
  rw [World.cell?_of_block (w := w) (by rw [add_block2]; exact hk hn a ha)]
  exact hc j x hj⟩
theorem SlOn.gr {w w' : World} {q : Option Addr} {n c g : Nat} {l : List α} (h : SlOn w q n c l) (hg : w.grownBy w' (some g)) (hne : ∀ a, q = some a → a.block ≠ g) : SlOn w' q n c l :=
 ⟨h.len, h.le, h.cap, h.nil, fun i r hi => by
  obtain ⟨a, ha, hc⟩ := h.get i r hi
  refine ⟨a, ha, fun j x hj => ?_⟩
  have hlt := cell_in (hc j x hj)
  rw [add_block2] at hlt
  rw [World.cell?_of_block (w := w) (by rw [add_block2]; exact hg.block _ hlt (fun e => hne a ha (by simpa using e)))]
  exact hc j x hj⟩
/-- The slice v holds just these things, in a block of its own from block base on. -/
def OwnS (T : TypeId) (w : World) (base : Nat) (v : Value) (l : List α) : Prop := w.ownsRow base T (sz α) v l.length (cellsL l)
theorem OwnS.nil (T : TypeId) (w : World) (base : Nat) : OwnS T w base (.slice none 0 0) ([] : List α) := World.ownsRow_nil w base T (sz α)
theorem OwnS.shape {T : TypeId} {w : World} {base : Nat} {v : Value} {l : List α} (h : OwnS T w base v l) : ∃ q c, v = .slice q l.length c := by
 obtain ⟨_, ⟨he, h0⟩ | ⟨g, cap, cur, he, _⟩⟩ := h
 · exact ⟨none, 0, by rw [he, h0]⟩
 · exact ⟨_, _, he⟩
theorem OwnS.len {T : TypeId} {w : World} {base : Nat} {q : Option Addr} {n c : Nat} {l : List α} (h : OwnS T w base (.slice q n c) l) : n = l.length := by
 obtain ⟨q', c', e⟩ := h.shape
 injection e
theorem OwnS.far {T : TypeId} {w : World} {base : Nat} {q : Option Addr} {n c : Nat} {l : List α} (h : OwnS T w base (.slice q n c) l) : ∀ a, q = some a → base ≤ a.block ∧ a.block < w.heap.size := by
 intro a ha
 obtain ⟨_, ⟨he, _⟩ | ⟨g, cap, cur, he, hg, hh, _⟩⟩ := h
 · simp only [Value.slice.injEq] at he; obtain ⟨rfl, _⟩ := he; cases ha
 · simp only [Value.slice.injEq] at he; obtain ⟨rfl, _⟩ := he; cases ha; exact ⟨hg, (Array.getElem?_eq_some_iff.1 hh).1⟩
theorem OwnS.kept {T : TypeId} {w w' : World} {base : Nat} {q : Option Addr} {n c : Nat} {l : List α} (h : OwnS T w base (.slice q n c) l) (hb : ∀ a, q = some a → w'.heap[a.block]? = w.heap[a.block]?) : OwnS T w' base (.slice q n c) l := by
 obtain ⟨hlen, ⟨he, h0⟩ | ⟨g, cap, cur, he, hg, hh, r⟩⟩ := h
 · exact ⟨hlen, .inl ⟨he, h0⟩⟩
 · simp only [Value.slice.injEq] at he
   obtain ⟨rfl, e2, rfl⟩ := he
   exact ⟨hlen, .inr ⟨g, c, cur, by rw [e2], hg, by rw [hb _ rfl]; exact hh, r⟩⟩
theorem OwnS.below {T : TypeId} {w w' : World} {base : Nat} {q : Option Addr} {n c : Nat} {l : List α} (h : OwnS T w base (.slice q n c) l) (hb : Below w.heap.size w w') : OwnS T w' base (.slice q n c) l :=
 h.kept fun a ha => hb.block _ (h.far a ha).2
theorem OwnS.mono {T : TypeId} {w : World} {b b' : Nat} {v : Value} {l : List α} (h : OwnS T w b v l) (hb : b' ≤ b) : OwnS T w b' v l := by
 obtain ⟨hlen, hr | ⟨g, cap, cur, he, hg, r⟩⟩ := h
 · exact ⟨hlen, .inl hr⟩
 · exact ⟨hlen, .inr ⟨g, cap, cur, he, Nat.le_trans hb hg, r⟩⟩
/-- what is owned reads as a list -/
theorem OwnS.reads {T : TypeId} {w : World} {base : Nat} {q : Option Addr} {n c : Nat} {l : List α} (h : OwnS T w base (.slice q n c) l) : SlOn w q n c l := by
 have hl := h.len
 have hc := fun g hg => World.ownsRow.cells (h := h) (g := g) hg
 obtain ⟨hlen, ⟨he, h0⟩ | ⟨g, cap, cur, he, hg, hh, hle, hm, r⟩⟩ := h
 · simp only [Value.slice.injEq] at he
   obtain ⟨rfl, rfl, rfl⟩ := he
   exact ⟨hl.symm, Nat.le_refl _, Nat.zero_le _, fun _ => rfl, fun i r hi => by rw [List.eq_nil_of_length_eq_zero hl.symm] at hi; simp at hi⟩
 · simp only [Value.slice.injEq] at he
   obtain ⟨rfl, e2, rfl⟩ := he
   refine ⟨hl.symm, by omega, hm, (fun e => by cases e), fun i r hi => ⟨_, rfl, fun j x hj => ?_⟩⟩
   rw [Go.Deep.add_add]
   exact hc g rfl _ _ (cellsL_get l i r hi j x hj)
theorem OwnS.nil_cap {T : TypeId} {w : World} {base : Nat} {n c : Nat} {l : List α} (h : OwnS T w base (.slice none n c) l) : n = 0 ∧ c = 0 ∧ l = [] := by
 have hl := h.len
 obtain ⟨_, ⟨he, h0⟩ | ⟨g, cap, cur, he, _⟩⟩ := h
 · simp only [Value.slice.injEq] at he
   obtain ⟨_, rfl, rfl⟩ := he
   exact ⟨rfl, rfl, List.eq_nil_of_length_eq_zero hl.symm⟩
 · simp only [Value.slice.injEq] at he; exact absurd he.1 (by simp)
/-- a list of the call's own, opened: the block and all of its cells -/
theorem OwnS.opened {T : TypeId} {w : World} {B : Nat} {a : Addr} {n c : Nat} {l : List α} (h : OwnS T w B (.slice (some a) n c) l) :
 ∃ g cur, a = ⟨g, 0, none⟩ ∧ B ≤ g ∧ RowV T w g cur ∧ n ≤ c ∧ c ≤ maxLen ∧ cur.length = c * sz α ∧ cur.take (n * sz α) = cellsL l := by
 have hl := h.len
 obtain ⟨hlen, ⟨he, h0⟩ | ⟨g, cap, cur, he, hg, hh, hle, hm, hs, ht⟩⟩ := h
 · simp only [Value.slice.injEq] at he; exact absurd he.1 (by simp)
 · simp only [Value.slice.injEq] at he
   obtain ⟨e1, e2, rfl⟩ := he
   cases e1
   exact ⟨g, cur.toList, rfl, hg, by unfold RowV; simpa using hh, by omega, hm, by simpa using hs, by rw [hl]; exact ht⟩
theorem OwnS.mk {T : TypeId} {w : World} {B g n c : Nat} {cur : List Value} {l : List α} (hB : B ≤ g) (hr : RowV T w g cur) (hn : n ≤ c) (hc : c ≤ maxLen) (hs : cur.length = c * sz α) (ht : cur.take (n * sz α) = cellsL l) (hl : l.length = n) : OwnS T w B (.slice (some ⟨g, 0, none⟩) n c) l := by
 subst hl
 exact ⟨cellsL_len l, .inr ⟨g, c, cur.toArray, rfl, hB, hr, hn, hc, by simpa using hs, by simpa using ht⟩⟩
theorem OwnS.empty {T : TypeId} {w w' : World} {g : Nat} (h : w.alloc (.cells #[] T) = w') (hg : w.heap.size = g) : OwnS T w' g (.slice (some ⟨g, 0, none⟩) 0 0) ([] : List α) := by
 subst h hg
 exact ⟨by simp [cellsL], .inr ⟨_, 0, #[], rfl, Nat.le_refl _, heap_alloc_new w _, Nat.le_refl _, Nat.zero_le _, by simp, by simp [cellsL]⟩⟩
/-- one thing in a block is a list of one -/
theorem OwnS.single {T : TypeId} {w : World} {g : Nat} {r : α} (h : RowV T w g (cells r)) : OwnS T w g (.slice (some ⟨g, 0, none⟩) 1 1) [r] :=
 OwnS.mk (Nat.le_refl _) h (Nat.le_refl _) (by unfold maxLen; omega) (by rw [Cel.len, Nat.one_mul]) (by rw [List.take_of_length_le (by rw [Cel.len, Nat.one_mul]; exact Nat.le_refl _)]; simp [cellsL]) rfl
/-! append onto a list of the call's own, from whatever list -/
variable {P : Program} {w : World}
theorem run_append_l {t T : TypeId} {bytes : Nat} {z : Value} (ht : P.underlying t = some (.slice T)) (hi : (P.info? T).map (fun i => (i.zero, i.size, i.bytes)) = some (some z, sz α, bytes)) (hz : z.cells.size = sz α) (ty : TypeId)
 {base : Nat} {q0 : Option Addr} {n0 c0 : Nat} {l : List α} {q : Option Addr} {m d : Nat} {ms : List α} (hown : OwnS T w base (.slice q0 n0 c0) l) (hr : SlOn w q m d ms) (hbig : (n0 + m) * bytes ≤ 140737488355328) (hbig2 : n0 + m ≤ 140737488355328) (hbase : base ≤ w.heap.size) :
 ∃ q' c' w', (Builtin.append_ #[t, t] ty #[.slice q0 n0 c0, .slice q m d]).run P w = .ok (.slice q' (n0 + m) c') w' ∧ OwnS T w' base (.slice q' (n0 + m) c') (l ++ ms) ∧ w.grownBy w' (q0.map (·.block)) ∧ (q'.map (·.block) = q0.map (·.block) ∨ q'.map (·.block) = some w.heap.size) := by
 obtain ⟨i0, hi0, hz0, hz1, hz2⟩ := info_parts hi
 have hl := hown.len
 have hm := hr.len
 subst hl
 cases q with
 | none =>
   have h0 : m = 0 := by have := hr.nil rfl; have := hr.le; omega
   subst h0
   obtain rfl := List.eq_nil_of_length_eq_zero hm
   refine ⟨q0, c0, w, ?_, by simpa using hown, ⟨rfl, rfl, rfl, Nat.le_refl _, fun _ _ _ => rfl⟩, .inl rfl⟩
   obtain ⟨hlen, ⟨he, h0⟩ | ⟨g, cap, cur, he, hg, hh, hle, hm2, r⟩⟩ := hown
   · simp only [Value.slice.injEq] at he
     obtain ⟨rfl, h1, rfl⟩ := he
     simp [Builtin.append_, run_underlying ht, sizeOf, typeInfo, hi0, Builtin.lenOf, Builtin.firstCells, h1]
   · simp only [Value.slice.injEq] at he
     obtain ⟨rfl, _, rfl⟩ := he
     simp [Builtin.append_, run_underlying ht, sizeOf, typeInfo, hi0, Builtin.lenOf, Builtin.firstCells, hle, storeCells]
 | some ad =>
   obtain ⟨v', w', hrun, hown', hg, _, hat⟩ := run_append_own_at (P := P) w base t ty T i0 z (sz α) bytes ht hi0 hz0 hz1 hz2 hz Cel.pos _ l.length (cellsL l) hown ad m d (cellsL ms) (by rw [cellsL_len, hm]) (fun j u hj => by
    obtain ⟨i, r, k, rfl, h1, h2⟩ := cellsL_get' ms j u hj
    obtain ⟨a', ha', hc⟩ := hr.get i r h1
    cases ha'
    rw [← Go.Deep.add_add]
    exact hc k u h2) (cellsL_one ms) (by unfold maxLen; omega) hbig hbase
   have hown2 : OwnS T w' base v' (l ++ ms) := by
    unfold OwnS
    rw [List.length_append, hm, cellsL_append]
    exact hown'
   obtain ⟨q', c', rfl⟩ := hown2.shape
   rw [List.length_append, hm] at hrun hown2
   exact ⟨q', c', w', hrun, hown2, by cases q0 <;> exact hg, by cases q0 <;> cases q' <;> exact hat⟩
theorem wpList_append_l {t T : TypeId} {bytes : Nat} {z : Value} (ht : P.underlying t = some (.slice T)) (hi : (P.info? T).map (fun i => (i.zero, i.size, i.bytes)) = some (some z, sz α, bytes)) (hz : z.cells.size = sz α)
 {ops : Array Oper} {rest : List Oper} {o : Oper} {a : Act} {Q : Exit → Act → World → Prop} (hgd : o.guard = none) (sl x : Operand)
 (ho : o.op = .call { callee := .builtin .append, args := #[sl, x], argTypes := #[t, t] }) {base : Nat} {q0 : Option Addr} {n0 c0 m d : Nat} {l ms : List α} {q : Option Addr} (hsl : a.eval sl = .slice q0 n0 c0) (hx : a.eval x = .slice q m d)
 (hown : OwnS T w base (.slice q0 n0 c0) l) (hr : SlOn w q m d ms) (hbig : (n0 + m) * bytes ≤ 140737488355328) (hbig2 : n0 + m ≤ 140737488355328) (hbase : base ≤ w.heap.size)
 (h : ∀ q' c' w', OwnS T w' base (.slice q' (n0 + m) c') (l ++ ms) → w.grownBy w' (q0.map (·.block)) → (q'.map (·.block) = q0.map (·.block) ∨ q'.map (·.block) = some w.heap.size) → wpList P ops Q rest (a.put o.dst (.slice q' (n0 + m) c')) w') : wpList P ops Q (o :: rest) a w := by
 obtain ⟨q', c', w', hrun, h1, h2, h3⟩ := run_append_l ht hi hz o.type hown hr hbig hbig2 hbase
 exact Lib.wpList_append_run_sl w hgd sl x t ho _ _ hsl hx hrun (h q' c' w' h1 h2 h3)
end
end Go.Proofs.Ytkdkncbccofpdaa
namespace Go.Proofs.Ytkdkncbccofpdaa
open Go.RowKit
section
variable {P : Program} {ops : Array Oper} {Q : Exit → Act → World → Prop} {md : Region.Mode} {S : World → Prop}
end
end Go.Proofs.Ytkdkncbccofpdaa
namespace Go.Proofs.Ytkdkncbccofpdaa
open Go.RowKit
section
variable {P : Program} {ops : Array Oper} {Q : Exit → Act → World → Prop} {md : Region.Mode} {S : World → Prop}
/-- an operation that gives one value in every world that meets S, and leaves S -/
def Fix (P : Program) (ops : Array Oper) (S : World → Prop) (o : Oper) (v : Value) (a : Act) : Prop :=
 (Region.wanted o (yielded ops a.tmps) = true ∧ ((∀ w, S w → (execOp a.eval o).run P w = .ok (.value v) w) ∨
   ∃ f args, (∀ w, (execOp a.eval o).run P w = .ok (.enter f args) w) ∧ ∀ w, S w → Calls P f args w (fun e w' => e = .returned v ∧ S w'))) ∨
 (Region.wanted o (yielded ops a.tmps) = false ∧ v = undef)
theorem Fix.wpOp {i : Nat} {o : Oper} {v : Value} {a : Act} (hi : ops[i]? = some o) (hy : Fix P ops S o v a)
 {K : Act → World → Prop} {w : World} (hS : S w) (h : ∀ w', S w' → K (a.put o.dst v) w') : wpOp P ops Q i K a w := by
 unfold Go.wpOp
 simp only [hi]
 rcases hy with ⟨hw, hv | ⟨f, args, hr, hc⟩⟩ | ⟨hw, rfl⟩
 · simp only [hw, if_true, Oper.wp, hv w hS, Oper.upon]; exact .inl (h w hS)
 · simp only [hw, if_true]
   refine .inl ?_
   unfold Oper.wp
   rw [hr, Oper.upon_enter]
   refine (hc w hS).mono fun e w' he => ?_
   obtain ⟨rfl, hS'⟩ := he
   exact h w' hS'
 · simp only [hw, Bool.false_eq_true, if_false]; exact h w hS
end
section
variable {P : Program} {ops : Array Oper} {S : World → Prop} {a : Act} {o : Oper}
end
section
variable {P : Program} {ops : Array Oper} {Q : Exit → Act → World → Prop} {md : Region.Mode} {S : World → Prop}
/-- held_take, what a reader need not see asked last -/
theorem held_tk {i : Nat} {o : Oper} {dst : Option Tmp} (hd : o.dst = dst) {v : Value} {fuel : Nat} {listed : Array Bool} {a : Act} {w : World} (hi : ops[i]? = some o) (hy : YieldsIf P ops S o v a) (hS : S w)
 (h : wpAnyH P md ops Q S fuel (listed.setIfInBounds i true) (a.put dst v) w)
 (hs : Region.noSelect ops = true := by kernel_rfl) (hf : Region.free md ops listed i = true := by kernel_rfl) (hr : (Region.ready md ops listed).contains i = true := by kernel_rfl)
 (hQ : ∀ c a w, Q (.panic c) (a.put o.dst v) w → Q (.panic c) a w := by exact fun _ _ _ h => h) : wpAnyH P md ops Q S (fuel + 1) listed a w :=
 held_take hd hi hs hf hr hQ hy hS h
end
section
variable {P : Program} {ops : Array Oper} {Q : Exit → Act → World → Prop} {md : Region.Mode} {S : World → Prop} {o : Oper} {fuel : Nat} {listed : Array Bool} {a : Act} {w : World}
theorem tg (i : Nat) (d : Tmp) (v : Value) (hS : S w) (h : wpAnyH P md ops Q S fuel (listed.setIfInBounds i true) (a.put (some d) v) w)
 (hi : ops[i]? = some o := by exact rfl) (hd : o.dst = some d := by exact rfl) (hw : Region.wanted o (yielded ops a.tmps) = true := by exact rfl) (hy : ∀ u, S u → (execOp a.eval o).run P u = .ok (.value v) u := by intro u hu; go_simp)
 (hs : Region.noSelect ops = true := by kernel_rfl) (hf : Region.free md ops listed i = true := by kernel_rfl) (hr : (Region.ready md ops listed).contains i = true := by kernel_rfl)
 (hQ : ∀ c a w, Q (.panic c) (a.put o.dst v) w → Q (.panic c) a w := by exact fun _ _ _ h => h) : wpAnyH P md ops Q S (fuel + 1) listed a w :=
 held_tk hd hi (.inl ⟨hw, hy⟩) hS h hs hf hr hQ
theorem tu (i : Nat) (d : Tmp) (hS : S w) (h : wpAnyH P md ops Q S fuel (listed.setIfInBounds i true) (a.put (some d) undef) w)
 (hi : ops[i]? = some o := by exact rfl) (hd : o.dst = some d := by exact rfl) (hw : Region.wanted o (yielded ops a.tmps) = false := by exact rfl)
 (hs : Region.noSelect ops = true := by kernel_rfl) (hf : Region.free md ops listed i = true := by kernel_rfl) (hr : (Region.ready md ops listed).contains i = true := by kernel_rfl)
 (hQ : ∀ c a w, Q (.panic c) (a.put o.dst undef) w → Q (.panic c) a w := by exact fun _ _ _ h => h) : wpAnyH P md ops Q S (fuel + 1) listed a w :=
 held_tk hd hi (.inr ⟨hw, rfl⟩) hS h hs hf hr hQ
end
end Go.Proofs.Ytkdkncbccofpdaa
namespace Go.Proofs.Ytkdkncbccofpdaa
open Go.RowKit
set_option maxRecDepth 100000
theorem one_rowI {w W : World} {T1 : TypeId} {xs : List Value} (h : w.alloc (.cells xs.toArray T1) = W) : Below w.heap.size w W ∧ RowV T1 W w.heap.size xs ∧ W.heap.size = w.heap.size + 1 := by
 subst h
 exact ⟨(Below.refl _ _).alloc (Nat.le_refl _) _, RowV.made w xs, by simp⟩
theorem two_rowsI {w W : World} {T1 T2 : TypeId} {xs ys : List Value} (h : (w.alloc (.cells xs.toArray T1)).alloc (.cells ys.toArray T2) = W) : Below w.heap.size w W ∧ RowV T1 W w.heap.size xs ∧ RowV T2 W (w.heap.size + 1) ys ∧ W.heap.size = w.heap.size + 2 := by
 subst h
 refine ⟨((Below.refl _ _).alloc (Nat.le_refl _) _).alloc (by simp) _, ?_, ?_, by simp⟩
 · exact RowV.below (RowV.made w xs) ((Below.refl _ _).alloc (Nat.le_refl _) _)
 · have := RowV.made (T := T2) (w.alloc (.cells xs.toArray T1)) ys
   simpa using this
theorem four_rowsI {w W : World} {T1 T2 T3 T4 : TypeId} {xs ys zs us : List Value} (h : (((w.alloc (.cells xs.toArray T1)).alloc (.cells ys.toArray T2)).alloc (.cells zs.toArray T3)).alloc (.cells us.toArray T4) = W) :
 Below w.heap.size w W ∧ RowV T1 W w.heap.size xs ∧ RowV T2 W (w.heap.size + 1) ys ∧ RowV T3 W (w.heap.size + 2) zs ∧ RowV T4 W (w.heap.size + 3) us ∧ W.heap.size = w.heap.size + 4 := by
 obtain ⟨V, hV⟩ : ∃ V, (w.alloc (.cells xs.toArray T1)).alloc (.cells ys.toArray T2) = V := ⟨_, rfl⟩
 rw [hV] at h
 obtain ⟨h1, h2, h3, h4⟩ := two_rowsI hV
 obtain ⟨k1, k2, k3, k4⟩ := two_rowsI h
 rw [h4] at k2 k3 k4
 exact ⟨h1.trans (k1.mono h1.size), h2.below k1, h3.below k1, k2, k3, k4⟩
structure ReqD where
 k : Int
 key : KeyD
 to : KeyD
 val : Int
 note : ByteArray
 n : Int
def ReqD.cells (q : ReqD) : List Value := [.int .i64 q.k, .int .i64 q.key.t, .int .u16 q.key.id, .int .i64 q.to.t, .int .u16 q.to.id, .int .i64 q.val, .string q.note, .int .i64 q.n]
structure ReqOk (q : ReqD) : Prop where
 k : I64 q.k
 key : KeyOk q.key
 to : KeyOk q.to
 val : I64 q.val
 note : q.note.size ≤ maxLen
 n : I64 q.n
structure SerD where
 bs : List BdD
 rows : List RowD
 begun : List RowD
 marks : List (List RowD)
 over : Bool
structure AnsD where
 e : Int
 rows : List RowD
 n : Int
instance : Cel BdD := ⟨BdD.cells, 2, fun _ => rfl, fun r v hv => by
 simp only [BdD.cells, List.mem_cons, List.not_mem_nil, or_false] at hv
 rcases hv with rfl | rfl <;> rfl, by decide⟩
/-- a slice, as an element -/
structure SlV where
 q : Option Addr
 n : Nat
 c : Nat
instance : Cel SlV := ⟨fun (v : SlV) => [.slice v.q v.n v.c], 1, fun _ => rfl, fun r v hv => by
 simp only [List.mem_cons, List.not_mem_nil, or_false] at hv
 subst hv; rfl, by decide⟩
theorem SlOn.sch {w : World} {q : Option Addr} {n c : Nat} {l : List BdD} (h : SlOn w q n c l) (hok : ∀ b ∈ l, I64 b.lo ∧ I64 b.hi) : SchOn w q n c l := ⟨h.len, h.le, h.cap, h.get, hok⟩
/-- a slice that reads as a list of lists of rows -/
def MksOn (w : World) (q : Option Addr) (n c : Nat) (L : List (List RowD)) : Prop :=
 ∃ vs : List SlV, SlOn w q n c vs ∧ vs.length = L.length ∧ ∀ (i : Nat) (v : SlV) (l : List RowD), vs[i]? = some v → L[i]? = some l → RowsOn w v.q v.n v.c l
theorem MksOn.below {B : Nat} {w w' : World} {q : Option Addr} {n c : Nat} {L : List (List RowD)} (h : MksOn w q n c L) (hb : Below B w w') (hB : w.heap.size ≤ B) : MksOn w' q n c L := by
 obtain ⟨vs, h1, h2, h3⟩ := h
 exact ⟨vs, h1.below hb hB, h2, fun i v l hv hl => (h3 i v l hv hl).below hb hB⟩
theorem MksOn.len {w : World} {q : Option Addr} {n c : Nat} {L : List (List RowD)} (h : MksOn w q n c L) : L.length = n := by
 obtain ⟨vs, h1, h2, _⟩ := h
 rw [← h2, h1.len]
theorem MksOn.none_ (w : World) : MksOn w none 0 0 [] := ⟨[], SlOn.none_ w, rfl, fun i v l hv => by simp at hv⟩
/-- the rows of a list of the call's own -/
def OwnL (w : World) (q : Option Addr) (n c : Nat) (l : List RowD) : Prop := OwnR 68 w 0 (.slice q n c) l ∧ ∀ r ∈ l, RowOk r
def OwnM (w : World) (q : Option Addr) (n c : Nat) (L : List (List RowD)) : Prop :=
 ∃ vs : List SlV, OwnS 25 w 0 (.slice q n c) vs ∧ vs.length = L.length ∧ ∀ (i : Nat) (v : SlV) (l : List RowD), vs[i]? = some v → L[i]? = some l → OwnL w v.q v.n v.c l
def OwnB (w : World) (q : Option Addr) (n c : Nat) (l : List BdD) : Prop := OwnS 75 w 0 (.slice q n c) l ∧ ∀ b ∈ l, I64 b.lo ∧ I64 b.hi
theorem RowV.ty {T T' : TypeId} {w : World} {g : Nat} {cs cs' : List Value} (h : RowV T w g cs) (h' : RowV T' w g cs') : T = T' := by
 unfold RowV at h h'
 rw [h] at h'
 injection h' with h'
 injection h'
theorem OwnS.gt {α : Type} [Cel α] {T T' : TypeId} {w w' : World} {B g : Nat} {q : Option Addr} {n c : Nat} {l : List α} {cs : List Value} (h : OwnS T w B (.slice q n c) l) (hg : w.grownBy w' (some g)) (hr : RowV T' w g cs) (hne : T ≠ T') : OwnS T w' B (.slice q n c) l :=
 h.kept fun a ha => hg.block _ (h.far a ha).2 (fun e => by
  subst ha
  obtain ⟨k, cur, rfl, _, hk, _⟩ := h.opened
  obtain rfl : k = g := by simpa using e
  exact hne (hk.ty hr))
theorem OwnL.gt {T' : TypeId} {w w' : World} {g : Nat} {q : Option Addr} {n c : Nat} {l : List RowD} {cs : List Value} (h : OwnL w q n c l) (hg : w.grownBy w' (some g)) (hr : RowV T' w g cs) (hne : 68 ≠ T') : OwnL w' q n c l :=
 ⟨h.1.kept fun a ha => hg.block _ (h.1.far a ha).2 (fun e => by
  subst ha
  obtain ⟨k, cur, rfl, _, hk, _⟩ := h.1.opened
  obtain rfl : k = g := by simpa using e
  exact hne (hk.ty hr)), h.2⟩
theorem OwnL.below {w w' : World} {q : Option Addr} {n c : Nat} {l : List RowD} (h : OwnL w q n c l) (hb : Below w.heap.size w w') : OwnL w' q n c l := ⟨h.1.below hb, h.2⟩
theorem OwnL.reads {w : World} {q : Option Addr} {n c : Nat} {l : List RowD} (h : OwnL w q n c l) : RowsOn w q n c l := h.1.reads h.2
theorem OwnL.none_ (w : World) : OwnL w none 0 0 [] := ⟨OwnR.nil _ _ _, fun r h => by cases h⟩
theorem OwnM.below {w w' : World} {q : Option Addr} {n c : Nat} {L : List (List RowD)} (h : OwnM w q n c L) (hb : Below w.heap.size w w') : OwnM w' q n c L := by
 obtain ⟨vs, h1, h2, h3⟩ := h
 exact ⟨vs, h1.below hb, h2, fun i v l hv hl => (h3 i v l hv hl).below hb⟩
theorem OwnM.gt {T' : TypeId} {w w' : World} {g : Nat} {q : Option Addr} {n c : Nat} {L : List (List RowD)} {cs : List Value} (h : OwnM w q n c L) (hg : w.grownBy w' (some g)) (hr : RowV T' w g cs) (hne : 68 ≠ T') (hne2 : 25 ≠ T') : OwnM w' q n c L := by
 obtain ⟨vs, h1, h2, h3⟩ := h
 exact ⟨vs, h1.gt hg hr hne2, h2, fun i v l hv hl => (h3 i v l hv hl).gt hg hr hne⟩
theorem OwnM.reads {w : World} {q : Option Addr} {n c : Nat} {L : List (List RowD)} (h : OwnM w q n c L) : MksOn w q n c L := by
 obtain ⟨vs, h1, h2, h3⟩ := h
 exact ⟨vs, h1.reads, h2, fun i v l hv hl => (h3 i v l hv hl).reads⟩
theorem OwnM.none_ (w : World) : OwnM w none 0 0 [] := ⟨[], OwnS.nil _ _ _, rfl, fun i v l hv => by simp at hv⟩
/-- what a transaction's five words say -/
structure SV where
 tq : Option Addr
 tn : Nat
 tc : Nat
 rq : Option Addr
 rn : Nat
 rc : Nat
 bq : Option Addr
 bn : Nat
 bc : Nat
 mq : Option Addr
 mn : Nat
 mc : Nat
 o : Bool
def SV.cells (v : SV) : List Value := [.slice v.tq v.tn v.tc, .slice v.rq v.rn v.rc, .slice v.bq v.bn v.bc, .slice v.mq v.mn v.mc, .bool v.o]
structure SV.On (v : SV) (w : World) (x : SerD) : Prop where
 sch : SlOn w v.tq v.tn v.tc x.bs
 sok : ∀ b ∈ x.bs, I64 b.lo ∧ I64 b.hi
 rows : RowsOn w v.rq v.rn v.rc x.rows
 begun : RowsOn w v.bq v.bn v.bc x.begun
 marks : MksOn w v.mq v.mn v.mc x.marks
 over : v.o = x.over
structure SV.Own (v : SV) (w : World) (x : SerD) : Prop where
 sch : OwnB w v.tq v.tn v.tc x.bs
 rows : OwnL w v.rq v.rn v.rc x.rows
 begun : OwnL w v.bq v.bn v.bc x.begun
 marks : OwnM w v.mq v.mn v.mc x.marks
 over : v.o = x.over
theorem SV.On.below {B : Nat} {w w' : World} {v : SV} {x : SerD} (h : v.On w x) (hb : Below B w w') (hB : w.heap.size ≤ B) : v.On w' x :=
 ⟨h.sch.below hb hB, h.sok, h.rows.below hb hB, h.begun.below hb hB, h.marks.below hb hB, h.over⟩
theorem SV.Own.below {w w' : World} {v : SV} {x : SerD} (h : v.Own w x) (hb : Below w.heap.size w w') : v.Own w' x :=
 ⟨⟨h.sch.1.below hb, h.sch.2⟩, h.rows.below hb, h.begun.below hb, h.marks.below hb, h.over⟩
theorem SV.Own.gt {T' : TypeId} {w w' : World} {g : Nat} {v : SV} {x : SerD} {cs : List Value} (h : v.Own w x) (hg : w.grownBy w' (some g)) (hr : RowV T' w g cs) (h1 : 68 ≠ T') (h2 : 25 ≠ T') (h3 : 75 ≠ T') : v.Own w' x :=
 ⟨⟨h.sch.1.gt hg hr h3, h.sch.2⟩, h.rows.gt hg hr h1, h.begun.gt hg hr h1, h.marks.gt hg hr h1 h2, h.over⟩
theorem SV.Own.reads {w : World} {v : SV} {x : SerD} (h : v.Own w x) : v.On w x :=
 ⟨h.sch.1.reads, h.sch.2, h.rows.reads, h.begun.reads, h.marks.reads, h.over⟩
/-- so many rows, tables and savepoints that copies have room -/
structure Few (x : SerD) : Prop where
 bs : x.bs.length ≤ 1000000
 rows : x.rows.length ≤ 1000000
 begun : x.begun.length ≤ 1000000
 marks : x.marks.length ≤ 1000000
 each : ∀ l ∈ x.marks, l.length ≤ 1000000
/-- an answer's three words -/
structure AV where
 e : Int
 q : Option Addr
 n : Nat
 c : Nat
 k : Int
def AV.cells (v : AV) : List Value := [.int .i64 v.e, .slice v.q v.n v.c, .int .i64 v.k]
structure AV.Own (v : AV) (w : World) (a : AnsD) : Prop where
 e : v.e = a.e
 rows : OwnL w v.q v.n v.c a.rows
 n : v.k = a.n
theorem AV.Own.below {w w' : World} {v : AV} {a : AnsD} (h : v.Own w a) (hb : Below w.heap.size w w') : v.Own w' a := ⟨h.e, h.rows.below hb, h.n⟩
theorem AV.Own.gt {T' : TypeId} {w w' : World} {g : Nat} {v : AV} {x : AnsD} {cs : List Value} (h : v.Own w x) (hg : w.grownBy w' (some g)) (hr : RowV T' w g cs) (h1 : 68 ≠ T') : v.Own w' x := ⟨h.e, h.rows.gt hg hr h1, h.n⟩
def errA (e : Int) : AnsD := ⟨e, [], 0⟩
theorem sizeSer (a b c d e : Value) : (Try.prog.info? 46).map (·.size) = some [a, b, c, d, e].length := by
 have h : (Try.prog.info? 46).map (·.size) = some 5 := by kernel_rfl
 exact h
theorem sizeReq (a b c d e f g h : Value) : (Try.prog.info? 30).map (·.size) = some [a, b, c, d, e, f, g, h].length := by
 have h : (Try.prog.info? 30).map (·.size) = some 8 := by kernel_rfl
 exact h
theorem sizeAns (a b c : Value) : (Try.prog.info? 35).map (·.size) = some [a, b, c].length := by
 have h : (Try.prog.info? 35).map (·.size) = some 3 := by kernel_rfl
 exact h
theorem ans_one (a : Int) (q : Option Addr) (n c : Nat) (k : Int) : ∀ v ∈ ([.int .i64 a, .slice q n c, .int .i64 k] : List Value), v.oneCell' = true := by
 intro v hv
 simp only [List.mem_cons, List.not_mem_nil, or_false] at hv
 rcases hv with rfl | rfl | rfl <;> rfl
theorem ser_one (v : SV) : ∀ x ∈ v.cells, x.oneCell' = true := by
 intro x hv
 simp only [SV.cells, List.mem_cons, List.not_mem_nil, or_false] at hv
 rcases hv with rfl | rfl | rfl | rfl | rfl <;> rfl
theorem ser_one' (a b c d : Option Addr) (a1 a2 b1 b2 c1 c2 d1 d2 : Nat) (o : Bool) : ∀ x ∈ ([.slice a a1 a2, .slice b b1 b2, .slice c c1 c2, .slice d d1 d2, .bool o] : List Value), x.oneCell' = true := ser_one ⟨a, a1, a2, b, b1, b2, c, c1, c2, d, d1, d2, o⟩
end Go.Proofs.Ytkdkncbccofpdaa
