/- Slices of contents; what stands while two contents are cut to what can be gone through. -/
import Derived.Test.YtcniolmihpkmmaaKDf
import Derived.Test.YtcniolmihpkmmaaKOpn
import Derived.Test.YtcniolmihpkmmaaKWak
import Derived.Test.YtcniolmihpkmmaaFour
namespace Go.Proofs.Ytcniolmihpkmmaa
open Go.ChangeShapes Go.WideShapes Go.ChangeAt Go.RowKit Go.Deep Go.Joins
set_option maxRecDepth 100000

structure ContV where
  k : Int
  rq : Option Addr
  rn : Nat
  rc : Nat
  kq : Option Addr
  kn : Nat
  kc : Nat
  c : ContD
def ContV.cells (x : ContV) : List Value := [.int .i64 x.k, .slice x.rq x.rn x.rc, .slice x.kq x.kn x.kc]
def ContV.on (w : World) (x : ContV) : Prop := ContOn w x.k x.rq x.rn x.rc x.kq x.kn x.kc x.c
structure ContsOn (w : World) (q : Option Addr) (n c : Nat) (l : List ContV) : Prop where
  len : l.length = n
  le : n ≤ c
  cap : c ≤ maxLen
  get : ∀ i r, l[i]? = some r → ∃ a, q = some a ∧ ∀ j x, r.cells[j]? = some x → w.cell? ((a.add (i * 3)).add j) = some x
  on : ∀ r ∈ l, r.on w
theorem ContsOn.below {B : Nat} {w w' : World} {q : Option Addr} {n c : Nat} {l : List ContV} (h : ContsOn w q n c l) (hb : Below B w w') (hB : w.heap.size ≤ B) : ContsOn w' q n c l :=
  ⟨h.len, h.le, h.cap, fun i r hi => by
    obtain ⟨a, ha, hc⟩ := h.get i r hi
    exact ⟨a, ha, fun j x hj => cell_keeps hb hB (hc j x hj)⟩, fun r hr => ContOn.below (h.on r hr) hb hB⟩
theorem ContsOn.at {w : World} {q : Option Addr} {n c : Nat} {l : List ContV} (h : ContsOn w q n c l) {i : Nat} (hi : i < n) :
    ∃ a r, q = some a ∧ l[i]? = some r ∧ r.on w ∧ ∀ j x, r.cells[j]? = some x → w.cell? ((a.add (i * 3)).add j) = some x := by
  have hl := h.len
  have hx : l[i]? = some (l[i]'(by omega)) := List.getElem?_eq_getElem (by omega)
  obtain ⟨a, ha, hc⟩ := h.get i _ hx
  exact ⟨a, _, ha, hx, h.on _ (List.mem_of_getElem? hx), hc⟩

section
variable {H : Type} {enc : TypeId × Value → H} {W : World}
theorem cont_cells {fuel : Nat} {cs : List Value} {x : DataW H × List MemPlace} (hf : DataW.trod enc Try.prog W 0 (fun _ => true) true fuel 27 cs = some x) : ∃ y : ContV, cs = y.cells ∧ y.on W := by
  obtain ⟨xs, n, _, _, hlen, hxl, hg⟩ := DataW.trod_struct Try.underlying27 hf
  rw [cellsCont] at hlen
  have hx3 : xs.length = 3 := hxl
  match cs, hlen with
  | [c0, c1, c2], _ =>
    have g0 : DataW.trod enc Try.prog W 0 (fun _ => true) true n 3 (([c0, c1, c2].drop 0).take (Try.prog.cellsOf 3)) = xs[0]? := hg 0 _ rfl
    have g1 : DataW.trod enc Try.prog W 0 (fun _ => true) true n 23 (([c0, c1, c2].drop 1).take (Try.prog.cellsOf 23)) = xs[1]? := hg 1 _ rfl
    have g2 : DataW.trod enc Try.prog W 0 (fun _ => true) true n 25 (([c0, c1, c2].drop 2).take (Try.prog.cellsOf 25)) = xs[2]? := hg 2 _ rfl
    obtain ⟨y0, e0⟩ := get_some (l := xs) (i := 0) (by omega)
    obtain ⟨y1, e1⟩ := get_some (l := xs) (i := 1) (by omega)
    obtain ⟨y2, e2⟩ := get_some (l := xs) (i := 2) (by omega)
    rw [e0, cellsInt] at g0
    rw [e1, cellsRows] at g1
    rw [e2, cellsKids] at g2
    obtain ⟨a, ha, _, _⟩ := DataW.trod_int Try.underlying3 g0
    obtain ⟨rq, rn, rc, L, h1, o1⟩ := list_row g1
    obtain ⟨kq, kn, kc, M, h2, o2⟩ := list_kid g2
    simp at ha h1 h2
    subst ha h1 h2
    exact ⟨⟨a, rq, rn, rc, kq, kn, kc, ⟨a, L, M⟩⟩, rfl, rfl, o1, o2⟩
theorem open_conts {a0 : Option Addr} {len cap : Nat} {d : DataW H} {p : List MemPlace} (h : DataW.Trod enc Try.prog W 0 (fun _ => true) true 22 (.slice a0 len cap) d p) : ∃ l, ContsOn W a0 len cap l := by
  obtain ⟨fuel, hf⟩ := h
  rcases open_slice Try.underlying22 hf with ⟨hc, _⟩ | ⟨a, len', cap', m, n, D, Pl, hcs, _, hl, hm, hmm, _, hi⟩
  · simp [Value.cells] at hc
    obtain ⟨rfl, rfl, rfl⟩ := hc
    exact ⟨[], rfl, Nat.le_refl _, Nat.zero_le _, fun i r h => (by simp at h), fun r h => (by cases h)⟩
  · simp [Value.cells] at hcs
    obtain ⟨rfl, rfl, rfl⟩ := hcs
    rw [cellsCont] at hi
    obtain ⟨l, h1, h2⟩ := elems_of (n := len) (cells := ContV.cells) (ok := ContV.on W) cellsCont (fun fuel cs x h => cont_cells h) (fun i hin => by
      obtain ⟨cs, hc, ht⟩ := hi i (by rw [hmm]; split <;> omega)
      exact ⟨n, cs, _, hc, ht⟩)
    exact ⟨l, h1, hl, hm, fun i r hr => ⟨a, rfl, (h2 i r hr).2⟩, fun r hr => by obtain ⟨i, hi⟩ := List.mem_iff_getElem?.1 hr; exact (h2 i r hi).1⟩
theorem open_rowsL {a0 : Option Addr} {len cap : Nat} {d : DataW H} {p : List MemPlace} (h : DataW.Trod enc Try.prog W 0 (fun _ => true) true 23 (.slice a0 len cap) d p) : ∃ l, RowsOn W a0 len cap l := by
  obtain ⟨fuel, hf⟩ := h
  obtain ⟨q, n, c, l, hcs, ho⟩ := list_row hf
  simp [Value.cells] at hcs
  obtain ⟨rfl, rfl, rfl⟩ := hcs
  exact ⟨l, ho⟩
end

def boxC : List Value := [.int .i64 0, .slice none 0 0, .slice none 0 0]
def CnV (v : World) (X : Value) (c : ContD) : Prop := ∃ k rq rn rc kq kn kc, X = .agg #[.int .i64 k, .slice rq rn rc, .slice kq kn kc] ∧ ContOn v k rq rn rc kq kn kc c
def BxV (B : Nat) (v : World) (X : Value) : Prop := ∃ b, X = .pointer (some ⟨b, 0, none⟩) ∧ B ≤ b ∧ b < v.heap.size ∧ RowV 27 v b boxC
theorem CnV.below {v v' : World} {X : Value} {c : ContD} (h : CnV v X c) (hb : Below v.heap.size v v') : CnV v' X c := by
  obtain ⟨k, rq, rn, rc, kq, kn, kc, e, h⟩ := h
  exact ⟨k, rq, rn, rc, kq, kn, kc, e, h.below hb (Nat.le_refl _)⟩
theorem BxV.below {B : Nat} {v v' : World} {X : Value} (h : BxV B v X) (hb : Below v.heap.size v v') : BxV B v' X := by
  obtain ⟨b, e, h1, h2, h3⟩ := h
  exact ⟨b, e, h1, Nat.lt_of_lt_of_le h2 hb.size, h3.below hb⟩
structure ApK (w1 : World) (y1 y2 : ContD) (x y z u : Option Value) (v : World) : Prop where
  b : Below w1.heap.size w1 v
  cx : ∀ X, x = some X → CnV v X y1
  cy : ∀ X, y = some X → CnV v X y2
  bz : ∀ X, z = some X → BxV w1.heap.size v X
  bu : ∀ X, u = some X → BxV w1.heap.size v X
  ne : ∀ X Y, z = some X → u = some Y → X ≠ Y
theorem add_block {a : Addr} {j b : Nat} (h : (a.add j).block = b) : a.block = b := by
  rw [← h]
  unfold Addr.add
  split <;> rfl
theorem no_row {w : World} {b : Nat} {a : Addr} {t1 : Int} {q1 q2 : Option Addr} {n1 c1 n2 c2 : Nat} {s : ByteArray} (hb : RowV 27 w b [.int .i64 t1, .slice q1 n1 c1, .slice q2 n2 c2]) (ha : a.block = b) : ¬ w.cell? (a.add 3) = some (.string s) := by
  intro h
  obtain ⟨b', o, r⟩ := a
  obtain rfl : b' = b := ha
  rw [show ((⟨b', o, r⟩ : Addr).add 3) = ⟨b', o + 3, none⟩ from rfl, hb.cell] at h
  simp at h
theorem no_kid {w : World} {b : Nat} {a : Addr} {t1 x : Int} {q1 q2 : Option Addr} {n1 c1 n2 c2 : Nat} (hb : RowV 27 w b [.int .i64 t1, .slice q1 n1 c1, .slice q2 n2 c2]) (ha : a.block = b) : ¬ w.cell? (a.add 1) = some (.int .u16 x) := by
  intro h
  obtain ⟨b', o, r⟩ := a
  obtain rfl : b' = b := ha
  rw [show ((⟨b', o, r⟩ : Addr).add 1) = ⟨b', o + 1, none⟩ from rfl, hb.cell] at h
  match o, h with
  | 0, h => simp at h
  | 1, h => simp at h
  | o + 2, h => simp at h
/-- a content's cells lie in no box of contents -/
theorem ContOn.store {w w' : World} {k : Int} {rq kq : Option Addr} {rn rc kn kc b : Nat} {c : ContD} {t1 : Int} {q1 q2 : Option Addr} {n1 c1 n2 c2 : Nat} (h : ContOn w k rq rn rc kq kn kc c) (hb : RowV 27 w b [.int .i64 t1, .slice q1 n1 c1, .slice q2 n2 c2]) (hg : w.grownBy w' (some b)) : ContOn w' k rq rn rc kq kn kc c := by
  refine ⟨h.kind, ⟨h.rows.len, h.rows.le, h.rows.cap, h.rows.nil, fun i r hi => ?_, h.rows.ok⟩, ⟨h.kids.len, h.kids.le, h.kids.cap, h.kids.nil, fun i r hi => ?_, h.kids.ok⟩⟩
  · obtain ⟨a, ha, hc⟩ := h.rows.get i r hi
    refine ⟨a, ha, fun j x hj => ?_⟩
    by_cases hne : ((a.add (i * 4)).add j).block = b
    · exact absurd (hc 3 _ rfl) (no_row hb (add_block hne))
    · exact Gr.cell hg hne (hc j x hj)
  · obtain ⟨a, ha, hc⟩ := h.kids.get i r hi
    refine ⟨a, ha, fun j x hj => ?_⟩
    by_cases hne : ((a.add (i * 3)).add j).block = b
    · exact absurd (hc 1 _ rfl) (no_kid hb (add_block hne))
    · exact Gr.cell hg hne (hc j x hj)

end Go.Proofs.Ytcniolmihpkmmaa
