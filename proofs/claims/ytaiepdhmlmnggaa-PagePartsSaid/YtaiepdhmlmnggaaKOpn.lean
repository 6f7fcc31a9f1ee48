/- The laws' arguments, opened to their cells: contents. -/
import Derived.Test.YtaiepdhmlmnggaaKSame
import Derived.Deep.Slices
import Derived.Deep.Fields
import Derived.ChangeSame
import Derived.Lib.SmallJoins
namespace Go.Proofs.Ytaiepdhmlmnggaa
open Go.ChangeShapes Go.WideShapes Go.ChangeAt Go.RowKit Go.Deep Go.Joins
set_option maxRecDepth 100000

theorem cellsInt : Try.prog.cellsOf 3 = 1 := by kernel_rfl
theorem cellsI64 : Try.prog.cellsOf 2 = 1 := by kernel_rfl
theorem cellsU16 : Try.prog.cellsOf 26 = 1 := by kernel_rfl
theorem cellsStr : Try.prog.cellsOf 9 = 1 := by kernel_rfl
theorem cellsKey : Try.prog.cellsOf 28 = 2 := by kernel_rfl
theorem cellsRow : Try.prog.cellsOf 30 = 4 := by kernel_rfl
theorem cellsKid : Try.prog.cellsOf 64 = 3 := by kernel_rfl
theorem cellsCont : Try.prog.cellsOf 25 = 3 := by kernel_rfl
theorem cellsRows : Try.prog.cellsOf 22 = 1 := by kernel_rfl
theorem cellsKids : Try.prog.cellsOf 23 = 1 := by kernel_rfl

theorem i64_of_wf {x : Int} (h : (Lit.int .i64 x).wf = true) : I64 x := by
  have h1 : IntKind.i64.min = -9223372036854775808 := rfl
  have h2 : IntKind.i64.max = 9223372036854775807 := rfl
  simp only [Lit.wf, Bool.and_eq_true, decide_eq_true_eq] at h
  unfold I64; omega
theorem u16_of_wf {x : Int} (h : (Lit.int .u16 x).wf = true) : 0 ≤ x ∧ x < 65536 := by
  have h1 : IntKind.u16.min = 0 := rfl
  have h2 : IntKind.u16.max = 65535 := rfl
  simp only [Lit.wf, Bool.and_eq_true, decide_eq_true_eq] at h
  omega

section
variable {H : Type} {enc : TypeId × Value → H} {W : World}

theorem get_some {α : Type} {l : List α} {i : Nat} (h : i < l.length) : ∃ x, l[i]? = some x := ⟨_, List.getElem?_eq_getElem h⟩

theorem key_cells {fuel : Nat} {cs : List Value} {x : DataW H × List MemPlace} (h : DataW.trod enc Try.prog W 0 (fun _ => true) true fuel 28 cs = some x) : ∃ k : KeyD, cs = k.cells ∧ KeyOk k := by
  obtain ⟨xs, n, _, _, hlen, hxl, hg⟩ := DataW.trod_struct Try.underlying28 h
  rw [cellsKey] at hlen
  have hx2 : xs.length = 2 := hxl
  match cs, hlen with
  | [c0, c1], _ =>
    have g0 : DataW.trod enc Try.prog W 0 (fun _ => true) true n 3 (([c0, c1].drop 0).take (Try.prog.cellsOf 3)) = xs[0]? := hg 0 _ rfl
    have g1 : DataW.trod enc Try.prog W 0 (fun _ => true) true n 26 (([c0, c1].drop 1).take (Try.prog.cellsOf 26)) = xs[1]? := hg 1 _ rfl
    obtain ⟨y0, e0⟩ := get_some (l := xs) (i := 0) (by omega)
    obtain ⟨y1, e1⟩ := get_some (l := xs) (i := 1) (by omega)
    rw [e0, cellsInt] at g0
    rw [e1, cellsU16] at g1
    obtain ⟨a, ha, _, wa⟩ := DataW.trod_int Try.underlying3 g0
    obtain ⟨b, hb, _, wb⟩ := DataW.trod_int Try.underlying26 g1
    simp at ha hb
    subst ha hb
    exact ⟨⟨a, b⟩, rfl, i64_of_wf wa, u16_of_wf wb⟩

theorem row_cells {fuel : Nat} {cs : List Value} {x : DataW H × List MemPlace} (h : DataW.trod enc Try.prog W 0 (fun _ => true) true fuel 30 cs = some x) : ∃ r : RowD, cs = r.cells ∧ RowOk r := by
  obtain ⟨xs, n, _, _, hlen, hxl, hg⟩ := DataW.trod_struct Try.underlying30 h
  rw [cellsRow] at hlen
  have hx2 : xs.length = 3 := hxl
  match cs, hlen with
  | [c0, c1, c2, c3], _ =>
    have g0 : DataW.trod enc Try.prog W 0 (fun _ => true) true n 28 (([c0, c1, c2, c3].drop 0).take (Try.prog.cellsOf 28)) = xs[0]? := hg 0 _ rfl
    have g1 : DataW.trod enc Try.prog W 0 (fun _ => true) true n 2 (([c0, c1, c2, c3].drop 2).take (Try.prog.cellsOf 2)) = xs[1]? := hg 1 _ rfl
    have g2 : DataW.trod enc Try.prog W 0 (fun _ => true) true n 9 (([c0, c1, c2, c3].drop 3).take (Try.prog.cellsOf 9)) = xs[2]? := hg 2 _ rfl
    obtain ⟨y0, e0⟩ := get_some (l := xs) (i := 0) (by omega)
    obtain ⟨y1, e1⟩ := get_some (l := xs) (i := 1) (by omega)
    obtain ⟨y2, e2⟩ := get_some (l := xs) (i := 2) (by omega)
    rw [e0, cellsKey] at g0
    rw [e1, cellsI64] at g1
    rw [e2, cellsStr] at g2
    obtain ⟨⟨a, b⟩, hk, ok⟩ := key_cells g0
    obtain ⟨v, hv, _, wv⟩ := DataW.trod_int Try.underlying2 g1
    obtain ⟨s, hs, _, ws⟩ := DataW.trod_string Try.underlying9 g2
    simp [KeyD.cells] at hk hv hs
    obtain ⟨rfl, rfl⟩ := hk
    subst hv hs
    exact ⟨⟨⟨a, b⟩, v, s⟩, rfl, ok, i64_of_wf wv, ws⟩

theorem kid_cells {fuel : Nat} {cs : List Value} {x : DataW H × List MemPlace} (h : DataW.trod enc Try.prog W 0 (fun _ => true) true fuel 64 cs = some x) : ∃ r : KidD, cs = r.cells ∧ KidOk r := by
  obtain ⟨xs, n, _, _, hlen, hxl, hg⟩ := DataW.trod_struct Try.underlying64 h
  rw [cellsKid] at hlen
  have hx2 : xs.length = 2 := hxl
  match cs, hlen with
  | [c0, c1, c2], _ =>
    have g0 : DataW.trod enc Try.prog W 0 (fun _ => true) true n 28 (([c0, c1, c2].drop 0).take (Try.prog.cellsOf 28)) = xs[0]? := hg 0 _ rfl
    have g1 : DataW.trod enc Try.prog W 0 (fun _ => true) true n 3 (([c0, c1, c2].drop 2).take (Try.prog.cellsOf 3)) = xs[1]? := hg 1 _ rfl
    obtain ⟨y0, e0⟩ := get_some (l := xs) (i := 0) (by omega)
    obtain ⟨y1, e1⟩ := get_some (l := xs) (i := 1) (by omega)
    rw [e0, cellsKey] at g0
    rw [e1, cellsInt] at g1
    obtain ⟨⟨a, b⟩, hk, ok⟩ := key_cells g0
    obtain ⟨v, hv, _, wv⟩ := DataW.trod_int Try.underlying3 g1
    simp [KeyD.cells] at hk hv
    obtain ⟨rfl, rfl⟩ := hk
    subst hv
    exact ⟨⟨⟨a, b⟩, v⟩, rfl, ok, i64_of_wf wv⟩

/-- what a slice of whole elements reads as -/
theorem elems_of {α : Type} {cells : α → List Value} {ok : α → Prop} {e sz n : Nat} {a : Addr} (hsz : Try.prog.cellsOf e = sz)
    (hd : ∀ (fuel : Nat) (cs : List Value) (x : DataW H × List MemPlace), DataW.trod enc Try.prog W 0 (fun _ => true) true fuel e cs = some x → ∃ y, cs = cells y ∧ ok y)
    (hi : ∀ i, i < n → ∃ fuel cs x, W.cells? 0 (a.add (i * sz)) sz = some cs ∧ DataW.trod enc Try.prog W 0 (fun _ => true) true fuel e cs = some x) :
    ∃ l : List α, l.length = n ∧ (∀ i y, l[i]? = some y → ok y ∧ ∀ j v, (cells y)[j]? = some v → W.cell? ((a.add (i * sz)).add j) = some v) := by
  have key : ∀ i, i < n → ∃ y : α, ok y ∧ ∀ j v, (cells y)[j]? = some v → W.cell? ((a.add (i * sz)).add j) = some v := fun i h => by
    obtain ⟨fuel, cs, x, hc, ht⟩ := hi i h
    obtain ⟨y, rfl, hok⟩ := hd fuel cs x ht
    obtain ⟨_, hlen, hat⟩ := World.cells?_some hc
    refine ⟨y, hok, fun j v hj => ?_⟩
    have hjl : j < sz := by have := (List.getElem?_eq_some_iff.1 hj).1; omega
    rw [hat j hjl, hj]
  subst hsz
  obtain ⟨L, hL⟩ : ∃ L : (i : Nat) → i < n → α, ∀ i h, ok (L i h) ∧ ∀ j v, (cells (L i h))[j]? = some v → W.cell? ((a.add (i * Try.prog.cellsOf e)).add j) = some v :=
    ⟨fun i h => Classical.choose (key i h), fun i h => Classical.choose_spec (key i h)⟩
  refine ⟨List.ofFn fun i : Fin n => L i.1 i.2, by simp, fun i y hy => ?_⟩
  obtain ⟨hl, hv⟩ := List.getElem?_eq_some_iff.1 hy
  simp at hl
  have : y = L i hl := by rw [← hv]; simp
  rw [this]
  exact hL i hl

theorem list_row {fuel : Nat} {cs : List Value} {x : DataW H × List MemPlace} (hf : DataW.trod enc Try.prog W 0 (fun _ => true) true fuel 22 cs = some x) : ∃ q n c l, cs = [.slice q n c] ∧ RowsOn W q n c l := by
  rcases open_slice Try.underlying22 hf with ⟨hc, _⟩ | ⟨a, len, cap, m, n, D, Pl, hcs, _, hl, hm, hmm, _, hi⟩
  · exact ⟨none, 0, 0, [], hc, RowsOn.none_ W⟩
  · rw [cellsRow] at hi
    obtain ⟨l, h1, h2⟩ := elems_of (n := len) (cells := RowD.cells) (ok := RowOk) cellsRow (fun fuel cs x h => row_cells h) (fun i hin => by
      obtain ⟨cs, hc, ht⟩ := hi i (by rw [hmm]; split <;> omega)
      exact ⟨n, cs, _, hc, ht⟩)
    exact ⟨some a, len, cap, l, hcs, h1, hl, hm, (fun e => by cases e), fun i r hr => ⟨a, rfl, (h2 i r hr).2⟩, fun r hr => by obtain ⟨i, hi⟩ := List.mem_iff_getElem?.1 hr; exact (h2 i r hi).1⟩

theorem list_kid {fuel : Nat} {cs : List Value} {x : DataW H × List MemPlace} (hf : DataW.trod enc Try.prog W 0 (fun _ => true) true fuel 23 cs = some x) : ∃ q n c l, cs = [.slice q n c] ∧ KidsOn W q n c l := by
  rcases open_slice Try.underlying23 hf with ⟨hc, _⟩ | ⟨a, len, cap, m, n, D, Pl, hcs, _, hl, hm, hmm, _, hi⟩
  · exact ⟨none, 0, 0, [], hc, KidsOn.none_ W⟩
  · rw [cellsKid] at hi
    obtain ⟨l, h1, h2⟩ := elems_of (n := len) (cells := KidD.cells) (ok := KidOk) cellsKid (fun fuel cs x h => kid_cells h) (fun i hin => by
      obtain ⟨cs, hc, ht⟩ := hi i (by rw [hmm]; split <;> omega)
      exact ⟨n, cs, _, hc, ht⟩)
    exact ⟨some a, len, cap, l, hcs, h1, hl, hm, (fun e => by cases e), fun i r hr => ⟨a, rfl, (h2 i r hr).2⟩, fun r hr => by obtain ⟨i, hi⟩ := List.mem_iff_getElem?.1 hr; exact (h2 i r hi).1⟩

theorem open_cont {r : Reach} {b0 : Nat} {v : Value} {d : DataW H} {p : List MemPlace} (hv : Value.okWide Try.prog W r b0 25 v) (h : DataW.Trod enc Try.prog W 0 (fun _ => true) true 25 v d p) : ∃ k rq rn rc kq kn kc c, v = .agg #[.int .i64 k, .slice rq rn rc, .slice kq kn kc] ∧ ContOn W k rq rn rc kq kn kc c := by
  obtain ⟨cs, rfl, hsz⟩ := okWide_struct Try.underlying25 hv
  obtain ⟨fuel, hf⟩ := h
  obtain ⟨xs, n, _, _, hlen, hxl, hg⟩ := DataW.trod_struct Try.underlying25 hf
  rw [cellsCont] at hsz
  have hx3 : xs.length = 3 := hxl
  obtain ⟨l⟩ := cs
  match l, hsz with
  | [c0, c1, c2], _ =>
    have g0 : DataW.trod enc Try.prog W 0 (fun _ => true) true n 3 (([c0, c1, c2].drop 0).take (Try.prog.cellsOf 3)) = xs[0]? := hg 0 _ rfl
    have g1 : DataW.trod enc Try.prog W 0 (fun _ => true) true n 22 (([c0, c1, c2].drop 1).take (Try.prog.cellsOf 22)) = xs[1]? := hg 1 _ rfl
    have g2 : DataW.trod enc Try.prog W 0 (fun _ => true) true n 23 (([c0, c1, c2].drop 2).take (Try.prog.cellsOf 23)) = xs[2]? := hg 2 _ rfl
    obtain ⟨y0, e0⟩ := get_some (l := xs) (i := 0) (by omega)
    obtain ⟨y1, e1⟩ := get_some (l := xs) (i := 1) (by omega)
    obtain ⟨y2, e2⟩ := get_some (l := xs) (i := 2) (by omega)
    rw [e0, cellsInt] at g0
    rw [e1, cellsRows] at g1
    rw [e2, cellsKids] at g2
    obtain ⟨a, ha, _, _⟩ := DataW.trod_int Try.underlying3 g0
    obtain ⟨rq, rn, rc, L, h1, o1⟩ := list_row g1
    obtain ⟨kq, kn, kc, M, h2, o2⟩ := list_kid g2
    simp at ha h1 h2
    subst ha h1 h2
    exact ⟨a, rq, rn, rc, kq, kn, kc, ⟨a, L, M⟩, rfl, rfl, o1, o2⟩
end
end Go.Proofs.Ytaiepdhmlmnggaa
