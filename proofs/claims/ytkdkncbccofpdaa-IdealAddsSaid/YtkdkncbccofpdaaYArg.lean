/- The laws' arguments, opened to their cells: rows, keys, schemas, and lists of them; and the last step of every law's proof. -/
import Derived.Test.YtkdkncbccofpdaaYFnd
import Derived.ProofKit
import Derived.Deep.Slices
import Derived.Deep.Fields
import Derived.ChangeSame
import Derived.Lib.SmallJoins
namespace Go.Proofs.Ytkdkncbccofpdaa
set_option maxRecDepth 100000
open Go.ChangeShapes Go.WideShapes Go.ChangeAt Go.RowKit Go.Deep Go.Joins

theorem own : ownKnob Try.prog.godebug = none := by kernel_rfl
theorem laidOut : laidOutB Try.prog = true := by kernel_rfl
theorem cellsInt : Try.prog.cellsOf 3 = 1 := by kernel_rfl
theorem cellsI64 : Try.prog.cellsOf 2 = 1 := by kernel_rfl
theorem cellsU16 : Try.prog.cellsOf 26 = 1 := by kernel_rfl
theorem cellsStr : Try.prog.cellsOf 9 = 1 := by kernel_rfl
theorem cellsKey : Try.prog.cellsOf 28 = 2 := by kernel_rfl
theorem cellsRow : Try.prog.cellsOf 68 = 4 := by kernel_rfl
theorem cellsBd : Try.prog.cellsOf 75 = 2 := by kernel_rfl
theorem cellsSch : Try.prog.cellsOf 24 = 1 := by kernel_rfl
theorem cellsBds : Try.prog.cellsOf 22 = 1 := by kernel_rfl

section
variable {H : Type} {enc : TypeId × Value → H} {P : Program}

theorem trodAll_below (hl : laidOutB P = true) {W W' : World} (hb : Below W.heap.size W W') : ∀ (ts : List TypeId) (vs : List Value) (ds : List (DataW H)) (ps : List MemPlace),
    (∀ t ∈ ts, P.readableRec t = true ∧ t < P.types.size) → DataW.TrodAll enc P W 0 (fun _ => true) true ts vs ds ps → (∀ x ∈ ps, x.block < W.heap.size) →
    DataW.TrodAll enc P W' 0 (fun b => decide (b < W.heap.size)) true ts vs ds ps
  | [], [], [], _, _, h, _ => h
  | t :: ts, v :: vs, d :: ds, ps, hr, h, hlt => by
    obtain ⟨p, q, h1, h2, rfl⟩ := h
    have ht := hr t (List.mem_cons_self ..)
    exact ⟨p, q, Below.trod hl ht.1 ht.2 h1 hb (fun x hx => hlt x (List.mem_append.2 (.inl hx))),
      trodAll_below hl hb ts vs ds q (fun t h => hr t (List.mem_cons_of_mem _ h)) h2 (fun x hx => hlt x (List.mem_append.2 (.inr hx))), rfl⟩
  | [], _ :: _, _, _, _, h, _ => by cases h
  | [], [], _ :: _, _, _, h, _ => by cases h
  | _ :: _, [], _, _, _, h, _ => by cases h
  | _ :: _, _ :: _, [], _, _, h, _ => by cases h

/-- THE LAST STEP OF A LAW: true came back, and below the heap's end nothing has turned. -/
theorem law_post {f : Func} {s : ChangeSpec} {W W' : World} {args : Array Value} {ds gs : List (DataW H)} {before : List MemPlace} {tb : TypeId}
    (hl : laidOutB P = true) (hts : ∀ t ∈ f.params.toList, P.readableRec t = true ∧ t < P.types.size) (hvars : s.vars = []) (hres : f.resultTypes = #[tb]) (hb4 : P.underlying tb = some .bool)
    (hW : DataW.Whole enc P f.params.toList s.vars false W args.toList ds gs before)
    (hfn : (s.fn H (ds ++ gs)).results = [.lit (.bool true)] ∧ (s.fn H (ds ++ gs)).args = ds ∧ (s.fn H (ds ++ gs)).vars = []) (hb : Below W.heap.size W W') :
    s.post enc P f false true false false W args (.bool true) W' := by
  have hlt : ∀ x ∈ before, x.block < W.heap.size := fun x hx => hW.lt x hx
  have hW' := hW
  obtain ⟨p, q, hA, hV, rfl, _, _⟩ := hW
  refine ⟨ds, gs, _, [], p, [], hW', ?_, ?_, ?_, hb.frame _, fun h => by cases h⟩
  · rw [hfn.1, hres]
    exact trodAll_mk1 (shut_bool hb4 true)
  · rw [hfn.2.1]
    exact trodAll_below hl hb _ _ _ _ hts hA (fun x hx => hlt x (List.mem_append.2 (.inl hx)))
  · rw [hfn.2.2, hvars]
    exact rfl
end

theorem i64_of_wf {x : Int} (h : (Lit.int .i64 x).wf = true) : I64 x := by
  have h1 : IntKind.i64.min = -9223372036854775808 := rfl
  have h2 : IntKind.i64.max = 9223372036854775807 := rfl
  simp only [Lit.wf, Bool.and_eq_true, decide_eq_true_eq] at h
  unfold I64; omega
theorem u16_of_wf {x : Int} (h : (Lit.int .u16 x).wf = true) : 0 ≤ x ∧ x < 65536 := by
  have h1 : IntKind.u16.min = 0 := rfl
  have h2 : IntKind.u16.max = 65535 := rfl
  simp only [Lit.wf, Bool.and_eq_true, decide_eq_true_eq] at h
  omega

section
variable {H : Type} {enc : TypeId × Value → H} {W : World}

theorem get_some {α : Type} {l : List α} {i : Nat} (h : i < l.length) : ∃ x, l[i]? = some x := ⟨_, List.getElem?_eq_getElem h⟩

theorem key_cells {fuel : Nat} {cs : List Value} {x : DataW H × List MemPlace} (h : DataW.trod enc Try.prog W 0 (fun _ => true) true fuel 28 cs = some x) : ∃ k : KeyD, cs = k.cells ∧ KeyOk k := by
  obtain ⟨xs, n, _, _, hlen, hxl, hg⟩ := DataW.trod_struct Try.underlying28 h
  rw [cellsKey] at hlen
  have hx2 : xs.length = 2 := hxl
  match cs, hlen with
  | [c0, c1], _ =>
    have g0 : DataW.trod enc Try.prog W 0 (fun _ => true) true n 3 (([c0, c1].drop 0).take (Try.prog.cellsOf 3)) = xs[0]? := hg 0 _ rfl
    have g1 : DataW.trod enc Try.prog W 0 (fun _ => true) true n 26 (([c0, c1].drop 1).take (Try.prog.cellsOf 26)) = xs[1]? := hg 1 _ rfl
    obtain ⟨y0, e0⟩ := get_some (l := xs) (i := 0) (by omega)
    obtain ⟨y1, e1⟩ := get_some (l := xs) (i := 1) (by omega)
    rw [e0, cellsInt] at g0
    rw [e1, cellsU16] at g1
    obtain ⟨a, ha, _, wa⟩ := DataW.trod_int Try.underlying3 g0
    obtain ⟨b, hb, _, wb⟩ := DataW.trod_int Try.underlying26 g1
    simp at ha hb
    subst ha hb
    exact ⟨⟨a, b⟩, rfl, i64_of_wf wa, u16_of_wf wb⟩

theorem row_cells {fuel : Nat} {cs : List Value} {x : DataW H × List MemPlace} (h : DataW.trod enc Try.prog W 0 (fun _ => true) true fuel 68 cs = some x) : ∃ r : RowD, cs = r.cells ∧ RowOk r := by
  obtain ⟨xs, n, _, _, hlen, hxl, hg⟩ := DataW.trod_struct Try.underlying68 h
  rw [cellsRow] at hlen
  have hx2 : xs.length = 3 := hxl
  match cs, hlen with
  | [c0, c1, c2, c3], _ =>
    have g0 : DataW.trod enc Try.prog W 0 (fun _ => true) true n 28 (([c0, c1, c2, c3].drop 0).take (Try.prog.cellsOf 28)) = xs[0]? := hg 0 _ rfl
    have g1 : DataW.trod enc Try.prog W 0 (fun _ => true) true n 2 (([c0, c1, c2, c3].drop 2).take (Try.prog.cellsOf 2)) = xs[1]? := hg 1 _ rfl
    have g2 : DataW.trod enc Try.prog W 0 (fun _ => true) true n 9 (([c0, c1, c2, c3].drop 3).take (Try.prog.cellsOf 9)) = xs[2]? := hg 2 _ rfl
    obtain ⟨y0, e0⟩ := get_some (l := xs) (i := 0) (by omega)
    obtain ⟨y1, e1⟩ := get_some (l := xs) (i := 1) (by omega)
    obtain ⟨y2, e2⟩ := get_some (l := xs) (i := 2) (by omega)
    rw [e0, cellsKey] at g0
    rw [e1, cellsI64] at g1
    rw [e2, cellsStr] at g2
    obtain ⟨⟨a, b⟩, hk, ok⟩ := key_cells g0
    obtain ⟨v, hv, _, wv⟩ := DataW.trod_int Try.underlying2 g1
    obtain ⟨s, hs, _, ws⟩ := DataW.trod_string Try.underlying9 g2
    simp [KeyD.cells] at hk hv hs
    obtain ⟨rfl, rfl⟩ := hk
    subst hv hs
    exact ⟨⟨⟨a, b⟩, v, s⟩, rfl, ok, i64_of_wf wv, ws⟩

theorem bd_cells {fuel : Nat} {cs : List Value} {x : DataW H × List MemPlace} (h : DataW.trod enc Try.prog W 0 (fun _ => true) true fuel 75 cs = some x) : ∃ b : BdD, cs = b.cells ∧ I64 b.lo ∧ I64 b.hi := by
  obtain ⟨xs, n, _, _, hlen, hxl, hg⟩ := DataW.trod_struct Try.underlying75 h
  rw [cellsBd] at hlen
  have hx2 : xs.length = 2 := hxl
  match cs, hlen with
  | [c0, c1], _ =>
    have g0 : DataW.trod enc Try.prog W 0 (fun _ => true) true n 2 (([c0, c1].drop 0).take (Try.prog.cellsOf 2)) = xs[0]? := hg 0 _ rfl
    have g1 : DataW.trod enc Try.prog W 0 (fun _ => true) true n 2 (([c0, c1].drop 1).take (Try.prog.cellsOf 2)) = xs[1]? := hg 1 _ rfl
    obtain ⟨y0, e0⟩ := get_some (l := xs) (i := 0) (by omega)
    obtain ⟨y1, e1⟩ := get_some (l := xs) (i := 1) (by omega)
    rw [e0, cellsI64] at g0
    rw [e1, cellsI64] at g1
    obtain ⟨a, ha, _, wa⟩ := DataW.trod_int Try.underlying2 g0
    obtain ⟨b, hb, _, wb⟩ := DataW.trod_int Try.underlying2 g1
    simp at ha hb
    subst ha hb
    exact ⟨⟨a, b⟩, rfl, i64_of_wf wa, i64_of_wf wb⟩

/-- what a slice of whole elements reads as -/
theorem elems_of {α : Type} {cells : α → List Value} {ok : α → Prop} {e sz n : Nat} {a : Addr} (hsz : Try.prog.cellsOf e = sz)
    (hd : ∀ (fuel : Nat) (cs : List Value) (x : DataW H × List MemPlace), DataW.trod enc Try.prog W 0 (fun _ => true) true fuel e cs = some x → ∃ y, cs = cells y ∧ ok y)
    (hi : ∀ i, i < n → ∃ fuel cs x, W.cells? 0 (a.add (i * sz)) sz = some cs ∧ DataW.trod enc Try.prog W 0 (fun _ => true) true fuel e cs = some x) :
    ∃ l : List α, l.length = n ∧ (∀ i y, l[i]? = some y → ok y ∧ ∀ j v, (cells y)[j]? = some v → W.cell? ((a.add (i * sz)).add j) = some v) := by
  have key : ∀ i, i < n → ∃ y : α, ok y ∧ ∀ j v, (cells y)[j]? = some v → W.cell? ((a.add (i * sz)).add j) = some v := fun i h => by
    obtain ⟨fuel, cs, x, hc, ht⟩ := hi i h
    obtain ⟨y, rfl, hok⟩ := hd fuel cs x ht
    obtain ⟨_, hlen, hat⟩ := World.cells?_some hc
    refine ⟨y, hok, fun j v hj => ?_⟩
    have hjl : j < sz := by have := (List.getElem?_eq_some_iff.1 hj).1; omega
    rw [hat j hjl, hj]
  subst hsz
  obtain ⟨L, hL⟩ : ∃ L : (i : Nat) → i < n → α, ∀ i h, ok (L i h) ∧ ∀ j v, (cells (L i h))[j]? = some v → W.cell? ((a.add (i * Try.prog.cellsOf e)).add j) = some v :=
    ⟨fun i h => Classical.choose (key i h), fun i h => Classical.choose_spec (key i h)⟩
  refine ⟨List.ofFn fun i : Fin n => L i.1 i.2, by simp, fun i y hy => ?_⟩
  obtain ⟨hl, hv⟩ := List.getElem?_eq_some_iff.1 hy
  simp at hl
  have : y = L i hl := by rw [← hv]; simp
  rw [this]
  exact hL i hl

theorem open_rows {a0 : Option Addr} {len cap : Nat} {d : DataW H} {p : List MemPlace} (h : DataW.Trod enc Try.prog W 0 (fun _ => true) true 25 (.slice a0 len cap) d p) : ∃ l, RowsOn W a0 len cap l := by
  obtain ⟨fuel, hf⟩ := h
  rcases open_slice Try.underlying25 hf with ⟨hc, _⟩ | ⟨a, len', cap', m, n, D, Pl, hcs, _, hl, hm, hmm, _, hi⟩
  · simp [Value.cells] at hc
    obtain ⟨rfl, rfl, rfl⟩ := hc
    exact ⟨[], RowsOn.none_ W⟩
  · simp [Value.cells] at hcs
    obtain ⟨rfl, rfl, rfl⟩ := hcs
    rw [cellsRow] at hi
    obtain ⟨l, h1, h2⟩ := elems_of (n := len) (cells := RowD.cells) (ok := RowOk) cellsRow (fun fuel cs x h => row_cells h) (fun i hin => by
      obtain ⟨cs, hc, ht⟩ := hi i (by rw [hmm]; split <;> omega)
      exact ⟨n, cs, _, hc, ht⟩)
    exact ⟨l, h1, hl, hm, (fun e => by cases e), fun i r hr => ⟨a, rfl, (h2 i r hr).2⟩, fun r hr => by obtain ⟨i, hi⟩ := List.mem_iff_getElem?.1 hr; exact (h2 i r hi).1⟩

theorem open_bds {fuel : Nat} {cs : List Value} {x : DataW H × List MemPlace} (hf : DataW.trod enc Try.prog W 0 (fun _ => true) true fuel 22 cs = some x) : ∃ q n c l, cs = [.slice q n c] ∧ SchOn W q n c l := by
  rcases open_slice Try.underlying22 hf with ⟨hc, _⟩ | ⟨a, len, cap, m, n, D, Pl, hcs, _, hl, hm, hmm, _, hi⟩
  · exact ⟨none, 0, 0, [], hc, SchOn.none_ W⟩
  · rw [cellsBd] at hi
    obtain ⟨l, h1, h2⟩ := elems_of (n := len) (cells := BdD.cells) (ok := fun b => I64 b.lo ∧ I64 b.hi) cellsBd (fun fuel cs x h => bd_cells h) (fun i hin => by
      obtain ⟨cs, hc, ht⟩ := hi i (by rw [hmm]; split <;> omega)
      exact ⟨n, cs, _, hc, ht⟩)
    exact ⟨some a, len, cap, l, hcs, h1, hl, hm, fun i r hr => ⟨a, rfl, (h2 i r hr).2⟩, fun r hr => by obtain ⟨i, hi⟩ := List.mem_iff_getElem?.1 hr; exact (h2 i r hi).1⟩

theorem open_sch {r : Reach} {b0 : Nat} {v : Value} {d : DataW H} {p : List MemPlace} (hv : Value.okWide Try.prog W r b0 24 v) (h : DataW.Trod enc Try.prog W 0 (fun _ => true) true 24 v d p) : ∃ q n c bs, v = .agg #[.slice q n c] ∧ SchOn W q n c bs := by
  obtain ⟨cs, rfl, hsz⟩ := okWide_struct Try.underlying24 hv
  obtain ⟨fuel, hf⟩ := h
  obtain ⟨xs, n, _, _, hlen, hxl, hg⟩ := DataW.trod_struct Try.underlying24 hf
  rw [cellsSch] at hsz
  have hx2 : xs.length = 1 := hxl
  obtain ⟨l⟩ := cs
  match l, hsz with
  | [c0], _ =>
    have g0 : DataW.trod enc Try.prog W 0 (fun _ => true) true n 22 (([c0].drop 0).take (Try.prog.cellsOf 22)) = xs[0]? := hg 0 _ rfl
    obtain ⟨y0, e0⟩ := get_some (l := xs) (i := 0) (by omega)
    rw [e0, cellsBds] at g0
    obtain ⟨q, m, c, bs, hcs, hs⟩ := open_bds g0
    simp at hcs
    subst hcs
    exact ⟨q, m, c, bs, rfl, hs⟩

theorem open_key {r : Reach} {b0 : Nat} {v : Value} {d : DataW H} {p : List MemPlace} (hv : Value.okWide Try.prog W r b0 28 v) (h : DataW.Trod enc Try.prog W 0 (fun _ => true) true 28 v d p) : ∃ k : KeyD, v = .agg #[.int .i64 k.t, .int .u16 k.id] ∧ KeyOk k := by
  obtain ⟨cs, rfl, hsz⟩ := okWide_struct Try.underlying28 hv
  obtain ⟨fuel, hf⟩ := h
  obtain ⟨l⟩ := cs
  obtain ⟨k, hk, ok⟩ := key_cells hf
  have e : l = k.cells := by simpa [Value.cells] using hk
  exact ⟨k, by rw [e]; rfl, ok⟩

theorem open_row {r : Reach} {b0 : Nat} {v : Value} {d : DataW H} {p : List MemPlace} (hv : Value.okWide Try.prog W r b0 68 v) (h : DataW.Trod enc Try.prog W 0 (fun _ => true) true 68 v d p) : ∃ x : RowD, v = .agg #[.int .i64 x.key.t, .int .u16 x.key.id, .int .i64 x.val, .string x.note] ∧ RowOk x := by
  obtain ⟨cs, rfl, hsz⟩ := okWide_struct Try.underlying68 hv
  obtain ⟨fuel, hf⟩ := h
  obtain ⟨l⟩ := cs
  obtain ⟨k, hk, ok⟩ := row_cells hf
  have e : l = k.cells := by simpa [Value.cells] using hk
  exact ⟨k, by rw [e]; rfl, ok⟩
end
end Go.Proofs.Ytkdkncbccofpdaa
