/- The laws' arguments, opened to their cells: requests, and transactions that run alone. -/
import Derived.Test.YtkdkncbccofpdaaIMa
import Derived.Test.YtkdkncbccofpdaaYArg
namespace Go.Proofs.Ytkdkncbccofpdaa
set_option maxRecDepth 100000
open Go.ChangeShapes Go.WideShapes Go.ChangeAt Go.RowKit Go.Deep Go.Joins

theorem cellsReq : Try.prog.cellsOf 30 = 8 := by kernel_rfl
theorem cellsSer : Try.prog.cellsOf 46 = 5 := by kernel_rfl
theorem cellsRows : Try.prog.cellsOf 25 = 1 := by kernel_rfl
theorem cellsMks : Try.prog.cellsOf 44 = 1 := by kernel_rfl
theorem cellsBool : Try.prog.cellsOf 4 = 1 := by kernel_rfl

instance : Cel ReqD := ⟨ReqD.cells, 8, fun _ => rfl, fun q v hv => by
  simp only [ReqD.cells, List.mem_cons, List.not_mem_nil, or_false] at hv
  rcases hv with rfl | rfl | rfl | rfl | rfl | rfl | rfl | rfl <;> rfl, by decide⟩

section
variable {H : Type} {enc : TypeId × Value → H} {W : World}

theorem req_cells {fuel : Nat} {cs : List Value} {x : DataW H × List MemPlace} (h : DataW.trod enc Try.prog W 0 (fun _ => true) true fuel 30 cs = some x) : ∃ q : ReqD, cs = q.cells ∧ ReqOk q := by
  obtain ⟨xs, n, _, _, hlen, hxl, hg⟩ := DataW.trod_struct Try.underlying30 h
  rw [cellsReq] at hlen
  have hx2 : xs.length = 6 := hxl
  match cs, hlen with
  | [c0, c1, c2, c3, c4, c5, c6, c7], _ =>
    have g0 : DataW.trod enc Try.prog W 0 (fun _ => true) true n 3 (([c0, c1, c2, c3, c4, c5, c6, c7].drop 0).take (Try.prog.cellsOf 3)) = xs[0]? := hg 0 _ rfl
    have g1 : DataW.trod enc Try.prog W 0 (fun _ => true) true n 28 (([c0, c1, c2, c3, c4, c5, c6, c7].drop 1).take (Try.prog.cellsOf 28)) = xs[1]? := hg 1 _ rfl
    have g2 : DataW.trod enc Try.prog W 0 (fun _ => true) true n 28 (([c0, c1, c2, c3, c4, c5, c6, c7].drop 3).take (Try.prog.cellsOf 28)) = xs[2]? := hg 2 _ rfl
    have g3 : DataW.trod enc Try.prog W 0 (fun _ => true) true n 2 (([c0, c1, c2, c3, c4, c5, c6, c7].drop 5).take (Try.prog.cellsOf 2)) = xs[3]? := hg 3 _ rfl
    have g4 : DataW.trod enc Try.prog W 0 (fun _ => true) true n 9 (([c0, c1, c2, c3, c4, c5, c6, c7].drop 6).take (Try.prog.cellsOf 9)) = xs[4]? := hg 4 _ rfl
    have g5 : DataW.trod enc Try.prog W 0 (fun _ => true) true n 3 (([c0, c1, c2, c3, c4, c5, c6, c7].drop 7).take (Try.prog.cellsOf 3)) = xs[5]? := hg 5 _ rfl
    obtain ⟨y0, e0⟩ := get_some (l := xs) (i := 0) (by omega)
    obtain ⟨y1, e1⟩ := get_some (l := xs) (i := 1) (by omega)
    obtain ⟨y2, e2⟩ := get_some (l := xs) (i := 2) (by omega)
    obtain ⟨y3, e3⟩ := get_some (l := xs) (i := 3) (by omega)
    obtain ⟨y4, e4⟩ := get_some (l := xs) (i := 4) (by omega)
    obtain ⟨y5, e5⟩ := get_some (l := xs) (i := 5) (by omega)
    rw [e0, cellsInt] at g0
    rw [e1, cellsKey] at g1
    rw [e2, cellsKey] at g2
    rw [e3, cellsI64] at g3
    rw [e4, cellsStr] at g4
    rw [e5, cellsInt] at g5
    obtain ⟨k, hk, _, wk⟩ := DataW.trod_int Try.underlying3 g0
    obtain ⟨⟨a, b⟩, h1, ok1⟩ := key_cells g1
    obtain ⟨⟨c, d⟩, h2, ok2⟩ := key_cells g2
    obtain ⟨v, hv, _, wv⟩ := DataW.trod_int Try.underlying2 g3
    obtain ⟨s, hs, _, ws⟩ := DataW.trod_string Try.underlying9 g4
    obtain ⟨m, hm, _, wm⟩ := DataW.trod_int Try.underlying3 g5
    simp [KeyD.cells] at hk h1 h2 hv hs hm
    obtain ⟨rfl, rfl⟩ := h1
    obtain ⟨rfl, rfl⟩ := h2
    subst hk hv hs hm
    exact ⟨⟨k, ⟨a, b⟩, ⟨c, d⟩, v, s, m⟩, rfl, i64_of_wf wk, ok1, ok2, i64_of_wf wv, ws, i64_of_wf wm⟩

theorem open_reqs {a0 : Option Addr} {len cap : Nat} {d : DataW H} {p : List MemPlace} (h : DataW.Trod enc Try.prog W 0 (fun _ => true) true 57 (.slice a0 len cap) d p) : ∃ l : List ReqD, SlOn W a0 len cap l ∧ ∀ q ∈ l, ReqOk q := by
  obtain ⟨fuel, hf⟩ := h
  rcases open_slice Try.underlying57 hf with ⟨hc, _⟩ | ⟨a, len', cap', m, n, D, Pl, hcs, _, hl, hm, hmm, _, hi⟩
  · simp [Value.cells] at hc
    obtain ⟨rfl, rfl, rfl⟩ := hc
    exact ⟨[], SlOn.none_ W, fun q h => by cases h⟩
  · simp [Value.cells] at hcs
    obtain ⟨rfl, rfl, rfl⟩ := hcs
    rw [cellsReq] at hi
    obtain ⟨l, h1, h2⟩ := elems_of (n := len) (cells := ReqD.cells) (ok := ReqOk) cellsReq (fun fuel cs x h => req_cells h) (fun i hin => by
      obtain ⟨cs, hc, ht⟩ := hi i (by rw [hmm]; split <;> omega)
      exact ⟨n, cs, _, hc, ht⟩)
    exact ⟨l, ⟨h1, hl, hm, (fun e => by cases e), fun i r hr => ⟨a, rfl, (h2 i r hr).2⟩⟩, fun r hr => by obtain ⟨i, hi⟩ := List.mem_iff_getElem?.1 hr; exact (h2 i r hi).1⟩

theorem open_bdsS {fuel : Nat} {cs : List Value} {x : DataW H × List MemPlace} (hf : DataW.trod enc Try.prog W 0 (fun _ => true) true fuel 22 cs = some x) : ∃ q n c, ∃ l : List BdD, cs = [.slice q n c] ∧ SlOn W q n c l ∧ ∀ b ∈ l, I64 b.lo ∧ I64 b.hi := by
  rcases open_slice Try.underlying22 hf with ⟨hc, _⟩ | ⟨a, len, cap, m, n, D, Pl, hcs, _, hl, hm, hmm, _, hi⟩
  · exact ⟨none, 0, 0, [], hc, SlOn.none_ W, fun b h => by cases h⟩
  · rw [cellsBd] at hi
    obtain ⟨l, h1, h2⟩ := elems_of (n := len) (cells := BdD.cells) (ok := fun b => I64 b.lo ∧ I64 b.hi) cellsBd (fun fuel cs x h => bd_cells h) (fun i hin => by
      obtain ⟨cs, hc, ht⟩ := hi i (by rw [hmm]; split <;> omega)
      exact ⟨n, cs, _, hc, ht⟩)
    exact ⟨some a, len, cap, l, hcs, ⟨h1, hl, hm, (fun e => by cases e), fun i r hr => ⟨a, rfl, (h2 i r hr).2⟩⟩, fun r hr => by obtain ⟨i, hi⟩ := List.mem_iff_getElem?.1 hr; exact (h2 i r hi).1⟩
theorem sch_cells {fuel : Nat} {cs : List Value} {x : DataW H × List MemPlace} (hf : DataW.trod enc Try.prog W 0 (fun _ => true) true fuel 24 cs = some x) : ∃ q n c, ∃ l : List BdD, cs = [.slice q n c] ∧ SlOn W q n c l ∧ ∀ b ∈ l, I64 b.lo ∧ I64 b.hi := by
  obtain ⟨xs, n, _, _, hlen, hxl, hg⟩ := DataW.trod_struct Try.underlying24 hf
  rw [cellsSch] at hlen
  have hx2 : xs.length = 1 := hxl
  match cs, hlen with
  | [c0], _ =>
    have g0 : DataW.trod enc Try.prog W 0 (fun _ => true) true n 22 (([c0].drop 0).take (Try.prog.cellsOf 22)) = xs[0]? := hg 0 _ rfl
    obtain ⟨y0, e0⟩ := get_some (l := xs) (i := 0) (by omega)
    rw [e0, cellsBds] at g0
    obtain ⟨q, m, c, bs, hcs, hs⟩ := open_bdsS g0
    simp at hcs
    subst hcs
    exact ⟨q, m, c, bs, rfl, hs⟩
theorem open_schS {r : Reach} {b0 : Nat} {v : Value} {d : DataW H} {p : List MemPlace} (hv : Value.okWide Try.prog W r b0 24 v) (h : DataW.Trod enc Try.prog W 0 (fun _ => true) true 24 v d p) : ∃ q n c, ∃ l : List BdD, v = .agg #[.slice q n c] ∧ SlOn W q n c l ∧ ∀ b ∈ l, I64 b.lo ∧ I64 b.hi := by
  obtain ⟨cs, rfl, hsz⟩ := okWide_struct Try.underlying24 hv
  obtain ⟨fuel, hf⟩ := h
  obtain ⟨l⟩ := cs
  obtain ⟨q, n, c, bs, hk, ok⟩ := sch_cells hf
  have e : l = [.slice q n c] := by simpa [Value.cells] using hk
  exact ⟨q, n, c, bs, by rw [e], ok⟩

theorem rows_cells {fuel : Nat} {cs : List Value} {x : DataW H × List MemPlace} (hf : DataW.trod enc Try.prog W 0 (fun _ => true) true fuel 25 cs = some x) : ∃ q n c l, cs = [.slice q n c] ∧ RowsOn W q n c l := by
  rcases open_slice Try.underlying25 hf with ⟨hc, _⟩ | ⟨a, len, cap, m, n, D, Pl, hcs, _, hl, hm, hmm, _, hi⟩
  · exact ⟨none, 0, 0, [], hc, RowsOn.none_ W⟩
  · rw [cellsRow] at hi
    obtain ⟨l, h1, h2⟩ := elems_of (n := len) (cells := RowD.cells) (ok := RowOk) cellsRow (fun fuel cs x h => row_cells h) (fun i hin => by
      obtain ⟨cs, hc, ht⟩ := hi i (by rw [hmm]; split <;> omega)
      exact ⟨n, cs, _, hc, ht⟩)
    exact ⟨some a, len, cap, l, hcs, h1, hl, hm, (fun e => by cases e), fun i r hr => ⟨a, rfl, (h2 i r hr).2⟩, fun r hr => by obtain ⟨i, hi⟩ := List.mem_iff_getElem?.1 hr; exact (h2 i r hi).1⟩
theorem mks_cells {fuel : Nat} {cs : List Value} {x : DataW H × List MemPlace} (hf : DataW.trod enc Try.prog W 0 (fun _ => true) true fuel 44 cs = some x) : ∃ q n c L, cs = [.slice q n c] ∧ MksOn W q n c L := by
  rcases open_slice Try.underlying44 hf with ⟨hc, _⟩ | ⟨a, len, cap, m, n, D, Pl, hcs, _, hl, hm, hmm, _, hi⟩
  · exact ⟨none, 0, 0, [], hc, MksOn.none_ W⟩
  · rw [cellsRows] at hi
    obtain ⟨l, h1, h2⟩ := elems_of (α := SlV × List RowD) (n := len) (cells := fun y => [.slice y.1.q y.1.n y.1.c]) (ok := fun y => RowsOn W y.1.q y.1.n y.1.c y.2) cellsRows (fun fuel cs x h => by
      obtain ⟨q, n, c, l, h1, h2⟩ := rows_cells h
      exact ⟨(⟨q, n, c⟩, l), h1, h2⟩) (fun i hin => by
      obtain ⟨cs, hc, ht⟩ := hi i (by rw [hmm]; split <;> omega)
      exact ⟨n, cs, _, hc, ht⟩)
    refine ⟨some a, len, cap, l.map (·.2), hcs, l.map (·.1), ⟨by rw [List.length_map, h1], hl, hm, (fun e => by cases e), fun i r hr => ⟨a, rfl, ?_⟩⟩, by rw [List.length_map, List.length_map], fun i v m hv hm => ?_⟩
    · rw [List.getElem?_map] at hr
      obtain ⟨y, hy, rfl⟩ := Option.map_eq_some_iff.1 hr
      exact (h2 i y hy).2
    · rw [List.getElem?_map] at hv hm
      obtain ⟨y, hy, rfl⟩ := Option.map_eq_some_iff.1 hv
      obtain ⟨z, hz, rfl⟩ := Option.map_eq_some_iff.1 hm
      rw [hy] at hz
      cases hz
      exact (h2 i y hy).1
theorem open_ser {r : Reach} {b0 : Nat} {v : Value} {d : DataW H} {p : List MemPlace} (hv : Value.okWide Try.prog W r b0 46 v) (h : DataW.Trod enc Try.prog W 0 (fun _ => true) true 46 v d p) : ∃ (u : SV) (x : SerD), v = .agg u.cells.toArray ∧ u.On W x := by
  obtain ⟨cs, rfl, hsz⟩ := okWide_struct Try.underlying46 hv
  obtain ⟨fuel, hf⟩ := h
  obtain ⟨xs, n, _, _, hlen, hxl, hg⟩ := DataW.trod_struct Try.underlying46 hf
  rw [cellsSer] at hsz
  have hx2 : xs.length = 5 := hxl
  obtain ⟨l⟩ := cs
  match l, hsz with
  | [c0, c1, c2, c3, c4], _ =>
    have g0 : DataW.trod enc Try.prog W 0 (fun _ => true) true n 24 (([c0, c1, c2, c3, c4].drop 0).take (Try.prog.cellsOf 24)) = xs[0]? := hg 0 _ rfl
    have g1 : DataW.trod enc Try.prog W 0 (fun _ => true) true n 25 (([c0, c1, c2, c3, c4].drop 1).take (Try.prog.cellsOf 25)) = xs[1]? := hg 1 _ rfl
    have g2 : DataW.trod enc Try.prog W 0 (fun _ => true) true n 25 (([c0, c1, c2, c3, c4].drop 2).take (Try.prog.cellsOf 25)) = xs[2]? := hg 2 _ rfl
    have g3 : DataW.trod enc Try.prog W 0 (fun _ => true) true n 44 (([c0, c1, c2, c3, c4].drop 3).take (Try.prog.cellsOf 44)) = xs[3]? := hg 3 _ rfl
    have g4 : DataW.trod enc Try.prog W 0 (fun _ => true) true n 4 (([c0, c1, c2, c3, c4].drop 4).take (Try.prog.cellsOf 4)) = xs[4]? := hg 4 _ rfl
    obtain ⟨y0, e0⟩ := get_some (l := xs) (i := 0) (by omega)
    obtain ⟨y1, e1⟩ := get_some (l := xs) (i := 1) (by omega)
    obtain ⟨y2, e2⟩ := get_some (l := xs) (i := 2) (by omega)
    obtain ⟨y3, e3⟩ := get_some (l := xs) (i := 3) (by omega)
    obtain ⟨y4, e4⟩ := get_some (l := xs) (i := 4) (by omega)
    rw [e0, cellsSch] at g0
    rw [e1, cellsRows] at g1
    rw [e2, cellsRows] at g2
    rw [e3, cellsMks] at g3
    rw [e4, cellsBool] at g4
    obtain ⟨tq, tn, tc, bs, h0, k0, k0'⟩ := sch_cells g0
    obtain ⟨rq, rn, rc, l1, h1, k1⟩ := rows_cells g1
    obtain ⟨bq, bn, bc, l2, h2, k2⟩ := rows_cells g2
    obtain ⟨mq, mn, mc, L, h3, k3⟩ := mks_cells g3
    obtain ⟨b, h4, _⟩ := DataW.trod_bool Try.underlying4 g4
    simp at h0 h1 h2 h3 h4
    subst h0 h1 h2 h3 h4
    exact ⟨⟨tq, tn, tc, rq, rn, rc, bq, bn, bc, mq, mn, mc, b⟩, ⟨bs, l1, l2, L, b⟩, rfl, k0, k0', k1, k2, k3, rfl⟩
end
end Go.Proofs.Ytkdkncbccofpdaa
