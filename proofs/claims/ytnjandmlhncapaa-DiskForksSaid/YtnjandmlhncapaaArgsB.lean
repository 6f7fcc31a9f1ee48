/- Arguments that are operations, by value or in a list. -/
import Derived.Test.YtnjandmlhncapaaArgs
namespace Go.Proofs.Ytnjandmlhncapaa
open Go.ChangeShapes Go.WideShapes Go.ChangeAt Go.RowKit Go.Deep Go.Joins

section
variable {H : Type} {enc : TypeId × Value → H} {W : World}

theorem one_int {k : IntKind} {t : TypeId} {n : Nat} {v : Value} {y : DataW H × List MemPlace} (ht : Try.prog.underlying t = some (.int k)) (h : DataW.trod enc Try.prog W 0 (fun _ => true) true n t [v] = some y) : ∃ x, v = .int k x ∧ (Lit.int k x).wf = true := by
  obtain ⟨x, hc, _, hw⟩ := DataW.trod_int ht h
  simp at hc
  exact ⟨x, hc, hw⟩

theorem op_of {n0 n1 n2 n3 n4 : Nat} {v0 v1 v2 v3 v4 : Value} {y0 y1 y2 y3 y4 : DataW H × List MemPlace}
    (h0 : DataW.trod enc Try.prog W 0 (fun _ => true) true n0 3 [v0] = some y0) (h1 : DataW.trod enc Try.prog W 0 (fun _ => true) true n1 3 [v1] = some y1) (h2 : DataW.trod enc Try.prog W 0 (fun _ => true) true n2 3 [v2] = some y2)
    (h3 : DataW.trod enc Try.prog W 0 (fun _ => true) true n3 5 [v3] = some y3) (h4 : DataW.trod enc Try.prog W 0 (fun _ => true) true n4 33 [v4] = some y4) :
    ∃ o : OpV, o.cells = [v0, v1, v2, v3, v4] ∧ IsOp W o := by
  obtain ⟨x0, rfl, w0⟩ := one_int Try.underlying3 h0
  obtain ⟨x1, rfl, w1⟩ := one_int Try.underlying3 h1
  obtain ⟨x2, rfl, w2⟩ := one_int Try.underlying3 h2
  obtain ⟨x3, rfl, w3⟩ := one_int Try.underlying5 h3
  obtain ⟨ks, hk⟩ := open_keep h4
  exact ⟨⟨x0, x1, x2, x3, ks, v4⟩, rfl, ⟨i64_of_wf w0, i64_of_wf w1, i64_of_wf w2, u8_of_wf w3, hk⟩⟩

theorem open_ops {v : Value} {d : DataW H} {p : List MemPlace} (hv : ∃ q n c, v = .slice q n c) (h : DataW.Trod enc Try.prog W 0 (fun _ => true) true 22 v d p) : ∃ os, IsOps W v os := by
  obtain ⟨fuel, hf⟩ := h
  obtain ⟨q, n, c, rfl⟩ := hv
  rcases open_slice_fields Try.underlying22 Try.underlying35 (by kernel_rfl) cellsOp hf with hc | ⟨a, len, cap, hc, hl, hm, hi⟩
  · simp [Value.cells] at hc
    obtain ⟨rfl, rfl, rfl⟩ := hc
    exact ⟨[], ⟨⟨none, 0, rfl, fun _ => rfl, fun a ha => by cases ha⟩, (fun o ho => by cases ho), Nat.zero_le _⟩⟩
  · simp [Value.cells] at hc
    obtain ⟨rfl, rfl, rfl⟩ := hc
    have hop : ∀ i, ∃ o : OpV, i < n → IsOp W o ∧ ∀ j x, o.cells[j]? = some x → W.cell? (a.add (i * 5 + j)) = some x := by
      intro i
      by_cases hin : i < n
      · obtain ⟨m, hj⟩ := hi i hin
        obtain ⟨v0, y0, c0, t0⟩ := hj 0 _ rfl
        obtain ⟨v1, y1, c1, t1⟩ := hj 1 _ rfl
        obtain ⟨v2, y2, c2, t2⟩ := hj 2 _ rfl
        obtain ⟨v3, y3, c3, t3⟩ := hj 3 _ rfl
        obtain ⟨v4, y4, c4, t4⟩ := hj 4 _ rfl
        obtain ⟨o, ho, hw⟩ := op_of t0 t1 t2 t3 t4
        refine ⟨o, fun _ => ⟨hw, fun j x hx => ?_⟩⟩
        rw [ho] at hx
        match j, hx with
        | 0, hx => cases hx; exact c0
        | 1, hx => cases hx; exact c1
        | 2, hx => cases hx; exact c2
        | 3, hx => cases hx; exact c3
        | 4, hx => cases hx; exact c4
        | j + 5, hx => simp at hx
      · exact ⟨⟨0, 0, 0, 0, [], .slice none 0 0⟩, fun h => absurd h hin⟩
    have hlen : ((List.range n).map fun i => Classical.choose (hop i)).length = n := by simp
    refine ⟨(List.range n).map fun i => Classical.choose (hop i), ⟨⟨some a, c, by rw [hlen], (fun e => by cases e), fun a' ha i o ho => ?_⟩, fun o ho => ?_, by rw [hlen]; omega⟩⟩
    · cases ha
      rw [List.getElem?_map] at ho
      obtain ⟨k, hk, rfl⟩ := Option.map_eq_some_iff.1 ho
      have hin := (List.getElem?_eq_some_iff.1 hk).1
      rw [List.length_range] at hin
      rw [List.getElem?_range hin] at hk
      cases hk
      exact ((Classical.choose_spec (hop i)) hin).2
    · obtain ⟨i, hin, rfl⟩ := List.mem_map.1 ho
      exact ((Classical.choose_spec (hop i)) (List.mem_range.1 hin)).1

theorem agg_five {P : Program} {r : Reach} {b0 : Nat} {t : TypeId} {f0 f1 f2 f3 f4 : Field} {v : Value} {d : DataW H} {p : List MemPlace} (hs : P.underlying t = some (.struct #[f0, f1, f2, f3, f4])) (hone : oneCellFields P #[f0, f1, f2, f3, f4] = true) (hC : P.cellsOf t = 5)
    (hv : Value.okWide P W r b0 t v) (h : DataW.Trod enc P W 0 (fun _ => true) true t v d p) :
    ∃ (c0 c1 c2 c3 c4 : Value) (y0 y1 y2 y3 y4 : DataW H × List MemPlace) (n : Nat), v = .agg #[c0, c1, c2, c3, c4] ∧ DataW.trod enc P W 0 (fun _ => true) true n f0.type [c0] = some y0 ∧ DataW.trod enc P W 0 (fun _ => true) true n f1.type [c1] = some y1 ∧
      DataW.trod enc P W 0 (fun _ => true) true n f2.type [c2] = some y2 ∧ DataW.trod enc P W 0 (fun _ => true) true n f3.type [c3] = some y3 ∧ DataW.trod enc P W 0 (fun _ => true) true n f4.type [c4] = some y4 := by
  obtain ⟨cs, rfl, hsz⟩ := okWide_struct hs hv
  obtain ⟨l⟩ := cs
  match l, hsz.trans hC with
  | [c0, c1, c2, c3, c4], _ =>
    obtain ⟨fuel, hf⟩ := h
    obtain ⟨xs, n, _, _, _, hlen, hg⟩ := DataW.trod_struct hs hf
    obtain ⟨o0, k0⟩ := hone_of hone 0 f0 rfl
    obtain ⟨o1, k1⟩ := hone_of hone 1 f1 rfl
    obtain ⟨o2, k2⟩ := hone_of hone 2 f2 rfl
    obtain ⟨o3, k3⟩ := hone_of hone 3 f3 rfl
    obtain ⟨o4, k4⟩ := hone_of hone 4 f4 rfl
    match xs, hlen with
    | [y0, y1, y2, y3, y4], _ =>
      exact ⟨c0, c1, c2, c3, c4, y0, y1, y2, y3, y4, n, rfl, by simpa [Value.cells, o0, k0] using hg 0 f0 rfl, by simpa [Value.cells, o1, k1] using hg 1 f1 rfl, by simpa [Value.cells, o2, k2] using hg 2 f2 rfl, by simpa [Value.cells, o3, k3] using hg 3 f3 rfl, by simpa [Value.cells, o4, k4] using hg 4 f4 rfl⟩

set_option maxRecDepth 100000 in
theorem open_op0 {r : Reach} {b0 : Nat} {v : Value} {d : DataW H} {p : List MemPlace} (hv : Value.okWide Try.prog W r b0 35 v) (h : DataW.Trod enc Try.prog W 0 (fun _ => true) true 35 v d p) : ∃ o : OpV, v = .agg o.cells.toArray ∧ IsOp W o := by
  obtain ⟨c0, c1, c2, c3, c4, y0, y1, y2, y3, y4, n, rfl, g0, g1, g2, g3, g4⟩ := agg_five Try.underlying35 (by kernel_rfl) cellsOp hv h
  obtain ⟨o, ho, hw⟩ := op_of g0 g1 g2 g3 g4
  exact ⟨o, by rw [ho], hw⟩

end

end Go.Proofs.Ytnjandmlhncapaa
