/- The last step of the ring's laws: what the call leaves alone reads as it did; a list of rows of bytes that came in. -/
import Derived.Test.YtjhnagipagkhiaaGreatRWak
import Derived.ProofKit
import Derived.Deep.Slices
namespace Go.Proofs.YtjhnagipagkhiaaGreat
open Go.ChangeShapes Go.WideShapes Go.ChangeAt Go.RowKit

theorem own : ownKnob Tryz.prog.godebug = none := by kernel_rfl
theorem laidOut : laidOutB Tryz.prog = true := by kernel_rfl
theorem cells5 : Tryz.prog.cellsOf 5 = 1 := by kernel_rfl

section
variable {H : Type} {enc : TypeId × Value → H} {P : Program}

theorem trodAll_below (hl : laidOutB P = true) {W W' : World} (hb : Below W.heap.size W W') : ∀ (ts : List TypeId) (vs : List Value) (ds : List (DataW H)) (ps : List MemPlace),
    (∀ t ∈ ts, P.readableRec t = true ∧ t < P.types.size) → DataW.TrodAll enc P W 0 (fun _ => true) true ts vs ds ps → (∀ x ∈ ps, x.block < W.heap.size) →
    DataW.TrodAll enc P W' 0 (fun b => decide (b < W.heap.size)) true ts vs ds ps
  | [], [], [], _, _, h, _ => h
  | t :: ts, v :: vs, d :: ds, ps, hr, h, hlt => by
    obtain ⟨p, q, h1, h2, rfl⟩ := h
    have ht := hr t (List.mem_cons_self ..)
    exact ⟨p, q, Below.trod hl ht.1 ht.2 h1 hb (fun x hx => hlt x (List.mem_append.2 (.inl hx))),
      trodAll_below hl hb ts vs ds q (fun t h => hr t (List.mem_cons_of_mem _ h)) h2 (fun x hx => hlt x (List.mem_append.2 (.inr hx))), rfl⟩
  | [], _ :: _, _, _, _, h, _ => by cases h
  | [], [], _ :: _, _, _, h, _ => by cases h
  | _ :: _, [], _, _, _, h, _ => by cases h
  | _ :: _, _ :: _, [], _, _, h, _ => by cases h

/-- THE LAST STEP OF A LAW: true came back, and below the heap's end nothing has turned. -/
theorem law_post {f : Func} {s : ChangeSpec} {W W' : World} {args : Array Value} {ds gs : List (DataW H)} {before : List MemPlace} {tb : TypeId}
    (hl : laidOutB P = true) (hts : ∀ t ∈ f.params.toList, P.readableRec t = true ∧ t < P.types.size) (hvars : s.vars = []) (hres : f.resultTypes = #[tb]) (hb4 : P.underlying tb = some .bool)
    (hW : DataW.Whole enc P f.params.toList s.vars false W args.toList ds gs before)
    (hfn : (s.fn H (ds ++ gs)).results = [.lit (.bool true)] ∧ (s.fn H (ds ++ gs)).args = ds ∧ (s.fn H (ds ++ gs)).vars = []) (hb : Below W.heap.size W W') :
    s.post enc P f false true false false W args (.bool true) W' := by
  have hlt : ∀ x ∈ before, x.block < W.heap.size := fun x hx => hW.lt x hx
  have hW' := hW
  obtain ⟨p, q, hA, hV, rfl, _, _⟩ := hW
  refine ⟨ds, gs, _, [], p, [], hW', ?_, ?_, ?_, hb.frame _, fun h => by cases h⟩
  · rw [hfn.1, hres]
    exact trodAll_mk1 (shut_bool hb4 true)
  · rw [hfn.2.1]
    exact trodAll_below hl hb _ _ _ _ hts hA (fun x hx => hlt x (List.mem_append.2 (.inl hx)))
  · rw [hfn.2.2, hvars]
    exact rfl
end

/-- An argument of type []byte, nil or not. -/
theorem open_bytes {H : Type} {enc : TypeId × Value → H} {W : World} {a0 : Option Addr} {len cap : Nat} {d0 : DataW H} {p : List MemPlace}
    (h0 : DataW.Trod enc Tryz.prog W 0 (fun _ => true) true 30 (.slice a0 len cap) d0 p) :
    ∃ l : List UInt8, Lib.HoldsBytes W (.slice a0 len cap) l ∧ l.length = len ∧ len ≤ cap := by
  obtain ⟨fuel, hf⟩ := h0
  rcases open_ints Tryz.underlying30 Tryz.underlying5 cells5 hf with ⟨hcs, hx⟩ | ⟨a, len', cap', zs, hcs, _, hl, hm, hz, hx, hcell, hwz⟩
  · simp [Value.cells] at hcs
    obtain ⟨rfl, rfl, rfl⟩ := hcs
    exact ⟨[], ⟨none, 0, rfl, fun _ => rfl, fun a ha => by cases ha⟩, rfl, Nat.le_refl _⟩
  · simp [Value.cells] at hcs
    obtain ⟨rfl, rfl, rfl⟩ := hcs
    simp only [if_true] at hz
    refine ⟨Lib.bytesOf (zs.take len), ?_, by simp [Lib.bytesOf]; omega, hl⟩
    refine ⟨some a, cap, by congr 1; simp [Lib.bytesOf]; omega, (fun e => by cases e), fun b hb i x hx => ?_⟩
    cases hb
    simp only [Lib.bytesOf, List.getElem?_map] at hx
    obtain ⟨z, hz2, rfl⟩ := Option.map_eq_some_iff.1 hx
    have hi : i < zs.length := by
      have := (List.getElem?_eq_some_iff.1 hz2).1
      rw [List.length_take] at this; omega
    rw [List.getElem?_take] at hz2
    split at hz2
    · have hmem : z ∈ zs := List.mem_of_getElem? hz2
      have hw := hwz z hmem
      have hr : 0 ≤ z ∧ z ≤ 255 := by simpa [Lit.wf, IntKind.min, IntKind.max, IntKind.signed, IntKind.bits] using hw
      rw [hcell i hi]
      simp [List.getD, hz2]
      omega
    · cases hz2

/-- the rows that came in -/
structure RowsIn (w : World) (p : Option Addr) (n : Nat) (L : Nat → List UInt8) : Prop where
  get : ∀ i, i < n → ∃ a q m d, p = some a ∧ w.cell? (a.add i) = some (.slice q m d) ∧ Lib.HoldsBytes w (.slice q m d) (L i) ∧ m ≤ d

theorem open_rows {H : Type} {enc : TypeId × Value → H} {W : World} {a0 : Option Addr} {len cap : Nat} {d0 : DataW H} {p : List MemPlace}
    (h0 : DataW.Trod enc Tryz.prog W 0 (fun _ => true) true 33 (.slice a0 len cap) d0 p) : ∃ L : Nat → List UInt8, RowsIn W a0 len L := by
  obtain ⟨fuel, hf⟩ := h0
  have c22 : Tryz.prog.cellsOf 30 = 1 := by kernel_rfl
  rcases Deep.open_slice1 Tryz.underlying33 c22 hf with ⟨hcs, _⟩ | ⟨a, len', cap', m, n, V, D, Pl, hcs, _, hl, _, hm, _, hx⟩
  · simp [Value.cells] at hcs
    obtain ⟨rfl, rfl, rfl⟩ := hcs
    exact ⟨fun _ => [], ⟨fun i hi => by omega⟩⟩
  · simp [Value.cells] at hcs
    obtain ⟨rfl, rfl, rfl⟩ := hcs
    simp only [if_true] at hm
    have hrow : ∀ i, i < len → ∃ l : List UInt8, ∃ q m d, W.cell? (a.add i) = some (.slice q m d) ∧ Lib.HoldsBytes W (.slice q m d) l ∧ m ≤ d := fun i hi => by
      obtain ⟨h1, h2⟩ := hx i (by omega)
      have hv : ∃ q m d, V i = .slice q m d := by
        rcases Deep.open_slice Tryz.underlying30 h2 with ⟨h, _⟩ | ⟨a, len, cap, _, _, _, _, h, _⟩
        · exact ⟨none, 0, 0, by simpa using h⟩
        · exact ⟨some a, len, cap, by simpa using h⟩
      obtain ⟨q, m, d, hv⟩ := hv
      rw [hv] at h1 h2
      obtain ⟨l, hl, _, hc⟩ := open_bytes (enc := enc) (W := W) (a0 := q) (len := m) (cap := d) ⟨n, h2⟩
      exact ⟨l, q, m, d, h1, hl, hc⟩
    obtain ⟨L, hL⟩ := Deep.choose_lt (α := List UInt8) hrow
    exact ⟨L, ⟨fun i hi => by
      obtain ⟨q, m, d, h1, h2, h3⟩ := hL i hi
      exact ⟨a, q, m, d, rfl, h1, h2, h3⟩⟩⟩

end Go.Proofs.YtjhnagipagkhiaaGreat
