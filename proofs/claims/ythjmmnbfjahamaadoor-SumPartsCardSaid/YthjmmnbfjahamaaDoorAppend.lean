/- A list of rows of bytes that came in. -/
import Derived.Test.YthjmmnbfjahamaaDoorTied
import Derived.Deep.Slices
namespace Go.Proofs.YthjmmnbfjahamaaDoor
open Go.RowKit

/-- the rows that came in -/
structure RowsIn (w : World) (p : Option Addr) (n : Nat) (L : Nat → List UInt8) : Prop where
  get : ∀ i, i < n → ∃ a q m d, p = some a ∧ w.cell? (a.add i) = some (.slice q m d) ∧ Lib.HoldsBytes w (.slice q m d) (L i) ∧ m ≤ d

theorem open_rows {H : Type} {enc : TypeId × Value → H} {W : World} {a0 : Option Addr} {len cap : Nat} {d0 : DataW H} {p : List MemPlace}
    (h0 : DataW.Trod enc Tryd.prog W 0 (fun _ => true) true 35 (.slice a0 len cap) d0 p) : ∃ L : Nat → List UInt8, RowsIn W a0 len L := by
  obtain ⟨fuel, hf⟩ := h0
  have c22 : Tryd.prog.cellsOf 22 = 1 := by kernel_rfl
  rcases Deep.open_slice1 Tryd.underlying35 c22 hf with ⟨hcs, _⟩ | ⟨a, len', cap', m, n, V, D, Pl, hcs, _, hl, _, hm, _, hx⟩
  · simp [Value.cells] at hcs
    obtain ⟨rfl, rfl, rfl⟩ := hcs
    exact ⟨fun _ => [], ⟨fun i hi => by omega⟩⟩
  · simp [Value.cells] at hcs
    obtain ⟨rfl, rfl, rfl⟩ := hcs
    simp only [if_true] at hm
    have hrow : ∀ i, i < len → ∃ l : List UInt8, ∃ q m d, W.cell? (a.add i) = some (.slice q m d) ∧ Lib.HoldsBytes W (.slice q m d) l ∧ m ≤ d := fun i hi => by
      obtain ⟨h1, h2⟩ := hx i (by omega)
      have hv : ∃ q m d, V i = .slice q m d := by
        rcases Deep.open_slice Tryd.underlying22 h2 with ⟨h, _⟩ | ⟨a, len, cap, _, _, _, _, h, _⟩
        · exact ⟨none, 0, 0, by simpa using h⟩
        · exact ⟨some a, len, cap, by simpa using h⟩
      obtain ⟨q, m, d, hv⟩ := hv
      rw [hv] at h1 h2
      obtain ⟨l, hl, _, hc⟩ := open_bytes (enc := enc) (W := W) (a0 := q) (len := m) (cap := d) ⟨n, h2⟩
      exact ⟨l, q, m, d, h1, hl, hc⟩
    obtain ⟨L, hL⟩ := Deep.choose_lt (α := List UInt8) hrow
    exact ⟨L, ⟨fun i hi => by
      obtain ⟨q, m, d, h1, h2, h3⟩ := hL i hi
      exact ⟨a, q, m, d, rfl, h1, h2, h3⟩⟩⟩

end Go.Proofs.YthjmmnbfjahamaaDoor
