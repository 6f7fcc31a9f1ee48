/- All: as many clones as there are entries. -/
import Derived.Test.YtjhnagipagkhiaaGreatRFmt
namespace Go.Proofs.YtjhnagipagkhiaaGreat
open Go.RowKit

/-- the row of the clones, as far as it has come -/
def AllRow (w wr : World) (rg : Nat) (p : Pl) (d : Dk) (x : RgV) (vs : List Value) (es : List (List UInt8)) (note : List UInt8) (n : Nat) : Prop :=
  RgOn wr rg p d x vs es note ∧ Below w.heap.size w wr ∧ ∃ cs : List Value, cs.length = n ∧ RowV 30 wr w.heap.size cs

theorem made_nils (n : Nat) : madeCells #[.slice none 0 0] n = Array.replicate n (Value.slice none 0 0) := by
  apply Array.ext
  · simp [madeCells]
  · intro i h1 h2
    simp [madeCells, Nat.mod_one]

set_option maxRecDepth 100000 in
set_option maxHeartbeats 1000000 in
theorem all_any (rg : Nat) (p : Pl) (d : Dk) (x : RgV) (vs : List Value) (es : List (List UInt8)) (note : List UInt8) (w : World) (h : RgOn w rg p d x vs es note) (hel : x.el ≤ 100000) (hes : ∀ e ∈ es, e.length ≤ 8000) :
    Calls Tryz.prog 21 #[.pointer (some ⟨rg, 0, none⟩)] w (fun e w' => (∃ q c, e = .returned (.slice q x.el c)) ∧ Below w.heap.size w w') := by
  obtain ⟨n, hn⟩ : ∃ n, x.el = n := ⟨_, rfl⟩
  have c6 : w.cell? ⟨rg, 6, none⟩ = some (.slice x.eq n x.ec) := by rw [← hn]; exact h.here.c6
  have hmk : ∀ u : World, (Instr.makeSlice 33 (.int .i64 (n : Int)) (.int .i64 (n : Int))).run Tryz.prog u = .ok (.slice (some ⟨u.heap.size, 0, none⟩) n n) (u.alloc (.cells (Array.replicate n (Value.slice none 0 0)) 30)) := fun u => by
    obtain ⟨i0, hi, hz0, hz1, hz2⟩ := info_parts info28
    have h := run_make (P := Tryz.prog) u 33 30 i0 (.slice none 0 0) Tryz.underlying33 hi hz0 .i64 .i64 (n : Int) (n : Int) (by omega) (Int.le_refl _) (by rw [hz2]; omega) (by omega)
    rw [Int.toNat_natCast, hz1, Nat.mul_one, show (Value.slice none 0 0).cells = #[.slice none 0 0] from rfl, made_nils] at h
    exact h
  obtain ⟨w1, hw1⟩ : ∃ w1, w.alloc (.cells (Array.replicate n (Value.slice none 0 0)) 30) = w1 := ⟨_, rfl⟩
  have hb1 : Below w.heap.size w w1 := by rw [← hw1]; exact (Below.refl _ _).alloc (Nat.le_refl _) _
  have st0 : Hid (AllRow w w1 rg p d x vs es note n) := ⟨h.below hb1, hb1, List.replicate n (Value.slice none 0 0), by simp, by rw [← hw1]; have h := RowV.made (T := 30) w (List.replicate n (Value.slice none 0 0)); rw [List.toArray_replicate] at h; exact h⟩
  have c61 : w1.cell? ⟨rg, 6, none⟩ = some (.slice x.eq n x.ec) := by rw [← hn]; exact st0.out.1.here.c6
  have hvl := Lib.hid h.own.len
  have hel2 := Lib.hid h.len
  have hrl := h.size
  have hes' := Lib.hid hes
  have h0' := Lib.hid h
  clear h hes
  go_enter Tryz.func21, Tryz.ntmps21
  rw [hn] at hel ⊢
  go_wp2
  try rw [hw1]
  clear hw1
  go_loopw [19] (fun v19 wr => ∃ i : Nat, i ≤ n ∧ v19 = .int .i64 i ∧ Hid (AllRow w wr rg p d x vs es note n)) (fun v19 _ => n - (intOf v19).toNat)
  case atStart => exact ⟨0, by omega, rfl, st0⟩
  case round =>
    obtain ⟨i, hi, rfl, hr⟩ := hrel
    by_cases hlt : i < n
    · obtain ⟨g, hq, hg1, hg2, hnc, hcell, hfr, _⟩ := hr.out.1.own.at (by omega)
      obtain ⟨v, hv⟩ : ∃ v, vs[i]? = some v := ⟨_, List.getElem?_eq_getElem (by have := hvl.out; omega)⟩
      obtain ⟨e, he⟩ : ∃ e, es[i]? = some e := ⟨_, List.getElem?_eq_getElem (by have := hvl.out; have := hel2.out; omega)⟩
      have hen := hr.out.1.ent i v e hv he
      obtain ⟨q2, n2, c2, rfl, _⟩ := hen.lies
      have hc1 := hcell i _ hv
      have hcl := clone q2 n2 c2 e wr hen.holds (by have h1 := hes'.out e (List.mem_of_getElem? he); have h2 := holds_len hen.holds; omega)
      unfold ClonePost at hcl
      rw [hq]
      clear hcell hfr hq hen
      obtain ⟨hro, hbw, cs, hcs, hrow⟩ := hr.out
      obtain ⟨u, hu⟩ : ∃ u, cs[i]? = some u := ⟨_, List.getElem?_eq_getElem (by omega)⟩
      have hro' := Lib.hid hro
      have hbw' := Lib.hid hbw
      have hrow' := Lib.hid hrow
      have hu' := Lib.hid hu
      have hcs' := Lib.hid hcs
      clear hr hro hbw hrow hu hcs
      go_wp2_with (go_at_call 59; refine hcl.mono ?_; rintro e' w7 ⟨q7, c7, rfl, hnew, hb7⟩; clear hnew; have hb7' := Lib.hid hb7; have cc : w7.cell? ⟨w.heap.size, i, none⟩ = some u := (by rw [(RowV.below hrow'.out hb7).cell i]; exact hu'.out); have ff := (RowV.below hrow'.out hb7).free i; clear hb7)
      have hnext : Hid (AllRow w (w7.setCell ⟨w.heap.size, i, none⟩ (.slice q7 e.length c7)) rg p d x vs es note n) := by
        have h7 := RowV.below hrow'.out hb7'.out
        have hg7 := setCell_grown w7 w.heap.size i (.slice q7 e.length c7)
        have hb8 := (hbw'.out.trans (hb7'.out.mono hbw'.out.size))
        have hb9 : Below w.heap.size w (w7.setCell ⟨w.heap.size, i, none⟩ (.slice q7 e.length c7)) := hb8.grown hg7 hb8.size (fun k e => by cases e; exact Nat.le_refl _)
        exact ⟨h0'.out.below hb9, hb9, cs.set i _, by rw [List.length_set]; exact hcs'.out, h7.set i _⟩
      go_roundw
      case rel => exact ⟨i + 1, by omega, by go_num, hnext⟩
      case measure => simp [intOf]; omega
    · obtain rfl : n = i := by omega
      have hb9 := Lib.hid hr.out.2.1
      clear hr
      go_wp2
      go_ret
      exact ⟨⟨_, _, rfl⟩, hb9.out⟩

end Go.Proofs.YtjhnagipagkhiaaGreat
