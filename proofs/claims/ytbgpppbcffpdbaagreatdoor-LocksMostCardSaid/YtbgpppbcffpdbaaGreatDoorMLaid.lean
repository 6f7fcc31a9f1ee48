/- The door's own heap meets the condition on the tables; what the condition gives. -/
import Derived.Test.YtbgpppbcffpdbaaGreatDoorMTied
namespace Go.Proofs.YtbgpppbcffpdbaaGreatDoor
open Go.ChangeShapes Go.WideShapes Go.ChangeAt Go.WideMaps Go.WideElems Go.RowKit

def two : List (String × DataW Unit) := [("bursary/mode.goes", Rows.laid_bursary_mode_goes), ("bursary/mode.covers", Rows.laid_bursary_mode_covers)]

theorem door_met (os : Os) (args : Array Value) : laidMetH Tryz.prog [("bursary/mode.goes", Rows.laid_bursary_mode_goes), ("bursary/mode.covers", Rows.laid_bursary_mode_covers)] ((World.doorLaid Tryz.prog 400 os).forCall (fun _ _ => 0) ⟨#[], args, []⟩).memory :=
  laidMetH_of_parts3 (fuel := 8) (laidMet_of_run' 8 (by kernel_rfl) (by kernel_rfl)) (by kernel_rfl) (by kernel_rfl)
theorem gGoes : Tryz.prog.globalNamed "bursary/mode.goes" = some 1 := by kernel_rfl
theorem tGoes : (Tryz.prog.globals[1]?).map (·.type) = some 95 := by kernel_rfl
theorem gCov : Tryz.prog.globalNamed "bursary/mode.covers" = some 0 := by kernel_rfl
theorem tCov : (Tryz.prog.globals[0]?).map (·.type) = some 95 := by kernel_rfl
section
variable {H : Type} {enc : TypeId × Value → H} {w : World} {base fuel : Nat} {spare : Nat → Bool} {held : Bool} {cs : List Value} {p : List MemPlace}
theorem tab_cells {l : List Nat} (h7 : l.length = 7) (hd : DataW.trod enc Tryz.prog w base spare held fuel 95 cs = some (.agg (l.map fun n : Nat => .lit (.int .u8 (n : Int))), p)) :
    ∀ i, i < 7 → cs[i]? = some (.int .u8 ((l.getD i 0 : Nat) : Int)) := by
  obtain ⟨xs, m1, rfl, hx1, hlen, hn3, hel⟩ := DataW.trod_array Tryz.underlying95 hd
  have c24 : Tryz.prog.cellsOf 94 = 1 := by kernel_rfl
  intro i hi
  have hl : xs.map Prod.fst = l.map fun n : Nat => (.lit (.int .u8 (n : Int)) : DataW H) := by
    have := congrArg Prod.fst hx1
    simp only [DataW.agg.injEq] at this
    exact this.symm
  have hi2 : i < xs.length := by omega
  have hg := congrArg (·[i]?) hl
  simp only [List.getElem?_map, List.getElem?_eq_getElem hi2, Option.map_some] at hg
  have ht : l[i]? = some (l.getD i 0) := by
    have : i < l.length := by omega
    rw [List.getD_eq_getElem?_getD, List.getElem?_eq_getElem this]; rfl
  rw [ht] at hg
  have he := hel i hi
  rw [List.getElem?_eq_getElem hi2, c24, Nat.mul_one] at he
  obtain ⟨k, e1, e2, _⟩ := DataW.trod_int Tryz.underlying94 he
  have hk : k = ((l.getD i 0 : Nat) : Int) := by
    have h2 := congrArg Prod.fst e2
    have h3 := Option.some.inj hg
    rw [h3] at h2
    simpa using h2.symm
  have h1 := congrArg (·[0]?) e1
  simp only [List.getElem?_take, List.getElem?_drop, Nat.add_zero, List.getElem?_cons_zero, Nat.lt_add_one, if_true] at h1
  rw [← hk]
  simpa using h1
end

theorem goes_laid {W : World} {cs : Array Value} (hv : W.var? Tryz.prog "bursary/mode.goes" = some cs) (h : ∀ i, i < 7 → cs.toList[i]? = some (.int .u8 (gT i : Nat))) : LaidG W := fun i hi => by
  rw [World.var?_cell gGoes hv i, ← Array.getElem?_toList]; exact h i hi
theorem cov_laid {W : World} {cs : Array Value} (hv : W.var? Tryz.prog "bursary/mode.covers" = some cs) (h : ∀ i, i < 7 → cs.toList[i]? = some (.int .u8 (cT i : Nat))) : LaidC W := fun i hi => by
  rw [World.var?_cell gCov hv i, ← Array.getElem?_toList]; exact h i hi
theorem of_laid {W : World} (h : laidMetH Tryz.prog [("bursary/mode.goes", Rows.laid_bursary_mode_goes), ("bursary/mode.covers", Rows.laid_bursary_mode_covers)] W) : Lay W := by
  rw [MakeChecks.laidMetH_plain _ _ _ (by kernel_rfl)] at h
  obtain ⟨ps, ⟨g1, t1, cs1, f1, p1, q1, hg1, ht1, hv1, hd1, ⟨g2, t2, cs2, f2, p2, q2, hg2, ht2, hv2, hd2, _, _⟩, _⟩, _, _⟩ := h
  obtain rfl := Option.some.inj (gGoes.symm.trans hg1)
  obtain rfl := Option.some.inj (tGoes.symm.trans ht1)
  obtain rfl := Option.some.inj (gCov.symm.trans hg2)
  obtain rfl := Option.some.inj (tCov.symm.trans ht2)
  exact ⟨goes_laid hv1 (tab_cells (l := goesT) rfl hd1), cov_laid hv2 (tab_cells (l := covT) rfl hd2)⟩
end Go.Proofs.YtbgpppbcffpdbaaGreatDoor
