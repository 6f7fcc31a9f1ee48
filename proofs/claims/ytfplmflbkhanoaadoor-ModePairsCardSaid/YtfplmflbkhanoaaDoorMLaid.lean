/- The door's own heap meets the condition on the tables; what the condition gives. -/
import Derived.Test.YtfplmflbkhanoaaDoorMTied
namespace Go.Proofs.YtfplmflbkhanoaaDoor
open Go.ChangeShapes Go.WideShapes Go.ChangeAt Go.WideMaps Go.WideElems Go.RowKit

def two : List (String × DataW Unit) := [("bursary/mode.goes", Rows.laid_bursary_mode_goes), ("bursary/mode.covers", Rows.laid_bursary_mode_covers)]
def three : List (String × DataW Unit) := [("bursary/mode.goes", Rows.laid_bursary_mode_goes), ("bursary/mode.covers", Rows.laid_bursary_mode_covers), ("bursary/mode.texts", Rows.laid_bursary_mode_texts)]

theorem door_met (os : Os) (args : Array Value) : laidMetH Tryd.prog [("bursary/mode.goes", Rows.laid_bursary_mode_goes), ("bursary/mode.covers", Rows.laid_bursary_mode_covers)] ((World.doorLaid Tryd.prog 400 os).forCall (fun _ _ => 0) ⟨#[], args, []⟩).memory :=
  laidMetH_of_parts3 (fuel := 8) (laidMet_of_run' 8 (by kernel_rfl) (by kernel_rfl)) (by kernel_rfl) (by kernel_rfl)
theorem door_met3 (os : Os) (args : Array Value) : laidMetH Tryd.prog [("bursary/mode.goes", Rows.laid_bursary_mode_goes), ("bursary/mode.covers", Rows.laid_bursary_mode_covers), ("bursary/mode.texts", Rows.laid_bursary_mode_texts)] ((World.doorLaid Tryd.prog 400 os).forCall (fun _ _ => 0) ⟨#[], args, []⟩).memory :=
  laidMetH_of_parts3 (fuel := 8) (laidMet_of_run' 8 (by kernel_rfl) (by kernel_rfl)) (by kernel_rfl) (by kernel_rfl)

theorem gGoes : Tryd.prog.globalNamed "bursary/mode.goes" = some 1 := by kernel_rfl
theorem tGoes : (Tryd.prog.globals[1]?).map (·.type) = some 41 := by kernel_rfl
theorem gCov : Tryd.prog.globalNamed "bursary/mode.covers" = some 2 := by kernel_rfl
theorem tCov : (Tryd.prog.globals[2]?).map (·.type) = some 41 := by kernel_rfl
theorem gTex : Tryd.prog.globalNamed "bursary/mode.texts" = some 0 := by kernel_rfl
theorem tTex : (Tryd.prog.globals[0]?).map (·.type) = some 39 := by kernel_rfl

section
variable {H : Type} {enc : TypeId × Value → H} {w : World} {base fuel : Nat} {spare : Nat → Bool} {held : Bool} {cs : List Value} {p : List MemPlace}
theorem tab_cells {l : List Nat} (h7 : l.length = 7) (hd : DataW.trod enc Tryd.prog w base spare held fuel 41 cs = some (.agg (l.map fun n : Nat => .lit (.int .u8 (n : Int))), p)) :
    ∀ i, i < 7 → cs[i]? = some (.int .u8 ((l.getD i 0 : Nat) : Int)) := by
  obtain ⟨xs, m1, rfl, hx1, hlen, hn3, hel⟩ := DataW.trod_array Tryd.underlying41 hd
  have c24 : Tryd.prog.cellsOf 35 = 1 := by kernel_rfl
  intro i hi
  have hl : xs.map Prod.fst = l.map fun n : Nat => (.lit (.int .u8 (n : Int)) : DataW H) := by
    have := congrArg Prod.fst hx1
    simp only [DataW.agg.injEq] at this
    exact this.symm
  have hi2 : i < xs.length := by omega
  have hg := congrArg (·[i]?) hl
  simp only [List.getElem?_map, List.getElem?_eq_getElem hi2, Option.map_some] at hg
  have ht : l[i]? = some (l.getD i 0) := by
    have : i < l.length := by omega
    rw [List.getD_eq_getElem?_getD, List.getElem?_eq_getElem this]; rfl
  rw [ht] at hg
  have he := hel i hi
  rw [List.getElem?_eq_getElem hi2, c24, Nat.mul_one] at he
  obtain ⟨k, e1, e2, _⟩ := DataW.trod_int Tryd.underlying35 he
  have hk : k = ((l.getD i 0 : Nat) : Int) := by
    have h2 := congrArg Prod.fst e2
    have h3 := Option.some.inj hg
    rw [h3] at h2
    simpa using h2.symm
  have h1 := congrArg (·[0]?) e1
  simp only [List.getElem?_take, List.getElem?_drop, Nat.add_zero, List.getElem?_cons_zero, Nat.lt_add_one, if_true] at h1
  rw [← hk]
  simpa using h1
theorem tex_cells (hd : DataW.trod enc Tryd.prog w base spare held fuel 39 cs = some (.agg (texL.map fun s : ByteArray => .lit (.string s.data.toList)), p)) :
    ∀ i, i < 7 → cs[i]? = some (.string (tx i)) := by
  obtain ⟨xs, m1, rfl, hx1, hlen, hn3, hel⟩ := DataW.trod_array Tryd.underlying39 hd
  have c24 : Tryd.prog.cellsOf 9 = 1 := by kernel_rfl
  intro i hi
  have hl : xs.map Prod.fst = texL.map fun s : ByteArray => (.lit (.string s.data.toList) : DataW H) := by
    have := congrArg Prod.fst hx1
    simp only [DataW.agg.injEq] at this
    exact this.symm
  have hi2 : i < xs.length := by omega
  have hg := congrArg (·[i]?) hl
  simp only [List.getElem?_map, List.getElem?_eq_getElem hi2, Option.map_some] at hg
  have ht : texL[i]? = some (tx i) := by
    have : i < texL.length := hi
    unfold tx
    rw [List.getD_eq_getElem?_getD, List.getElem?_eq_getElem this]; rfl
  rw [ht] at hg
  have he := hel i hi
  rw [List.getElem?_eq_getElem hi2, c24, Nat.mul_one] at he
  obtain ⟨s, e1, e2, _⟩ := DataW.trod_string Tryd.underlying9 he
  have hk : s = tx i := by
    have h2 := congrArg Prod.fst e2
    have h3 := Option.some.inj hg
    rw [h3] at h2
    simp only [DataW.lit.injEq, Lit.string.injEq] at h2
    exact (ByteArray.ext (Array.toList_inj.1 h2)).symm
  have h1 := congrArg (·[0]?) e1
  simp only [List.getElem?_take, List.getElem?_drop, Nat.add_zero, List.getElem?_cons_zero, Nat.lt_add_one, if_true] at h1
  rw [← hk]
  simpa using h1
end

theorem goes_laid {W : World} {cs : Array Value} (hv : W.var? Tryd.prog "bursary/mode.goes" = some cs) (h : ∀ i, i < 7 → cs.toList[i]? = some (.int .u8 (gT i : Nat))) : LaidG W := fun i hi => by
  rw [World.var?_cell gGoes hv i, ← Array.getElem?_toList]; exact h i hi
theorem cov_laid {W : World} {cs : Array Value} (hv : W.var? Tryd.prog "bursary/mode.covers" = some cs) (h : ∀ i, i < 7 → cs.toList[i]? = some (.int .u8 (cT i : Nat))) : LaidC W := fun i hi => by
  rw [World.var?_cell gCov hv i, ← Array.getElem?_toList]; exact h i hi
theorem tex_laid {W : World} {cs : Array Value} (hv : W.var? Tryd.prog "bursary/mode.texts" = some cs) (h : ∀ i, i < 7 → cs.toList[i]? = some (.string (tx i))) : LaidT W := fun i hi => by
  rw [World.var?_cell gTex hv i, ← Array.getElem?_toList]; exact h i hi

theorem of_laid {W : World} (h : laidMetH Tryd.prog [("bursary/mode.goes", Rows.laid_bursary_mode_goes), ("bursary/mode.covers", Rows.laid_bursary_mode_covers)] W) : Lay W := by
  rw [MakeChecks.laidMetH_plain _ _ _ (by kernel_rfl)] at h
  obtain ⟨ps, ⟨g1, t1, cs1, f1, p1, q1, hg1, ht1, hv1, hd1, ⟨g2, t2, cs2, f2, p2, q2, hg2, ht2, hv2, hd2, _, _⟩, _⟩, _, _⟩ := h
  obtain rfl := Option.some.inj (gGoes.symm.trans hg1)
  obtain rfl := Option.some.inj (tGoes.symm.trans ht1)
  obtain rfl := Option.some.inj (gCov.symm.trans hg2)
  obtain rfl := Option.some.inj (tCov.symm.trans ht2)
  exact ⟨goes_laid hv1 (tab_cells (l := goesT) rfl hd1), cov_laid hv2 (tab_cells (l := covT) rfl hd2)⟩
theorem of_laid3 {W : World} (h : laidMetH Tryd.prog [("bursary/mode.goes", Rows.laid_bursary_mode_goes), ("bursary/mode.covers", Rows.laid_bursary_mode_covers), ("bursary/mode.texts", Rows.laid_bursary_mode_texts)] W) : Lay W ∧ LaidT W := by
  rw [MakeChecks.laidMetH_plain _ _ _ (by kernel_rfl)] at h
  obtain ⟨ps, ⟨g1, t1, cs1, f1, p1, q1, hg1, ht1, hv1, hd1, ⟨g2, t2, cs2, f2, p2, q2, hg2, ht2, hv2, hd2, ⟨g3, t3, cs3, f3, p3, q3, hg3, ht3, hv3, hd3, _, _⟩, _⟩, _⟩, _, _⟩ := h
  obtain rfl := Option.some.inj (gGoes.symm.trans hg1)
  obtain rfl := Option.some.inj (tGoes.symm.trans ht1)
  obtain rfl := Option.some.inj (gCov.symm.trans hg2)
  obtain rfl := Option.some.inj (tCov.symm.trans ht2)
  obtain rfl := Option.some.inj (gTex.symm.trans hg3)
  obtain rfl := Option.some.inj (tTex.symm.trans ht3)
  exact ⟨⟨goes_laid hv1 (tab_cells (l := goesT) rfl hd1), cov_laid hv2 (tab_cells (l := covT) rfl hd2)⟩, tex_laid hv3 (tex_cells hd3)⟩

end Go.Proofs.YtfplmflbkhanoaaDoor
