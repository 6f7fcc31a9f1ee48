/- Parts of the proof: The laws' arguments, opened to their cells: records; cloned and Redoes of record -/
import Derived.Test.YtocekhckmpkbmaaGreatQ34
import Derived.Test.YtocekhckmpkbmaaGreatQ30
import Derived.Test.YtocekhckmpkbmaaGreatQ32
namespace Go.Proofs.YtocekhckmpkbmaaGreat
open Go.ChangeShapes Go.WideShapes Go.ChangeAt Go.RowKit Go.Deep Go.Joins
set_option maxRecDepth 100000
theorem cellsU64 : Tryz.prog.cellsOf 24 = 1 := by kernel_rfl
theorem cellsImg : Tryz.prog.cellsOf 62 = 7 := by kernel_rfl
theorem cellsStep : Tryz.prog.cellsOf 70 = 6 := by kernel_rfl
theorem cellsTxn : Tryz.prog.cellsOf 82 = 5 := by kernel_rfl
theorem cellsPg : Tryz.prog.cellsOf 85 = 2 := by kernel_rfl
theorem cellsImgs : Tryz.prog.cellsOf 25 = 1 := by kernel_rfl
theorem cellsSteps : Tryz.prog.cellsOf 26 = 1 := by kernel_rfl
theorem cellsTxns : Tryz.prog.cellsOf 27 = 1 := by kernel_rfl
theorem cellsPgs : Tryz.prog.cellsOf 28 = 1 := by kernel_rfl
theorem cellsRec : Tryz.prog.cellsOf 30 = 10 := by kernel_rfl
theorem u64_of_wf2 {x : Int} (h : (Lit.int .u64 x).wf = true) : U64 x := by
 have h1 : IntKind.u64.min = 0 := rfl
 have h2 : IntKind.u64.max = 18446744073709551615 := rfl
 simp only [Lit.wf, Bool.and_eq_true, decide_eq_true_eq] at h
 unfold U64; omega
section
variable {H : Type} {enc : TypeId × Value → H} {W : World}
structure ContP where
 v : CV
 c : ContD
theorem cont_cells {fuel : Nat} {cs : List Value} {x : DataW H × List MemPlace} (hf : DataW.trod enc Tryz.prog W 0 (fun _ => true) true fuel 55 cs = some x) : ∃ y : ContP, cs = y.v.cells ∧ y.v.On W y.c := by
 obtain ⟨xs, n, _, _, hlen, hxl, hg⟩ := DataW.trod_struct Tryz.underlying55 hf
 rw [cellsCont] at hlen
 have hx3 : xs.length = 3 := hxl
 match cs, hlen with
 | [c0, c1, c2], _ =>
   have g0 : DataW.trod enc Tryz.prog W 0 (fun _ => true) true n 3 (([c0, c1, c2].drop 0).take (Tryz.prog.cellsOf 3)) = xs[0]? := hg 0 _ rfl
   have g1 : DataW.trod enc Tryz.prog W 0 (fun _ => true) true n 52 (([c0, c1, c2].drop 1).take (Tryz.prog.cellsOf 52)) = xs[1]? := hg 1 _ rfl
   have g2 : DataW.trod enc Tryz.prog W 0 (fun _ => true) true n 53 (([c0, c1, c2].drop 2).take (Tryz.prog.cellsOf 53)) = xs[2]? := hg 2 _ rfl
   obtain ⟨y0, e0⟩ := get_some (l := xs) (i := 0) (by omega)
   rw [e0, cellsInt] at g0
   obtain ⟨y1, e1⟩ := get_some (l := xs) (i := 1) (by omega)
   rw [e1, cellsRows] at g1
   obtain ⟨y2, e2⟩ := get_some (l := xs) (i := 2) (by omega)
   rw [e2, cellsKids] at g2
   obtain ⟨a, ha, _, _⟩ := DataW.trod_int Tryz.underlying3 g0
   obtain ⟨rq, rn, rc, L, h1, o1⟩ := list_row g1
   obtain ⟨kq, kn, kc, M, h2, o2⟩ := list_kid g2
   simp at ha h1 h2
   subst ha h1 h2
   exact ⟨⟨⟨a, rq, rn, rc, kq, kn, kc⟩, ⟨a, L, M⟩⟩, rfl, rfl, o1, o2⟩
structure ImgP where
 v : ImgV
 d : ImgD
theorem img_cells {fuel : Nat} {cs : List Value} {x : DataW H × List MemPlace} (hf : DataW.trod enc Tryz.prog W 0 (fun _ => true) true fuel 62 cs = some x) : ∃ y : ImgP, cs = Cel.cells y.v ∧ ImgOn W y.v y.d := by
 obtain ⟨xs, n, _, _, hlen, hxl, hg⟩ := DataW.trod_struct Tryz.underlying62 hf
 rw [cellsImg] at hlen
 have hx3 : xs.length = 3 := hxl
 match cs, hlen with
 | [c0, c1, c2, c3, c4, c5, c6], _ =>
   have g0 : DataW.trod enc Tryz.prog W 0 (fun _ => true) true n 3 (([c0, c1, c2, c3, c4, c5, c6].drop 0).take (Tryz.prog.cellsOf 3)) = xs[0]? := hg 0 _ rfl
   have g1 : DataW.trod enc Tryz.prog W 0 (fun _ => true) true n 55 (([c0, c1, c2, c3, c4, c5, c6].drop 1).take (Tryz.prog.cellsOf 55)) = xs[1]? := hg 1 _ rfl
   have g2 : DataW.trod enc Tryz.prog W 0 (fun _ => true) true n 55 (([c0, c1, c2, c3, c4, c5, c6].drop 4).take (Tryz.prog.cellsOf 55)) = xs[2]? := hg 2 _ rfl
   obtain ⟨y0, e0⟩ := get_some (l := xs) (i := 0) (by omega)
   rw [e0, cellsInt] at g0
   obtain ⟨y1, e1⟩ := get_some (l := xs) (i := 1) (by omega)
   rw [e1, cellsCont] at g1
   obtain ⟨y2, e2⟩ := get_some (l := xs) (i := 2) (by omega)
   rw [e2, cellsCont] at g2
   obtain ⟨a, ha, _, wa⟩ := DataW.trod_int Tryz.underlying3 g0
   obtain ⟨⟨v1, d1⟩, h1, o1⟩ := cont_cells g1
   obtain ⟨⟨v2, d2⟩, h2, o2⟩ := cont_cells g2
   obtain ⟨k1, q1, n1, m1, q2, n2, m2⟩ := v1
   obtain ⟨k3, q3, n3, m3, q4, n4, m4⟩ := v2
   simp at ha h1 h2
   subst ha
   obtain ⟨rfl, rfl, rfl⟩ := h1
   obtain ⟨rfl, rfl, rfl⟩ := h2
   exact ⟨⟨⟨a, ⟨k1, q1, n1, m1, q2, n2, m2⟩, ⟨k3, q3, n3, m3, q4, n4, m4⟩⟩, ⟨a, d1, d2⟩⟩, rfl, ⟨rfl, i64_of_wf wa, o1, o2⟩⟩
theorem step_cells {fuel : Nat} {cs : List Value} {x : DataW H × List MemPlace} (hf : DataW.trod enc Tryz.prog W 0 (fun _ => true) true fuel 70 cs = some x) : ∃ y : StepD, cs = Cel.cells y ∧ StepOk y := by
 obtain ⟨xs, n, _, _, hlen, hxl, hg⟩ := DataW.trod_struct Tryz.underlying70 hf
 rw [cellsStep] at hlen
 have hx3 : xs.length = 3 := hxl
 match cs, hlen with
 | [c0, c1, c2, c3, c4, c5], _ =>
   have g0 : DataW.trod enc Tryz.prog W 0 (fun _ => true) true n 3 (([c0, c1, c2, c3, c4, c5].drop 0).take (Tryz.prog.cellsOf 3)) = xs[0]? := hg 0 _ rfl
   have g1 : DataW.trod enc Tryz.prog W 0 (fun _ => true) true n 68 (([c0, c1, c2, c3, c4, c5].drop 1).take (Tryz.prog.cellsOf 68)) = xs[1]? := hg 1 _ rfl
   have g2 : DataW.trod enc Tryz.prog W 0 (fun _ => true) true n 2 (([c0, c1, c2, c3, c4, c5].drop 5).take (Tryz.prog.cellsOf 2)) = xs[2]? := hg 2 _ rfl
   obtain ⟨y0, e0⟩ := get_some (l := xs) (i := 0) (by omega)
   rw [e0, cellsInt] at g0
   obtain ⟨y1, e1⟩ := get_some (l := xs) (i := 1) (by omega)
   rw [e1, cellsRow] at g1
   obtain ⟨y2, e2⟩ := get_some (l := xs) (i := 2) (by omega)
   rw [e2, cellsI64] at g2
   obtain ⟨a, ha, _, wa⟩ := DataW.trod_int Tryz.underlying3 g0
   obtain ⟨⟨⟨t, id⟩, v, s⟩, h1, o1⟩ := row_cells g1
   obtain ⟨b, hb, _, wb⟩ := DataW.trod_int Tryz.underlying2 g2
   simp [RowD.cells] at ha h1 hb
   subst ha hb
   obtain ⟨rfl, rfl, rfl, rfl⟩ := h1
   exact ⟨⟨a, ⟨⟨t, id⟩, v, s⟩, b⟩, rfl, ⟨i64_of_wf wa, o1, i64_of_wf wb⟩⟩
theorem txn_cells {fuel : Nat} {cs : List Value} {x : DataW H × List MemPlace} (hf : DataW.trod enc Tryz.prog W 0 (fun _ => true) true fuel 82 cs = some x) : ∃ y : TxnD, cs = Cel.cells y ∧ TxnOk y := by
 obtain ⟨xs, n, _, _, hlen, hxl, hg⟩ := DataW.trod_struct Tryz.underlying82 hf
 rw [cellsTxn] at hlen
 have hx3 : xs.length = 5 := hxl
 match cs, hlen with
 | [c0, c1, c2, c3, c4], _ =>
   have g0 : DataW.trod enc Tryz.prog W 0 (fun _ => true) true n 3 (([c0, c1, c2, c3, c4].drop 0).take (Tryz.prog.cellsOf 3)) = xs[0]? := hg 0 _ rfl
   have g1 : DataW.trod enc Tryz.prog W 0 (fun _ => true) true n 24 (([c0, c1, c2, c3, c4].drop 1).take (Tryz.prog.cellsOf 24)) = xs[1]? := hg 1 _ rfl
   have g2 : DataW.trod enc Tryz.prog W 0 (fun _ => true) true n 24 (([c0, c1, c2, c3, c4].drop 2).take (Tryz.prog.cellsOf 24)) = xs[2]? := hg 2 _ rfl
   have g3 : DataW.trod enc Tryz.prog W 0 (fun _ => true) true n 24 (([c0, c1, c2, c3, c4].drop 3).take (Tryz.prog.cellsOf 24)) = xs[3]? := hg 3 _ rfl
   have g4 : DataW.trod enc Tryz.prog W 0 (fun _ => true) true n 3 (([c0, c1, c2, c3, c4].drop 4).take (Tryz.prog.cellsOf 3)) = xs[4]? := hg 4 _ rfl
   obtain ⟨y0, e0⟩ := get_some (l := xs) (i := 0) (by omega)
   rw [e0, cellsInt] at g0
   obtain ⟨y1, e1⟩ := get_some (l := xs) (i := 1) (by omega)
   rw [e1, cellsU64] at g1
   obtain ⟨y2, e2⟩ := get_some (l := xs) (i := 2) (by omega)
   rw [e2, cellsU64] at g2
   obtain ⟨y3, e3⟩ := get_some (l := xs) (i := 3) (by omega)
   rw [e3, cellsU64] at g3
   obtain ⟨y4, e4⟩ := get_some (l := xs) (i := 4) (by omega)
   rw [e4, cellsInt] at g4
   obtain ⟨a, ha, _, wa⟩ := DataW.trod_int Tryz.underlying3 g0
   obtain ⟨b, hb, _, wb⟩ := DataW.trod_int Tryz.underlying24 g1
   obtain ⟨c, hc, _, wc⟩ := DataW.trod_int Tryz.underlying24 g2
   obtain ⟨d, hd, _, wd⟩ := DataW.trod_int Tryz.underlying24 g3
   obtain ⟨e, he, _, we⟩ := DataW.trod_int Tryz.underlying3 g4
   simp at ha hb hc hd he
   subst ha hb hc hd he
   exact ⟨⟨a, b, c, d, e⟩, rfl, ⟨i64_of_wf wa, u64_of_wf2 wb, u64_of_wf2 wc, u64_of_wf2 wd, i64_of_wf we⟩⟩
theorem pg_cells {fuel : Nat} {cs : List Value} {x : DataW H × List MemPlace} (hf : DataW.trod enc Tryz.prog W 0 (fun _ => true) true fuel 85 cs = some x) : ∃ y : PgD, cs = Cel.cells y ∧ PgOk y := by
 obtain ⟨xs, n, _, _, hlen, hxl, hg⟩ := DataW.trod_struct Tryz.underlying85 hf
 rw [cellsPg] at hlen
 have hx3 : xs.length = 2 := hxl
 match cs, hlen with
 | [c0, c1], _ =>
   have g0 : DataW.trod enc Tryz.prog W 0 (fun _ => true) true n 3 (([c0, c1].drop 0).take (Tryz.prog.cellsOf 3)) = xs[0]? := hg 0 _ rfl
   have g1 : DataW.trod enc Tryz.prog W 0 (fun _ => true) true n 24 (([c0, c1].drop 1).take (Tryz.prog.cellsOf 24)) = xs[1]? := hg 1 _ rfl
   obtain ⟨y0, e0⟩ := get_some (l := xs) (i := 0) (by omega)
   rw [e0, cellsInt] at g0
   obtain ⟨y1, e1⟩ := get_some (l := xs) (i := 1) (by omega)
   rw [e1, cellsU64] at g1
   obtain ⟨a, ha, _, wa⟩ := DataW.trod_int Tryz.underlying3 g0
   obtain ⟨b, hb, _, wb⟩ := DataW.trod_int Tryz.underlying24 g1
   simp at ha hb
   subst ha hb
   exact ⟨⟨a, b⟩, rfl, ⟨i64_of_wf wa, u64_of_wf2 wb⟩⟩
theorem list_step {fuel : Nat} {cs : List Value} {x : DataW H × List MemPlace} (hf : DataW.trod enc Tryz.prog W 0 (fun _ => true) true fuel 26 cs = some x) : ∃ q n c, ∃ l : List StepD, cs = [.slice q n c] ∧ SlOn W q n c l ∧ ∀ r ∈ l, StepOk r := by
 rcases open_slice Tryz.underlying26 hf with ⟨hc, _⟩ | ⟨a, len, cap, m, n, D, Pl, hcs, _, hl, hm, hmm, _, hi⟩
 · exact ⟨none, 0, 0, [], hc, SlOn.none_ W, fun r h => by cases h⟩
 · rw [cellsStep] at hi
   obtain ⟨l, h1, h2⟩ := elems_of (n := len) (cells := fun y : StepD => Cel.cells y) (ok := StepOk) cellsStep (fun fuel cs x h => step_cells h) (fun i hin => by
    obtain ⟨cs, hc, ht⟩ := hi i (by rw [hmm]; split <;> omega)
    exact ⟨n, cs, _, hc, ht⟩)
   exact ⟨some a, len, cap, l, hcs, ⟨h1, hl, hm, (fun e => by cases e), fun i r hr => ⟨a, rfl, (h2 i r hr).2⟩⟩, fun r hr => by obtain ⟨i, hi⟩ := List.mem_iff_getElem?.1 hr; exact (h2 i r hi).1⟩
theorem list_txn {fuel : Nat} {cs : List Value} {x : DataW H × List MemPlace} (hf : DataW.trod enc Tryz.prog W 0 (fun _ => true) true fuel 27 cs = some x) : ∃ q n c, ∃ l : List TxnD, cs = [.slice q n c] ∧ SlOn W q n c l ∧ ∀ r ∈ l, TxnOk r := by
 rcases open_slice Tryz.underlying27 hf with ⟨hc, _⟩ | ⟨a, len, cap, m, n, D, Pl, hcs, _, hl, hm, hmm, _, hi⟩
 · exact ⟨none, 0, 0, [], hc, SlOn.none_ W, fun r h => by cases h⟩
 · rw [cellsTxn] at hi
   obtain ⟨l, h1, h2⟩ := elems_of (n := len) (cells := fun y : TxnD => Cel.cells y) (ok := TxnOk) cellsTxn (fun fuel cs x h => txn_cells h) (fun i hin => by
    obtain ⟨cs, hc, ht⟩ := hi i (by rw [hmm]; split <;> omega)
    exact ⟨n, cs, _, hc, ht⟩)
   exact ⟨some a, len, cap, l, hcs, ⟨h1, hl, hm, (fun e => by cases e), fun i r hr => ⟨a, rfl, (h2 i r hr).2⟩⟩, fun r hr => by obtain ⟨i, hi⟩ := List.mem_iff_getElem?.1 hr; exact (h2 i r hi).1⟩
theorem list_pg {fuel : Nat} {cs : List Value} {x : DataW H × List MemPlace} (hf : DataW.trod enc Tryz.prog W 0 (fun _ => true) true fuel 28 cs = some x) : ∃ q n c, ∃ l : List PgD, cs = [.slice q n c] ∧ SlOn W q n c l ∧ ∀ r ∈ l, PgOk r := by
 rcases open_slice Tryz.underlying28 hf with ⟨hc, _⟩ | ⟨a, len, cap, m, n, D, Pl, hcs, _, hl, hm, hmm, _, hi⟩
 · exact ⟨none, 0, 0, [], hc, SlOn.none_ W, fun r h => by cases h⟩
 · rw [cellsPg] at hi
   obtain ⟨l, h1, h2⟩ := elems_of (n := len) (cells := fun y : PgD => Cel.cells y) (ok := PgOk) cellsPg (fun fuel cs x h => pg_cells h) (fun i hin => by
    obtain ⟨cs, hc, ht⟩ := hi i (by rw [hmm]; split <;> omega)
    exact ⟨n, cs, _, hc, ht⟩)
   exact ⟨some a, len, cap, l, hcs, ⟨h1, hl, hm, (fun e => by cases e), fun i r hr => ⟨a, rfl, (h2 i r hr).2⟩⟩, fun r hr => by obtain ⟨i, hi⟩ := List.mem_iff_getElem?.1 hr; exact (h2 i r hi).1⟩
theorem list_img {fuel : Nat} {cs : List Value} {x : DataW H × List MemPlace} (hf : DataW.trod enc Tryz.prog W 0 (fun _ => true) true fuel 25 cs = some x) : ∃ q n c V L, cs = [.slice q n c] ∧ ImgsOn W q n c V L := by
 rcases open_slice Tryz.underlying25 hf with ⟨hc, _⟩ | ⟨a, len, cap, m, n, D, Pl, hcs, _, hl, hm, hmm, _, hi⟩
 · exact ⟨none, 0, 0, [], [], hc, ImgsOn.none_ W⟩
 · rw [cellsImg] at hi
   obtain ⟨l, h1, h2⟩ := elems_of (n := len) (cells := fun y : ImgP => Cel.cells y.v) (ok := fun y : ImgP => ImgOn W y.v y.d) cellsImg (fun fuel cs x h => img_cells h) (fun i hin => by
    obtain ⟨cs, hc, ht⟩ := hi i (by rw [hmm]; split <;> omega)
    exact ⟨n, cs, _, hc, ht⟩)
   refine ⟨some a, len, cap, l.map (·.v), l.map (·.d), hcs, ⟨⟨by rw [List.length_map]; exact h1, hl, hm, (fun e => by cases e), fun i r hr => ?_⟩, by rw [List.length_map, List.length_map], fun i v d hv hd => ?_⟩⟩
   · rw [List.getElem?_map] at hr
     cases hy : l[i]? with
     | none => rw [hy] at hr; cases hr
     | some y => rw [hy] at hr; cases hr; exact ⟨a, rfl, (h2 i y hy).2⟩
   · rw [List.getElem?_map] at hv hd
     cases hy : l[i]? with
     | none => rw [hy] at hv; cases hv
     | some y => rw [hy] at hv hd; cases hv; cases hd; exact (h2 i y hy).1
structure RecP where
 v : RecV
 V : List ImgV
 r : RecD
theorem rec_cells {fuel : Nat} {cs : List Value} {x : DataW H × List MemPlace} (hf : DataW.trod enc Tryz.prog W 0 (fun _ => true) true fuel 30 cs = some x) : ∃ y : RecP, cs = y.v.cells ∧ y.v.On W y.V y.r := by
 obtain ⟨xs, n, _, _, hlen, hxl, hg⟩ := DataW.trod_struct Tryz.underlying30 hf
 rw [cellsRec] at hlen
 have hx3 : xs.length = 10 := hxl
 match cs, hlen with
 | [c0, c1, c2, c3, c4, c5, c6, c7, c8, c9], _ =>
   have g0 : DataW.trod enc Tryz.prog W 0 (fun _ => true) true n 3 (([c0, c1, c2, c3, c4, c5, c6, c7, c8, c9].drop 0).take (Tryz.prog.cellsOf 3)) = xs[0]? := hg 0 _ rfl
   have g1 : DataW.trod enc Tryz.prog W 0 (fun _ => true) true n 24 (([c0, c1, c2, c3, c4, c5, c6, c7, c8, c9].drop 1).take (Tryz.prog.cellsOf 24)) = xs[1]? := hg 1 _ rfl
   have g2 : DataW.trod enc Tryz.prog W 0 (fun _ => true) true n 3 (([c0, c1, c2, c3, c4, c5, c6, c7, c8, c9].drop 2).take (Tryz.prog.cellsOf 3)) = xs[2]? := hg 2 _ rfl
   have g3 : DataW.trod enc Tryz.prog W 0 (fun _ => true) true n 24 (([c0, c1, c2, c3, c4, c5, c6, c7, c8, c9].drop 3).take (Tryz.prog.cellsOf 24)) = xs[3]? := hg 3 _ rfl
   have g4 : DataW.trod enc Tryz.prog W 0 (fun _ => true) true n 24 (([c0, c1, c2, c3, c4, c5, c6, c7, c8, c9].drop 4).take (Tryz.prog.cellsOf 24)) = xs[4]? := hg 4 _ rfl
   have g5 : DataW.trod enc Tryz.prog W 0 (fun _ => true) true n 25 (([c0, c1, c2, c3, c4, c5, c6, c7, c8, c9].drop 5).take (Tryz.prog.cellsOf 25)) = xs[5]? := hg 5 _ rfl
   have g6 : DataW.trod enc Tryz.prog W 0 (fun _ => true) true n 26 (([c0, c1, c2, c3, c4, c5, c6, c7, c8, c9].drop 6).take (Tryz.prog.cellsOf 26)) = xs[6]? := hg 6 _ rfl
   have g7 : DataW.trod enc Tryz.prog W 0 (fun _ => true) true n 3 (([c0, c1, c2, c3, c4, c5, c6, c7, c8, c9].drop 7).take (Tryz.prog.cellsOf 3)) = xs[7]? := hg 7 _ rfl
   have g8 : DataW.trod enc Tryz.prog W 0 (fun _ => true) true n 27 (([c0, c1, c2, c3, c4, c5, c6, c7, c8, c9].drop 8).take (Tryz.prog.cellsOf 27)) = xs[8]? := hg 8 _ rfl
   have g9 : DataW.trod enc Tryz.prog W 0 (fun _ => true) true n 28 (([c0, c1, c2, c3, c4, c5, c6, c7, c8, c9].drop 9).take (Tryz.prog.cellsOf 28)) = xs[9]? := hg 9 _ rfl
   obtain ⟨y0, e0⟩ := get_some (l := xs) (i := 0) (by omega)
   rw [e0, cellsInt] at g0
   obtain ⟨y1, e1⟩ := get_some (l := xs) (i := 1) (by omega)
   rw [e1, cellsU64] at g1
   obtain ⟨y2, e2⟩ := get_some (l := xs) (i := 2) (by omega)
   rw [e2, cellsInt] at g2
   obtain ⟨y3, e3⟩ := get_some (l := xs) (i := 3) (by omega)
   rw [e3, cellsU64] at g3
   obtain ⟨y4, e4⟩ := get_some (l := xs) (i := 4) (by omega)
   rw [e4, cellsU64] at g4
   obtain ⟨y5, e5⟩ := get_some (l := xs) (i := 5) (by omega)
   rw [e5, cellsImgs] at g5
   obtain ⟨y6, e6⟩ := get_some (l := xs) (i := 6) (by omega)
   rw [e6, cellsSteps] at g6
   obtain ⟨y7, e7⟩ := get_some (l := xs) (i := 7) (by omega)
   rw [e7, cellsInt] at g7
   obtain ⟨y8, e8⟩ := get_some (l := xs) (i := 8) (by omega)
   rw [e8, cellsTxns] at g8
   obtain ⟨y9, e9⟩ := get_some (l := xs) (i := 9) (by omega)
   rw [e9, cellsPgs] at g9
   obtain ⟨kind, hkind, _, wkind⟩ := DataW.trod_int Tryz.underlying3 g0
   obtain ⟨lsn, hlsn, _, wlsn⟩ := DataW.trod_int Tryz.underlying24 g1
   obtain ⟨txn, htxn, _, wtxn⟩ := DataW.trod_int Tryz.underlying3 g2
   obtain ⟨prev, hprev, _, wprev⟩ := DataW.trod_int Tryz.underlying24 g3
   obtain ⟨next, hnext, _, wnext⟩ := DataW.trod_int Tryz.underlying24 g4
   obtain ⟨iq, im, ic, V, L, hi, oi⟩ := list_img g5
   obtain ⟨sq, sn, sc, S, hs, os, ks⟩ := list_step g6
   obtain ⟨nt, hnt, _, wnt⟩ := DataW.trod_int Tryz.underlying3 g7
   obtain ⟨tq, tn, tc, T, ht, ot, kt⟩ := list_txn g8
   obtain ⟨dq, dn, dc, D, hd, od, kd⟩ := list_pg g9
   simp at hkind hlsn htxn hprev hnext hi hs hnt ht hd
   subst hkind hlsn htxn hprev hnext hi hs hnt ht hd
   exact ⟨⟨⟨kind, lsn, txn, prev, next, iq, im, ic, sq, sn, sc, nt, tq, tn, tc, dq, dn, dc⟩, V, ⟨kind, lsn, txn, prev, next, L, S, nt, T, D⟩⟩, rfl, ⟨rfl, rfl, rfl, rfl, rfl, rfl, ⟨i64_of_wf wkind, u64_of_wf2 wlsn, i64_of_wf wtxn, u64_of_wf2 wprev, u64_of_wf2 wnext, i64_of_wf wnt⟩, oi, os, ot, od, ks, kt, kd⟩⟩
theorem open_rec {r : Reach} {b0 : Nat} {v : Value} {d : DataW H} {p : List MemPlace} (hv : Value.okWide Tryz.prog W r b0 30 v) (h : DataW.Trod enc Tryz.prog W 0 (fun _ => true) true 30 v d p) : ∃ (x : RecV) (V : List ImgV) (rd : RecD), v = x.val ∧ x.On W V rd := by
 obtain ⟨cs, rfl, hsz⟩ := okWide_struct Tryz.underlying30 hv
 obtain ⟨fuel, hf⟩ := h
 obtain ⟨⟨x, V, rd⟩, h1, h2⟩ := rec_cells hf
 obtain ⟨l⟩ := cs
 have h1 : l = x.cells := h1
 subst h1
 exact ⟨x, V, rd, rfl, h2⟩
theorem open_imgs {a0 : Option Addr} {len cap : Nat} {d : DataW H} {p : List MemPlace} (h : DataW.Trod enc Tryz.prog W 0 (fun _ => true) true 25 (.slice a0 len cap) d p) : ∃ V L, ImgsOn W a0 len cap V L := by
 obtain ⟨fuel, hf⟩ := h
 obtain ⟨q, n, c, V, L, hcs, ho⟩ := list_img hf
 simp [Value.cells] at hcs
 obtain ⟨rfl, rfl, rfl⟩ := hcs
 exact ⟨V, L, ho⟩
end
end Go.Proofs.YtocekhckmpkbmaaGreat
namespace Go.Proofs.YtocekhckmpkbmaaGreat
open Go.RowKit
set_option maxRecDepth 100000 in
set_option maxHeartbeats 1000000 in
theorem cloneK_any (q : Option Addr) (n c : Nat) (l : List KidD) (w : World) (hr : KidsOn w q n c l) (hn : n ≤ 1000000) :
 Calls Tryz.prog 82 #[.slice q n c] w (fun e w' => ∃ q' c', e = .returned (.slice q' n c') ∧ OwnK w' w.heap.size (.slice q' n c') l ∧ Below w.heap.size w w') := by
 cases q with
 | none =>
   have h0 := hr.nil rfl
   have h1 := hr.le
   have h2 := hr.len
   obtain rfl : n = 0 := by omega
   obtain rfl := List.eq_nil_of_length_eq_zero h2
   subst h0
   clear h1 hr
   have heq : ∀ u, (binOp .eql 53 (.slice none 0 0) (.slice none 0 0)).run Tryz.prog u = .ok (.bool true) u := fun u => Lib.run_eql_slice_nil u _ _ _ _ _ _ _ Tryz.underlying53
   go_enter Tryz.func82, Tryz.ntmps82
   go_wp2
   go_ret
   exact ⟨none, 0, rfl, OwnK.nil _ _, Below.refl _ _⟩
 | some ad =>
   have hrr := Lib.hid hr
   have hl := Lib.hid hr.len
   clear hr
   have heq : ∀ u, (binOp .eql 53 (.slice (some ad) n c) (.slice none 0 0)).run Tryz.prog u = .ok (.bool false) u := fun u => Lib.run_eql_slice_nil u _ _ _ _ _ _ _ Tryz.underlying53
   have ho : Hid (OwnK (w.alloc (.cells #[] 100)) w.heap.size (.slice (some ⟨w.heap.size, 0, none⟩) 0 0) []) := World.ownsRow_made w #[] 0 (Nat.le_refl _) (Nat.zero_le _) rfl
   go_enter Tryz.func82, Tryz.ntmps82
   go_wp2_with (first
    | (at_builtin
       refine wpList_append_k Tryz.underlying53 infoKid rfl rfl (.tmp 5) (.tmp 6) rfl rfl rfl ho.out (hrr.out.below ((Below.refl _ _).alloc (Nat.le_refl _) _) (Nat.le_refl _)) (by omega) (by omega) (by simp) ?_
       intro q' c' w' h1 h2 h3
       have hh := Lib.hid h1
       have hg := Lib.hid h2
       clear h1 h2 h3))
   go_ret
   refine ⟨q', c', rfl, by have := hh.out; rwa [Nat.zero_add] at this, ((Below.refl w.heap.size w).alloc (Nat.le_refl _) _).trans (grown_belowN hg.out (by simp) (fun k hk => by cases hk; exact Nat.le_refl _))⟩
theorem good_len {c : ContD} (h : GoodC c) : c.rows.length ≤ 4 ∧ c.kids.length ≤ 4 := by
 rcases h with ⟨_, h1, h2⟩ | ⟨_, h1, h2⟩ | ⟨_, h1, h2⟩
 · rw [h1, h2]; exact ⟨by decide, by decide⟩
 · rw [h2]; exact ⟨h1.len, by decide⟩
 · rw [h2]; exact ⟨by decide, h1.len⟩
theorem good_zero : GoodC zeroC := .inl ⟨rfl, rfl, rfl⟩
theorem may_imgs {r : RecD} (hm : mayB r = true) : ImagesOk r.images := by
 obtain ⟨_, _, h3, h4⟩ := may_parts hm
 by_cases h2 : r.kind = 2
 · rw [kindB2 h2] at h4
   simp only [Bool.and_eq_true] at h4
   exact (pB_iff _).1 h4.2.2
 by_cases h5 : r.kind = 5
 · rw [kindB5 h5] at h4
   simp only [Bool.and_eq_true] at h4
   exact (pB_iff _).1 h4.2.2.1
 have hn : r.images = [] := by
  have e : (othersD r).images = r.images := by
   unfold othersD
   rw [if_neg h2]
   by_cases k3 : r.kind = 3
   · rw [if_pos k3]
   rw [if_neg k3]
   by_cases k4 : r.kind = 4
   · rw [if_pos k4]
   rw [if_neg k4, if_neg h5]
   by_cases k9 : r.kind = 9
   · rw [if_pos k9]
   · rw [if_neg k9]
  rw [← e, h3]
  rfl
 rw [hn]
 exact ⟨⟨by decide, rfl⟩, fun d hd => by cases hd⟩
def ClnP (c : ContD) (w : World) (e : Ending) (w' : World) : Prop := ∃ k rq rn rc kq kn kc, e = .returned (.agg #[.int .i64 k, .slice rq rn rc, .slice kq kn kc]) ∧ ContOn w' k rq rn rc kq kn kc c ∧ Far w.heap.size rq ∧ Far w.heap.size kq ∧ Below w.heap.size w w'
set_option maxRecDepth 100000 in
set_option maxHeartbeats 4000000 in
theorem cloned_any (k : Int) (rq : Option Addr) (rn rc : Nat) (kq : Option Addr) (kn kc : Nat) (c : ContD) (w : World) (h : ContOn w k rq rn rc kq kn kc c) (hr : rn ≤ 1000000) (hk : kn ≤ 1000000) :
 Calls Tryz.prog 54 #[.agg #[.int .i64 k, .slice rq rn rc, .slice kq kn kc]] w (ClnP c w) := by
 obtain ⟨W, hW⟩ : ∃ W, (w.alloc (.cells #[.int .i64 k, .slice rq rn rc, .slice kq kn kc] 55)).alloc (.cells #[.int .i64 0, .slice none 0 0, .slice none 0 0] 55) = W := ⟨_, rfl⟩
 have hbx := Lib.hid (two_boxes (xs := [.int .i64 k, .slice rq rn rc, .slice kq kn kc]) (ys := [.int .i64 0, .slice none 0 0, .slice none 0 0]) hW)
 have p0 : Hid (RowV 55 W (w.heap.size + 1) [.int .i64 0, .slice none 0 0, .slice none 0 0]) := by
  have h1 := RowV.made (T := 55) (w.alloc (.cells #[.int .i64 k, .slice rq rn rc, .slice kq kn kc] 55)) [.int .i64 0, .slice none 0 0, .slice none 0 0]
  show RowV _ _ _ _
  rw [← hW]; simpa using h1
 have hon := Lib.hid (h.below hbx.out.1 (Nat.le_refl _))
 have hokr := Lib.hid h.rows.ok
 have hokk := Lib.hid h.kids.ok
 have hkk : Hid (k = c.kind) := h.kind
 have hsz : Hid (w.heap.size + 2 ≤ W.heap.size) := by have h1 := p0.out.lt; show _ ≤ _; omega
 clear h
 go_enter Tryz.func54, Tryz.ntmps54
 go_wp2_with fail
 refine wp_region_held (S := fun u => Boxed u w.heap.size [.int .i64 k, .slice rq rn rc, .slice kq kn kc]) (by kernel_rfl) ?_
 try rw [hW]
 change wpAnyH _ _ _ _ _ _ _ _ (World.drew W)
 have hdr := below_drew W
 have hS : Boxed (World.drew W) w.heap.size [.int .i64 k, .slice rq rn rc, .slice kq kn kc] := hbx.out.2.1.below hdr (Nat.le_refl _)
 have hon0 := hon.out.below hdr (Nat.le_refl _)
 have pr0 := p0.out.below hdr
 have hd0 := hbx.out.1.trans (hdr.mono hbx.out.1.size)
 have hz0 := Nat.le_trans hsz.out hdr.size
 clear hW hdr
 generalize World.drew W = u0 at hS hon0 pr0 hd0 hz0 ⊢
 refine tg 0 3 (.pointer (some ⟨w.heap.size, 0, none⟩)) hS ?_; go_frame
 refine held_tk (i := 1) (dst := some 4) (v := .int .i64 k) rfl rfl (.inl ⟨rfl, fun u hu => by have c0 := hu.cell 0 rfl; go_simp⟩) hS ?_; go_frame
 refine tg 2 5 (.pointer (some ⟨w.heap.size, 1, none⟩)) hS ?_; go_frame
 refine held_tk (i := 3) (dst := some 6) (v := .slice rq rn rc) rfl rfl (.inl ⟨rfl, fun u hu => by have c0 := hu.cell 1 rfl; go_simp⟩) hS ?_; go_frame
 refine tg 5 8 (.pointer (some ⟨w.heap.size, 2, none⟩)) hS ?_; go_frame
 refine held_tk (i := 6) (dst := some 9) (v := .slice kq kn kc) rfl rfl (.inl ⟨rfl, fun u hu => by have c0 := hu.cell 2 rfl; go_simp⟩) hS ?_; go_frame
 refine held_call (i := 4) (dst := some 7) rfl rfl (by kernel_rfl) rfl (by go_simp) (clone_any rq rn rc c.rows u0 hon0.rows hr) ?_
 rintro e u4 ⟨q1, c1, rfl, ho1, hb4⟩
 have hS4 := hS.below hb4 (by omega)
 refine ⟨_, rfl, hS4, ?_⟩; go_frame
 refine held_call (i := 7) (dst := some 10) rfl rfl (by kernel_rfl) rfl (by go_simp) (cloneK_any kq kn kc c.kids u4 (hon0.kids.below hb4 (Nat.le_refl _)) hk) ?_
 rintro e u7 ⟨q2, c2, rfl, ho2, hb7⟩
 have hs4 := hb4.size
 have hS7 := hS4.below hb7 (by omega)
 refine ⟨_, rfl, hS7, ?_⟩; go_frame
 have ho1' := ho1.below hb7
 have pr7 := (pr0.below hb4).below hb7
 have hd7 := below_step hb7 (below_step hb4 hd0)
 refine held_value (i := 8) (dst := some 11) (v := .agg #[.int .i64 k, .slice q1 rn c1, .slice q2 kn c2]) (w' := u7) rfl rfl (by kernel_rfl) rfl (by go_simp) hS7 ?_; go_frame
 obtain ⟨u9, st9, rr9, gr9⟩ := run_storeVar_at (o := 0) (vs := [.int .i64 k, .slice q1 rn c1, .slice q2 kn c2]) pr7 (sizeCont (.int .i64 k) (.slice q1 rn c1) (.slice q2 kn c2)) (Nat.le_refl _) (one_all rfl)
 have r9 : RowV 55 u9 (w.heap.size + 1) [.int .i64 k, .slice q1 rn c1, .slice q2 kn c2] := rr9
 have hS9 := hS7.gr gr9 (by omega)
 refine held_skip (i := 9) (dst := none) rfl rfl (by kernel_rfl) rfl (run_store_op (x := .tmp 2) (y := .tmp 11) rfl rfl rfl st9) hS9 ?_; go_frame
 refine wpAnyH_done (by kernel_rfl) ?_ _
 have h1f : ∀ a, q1 = some a → u9.heap[a.block]? = u7.heap[a.block]? := fun a ha => gr9.block _ (ho1'.far a ha).2 (fun e => by have h1 := (ho1.far a ha).1; simp only [Option.some.injEq] at e; omega)
 have h2f : ∀ a, q2 = some a → u9.heap[a.block]? = u7.heap[a.block]? := fun a ha => gr9.block _ (ho2.far a ha).2 (fun e => by have h1 := (ho2.far a ha).1; simp only [Option.some.injEq] at e; omega)
 have hend : Hid (ContOn u9 k q1 rn c1 q2 kn c2 c) := ⟨hkk.out, (ho1'.kept h1f).reads hokr.out, (ho2.kept h2f).reads hokk.out⟩
 have hdE := Lib.hid (Gr.below gr9 hd7 (by omega))
 have hfar1 : Hid (Far w.heap.size q1) := fun a ha => by have := (ho1.far a ha).1; omega
 have hfar2 : Hid (Far w.heap.size q2) := fun a ha => by have := (ho2.far a ha).1; omega
 have y0 : u9.cell? ⟨w.heap.size + 1, 0, none⟩ = some (.int .i64 k) := r9.cell 0
 have y1 : u9.cell? ⟨w.heap.size + 1, 1, none⟩ = some (.slice q1 rn c1) := r9.cell 1
 have y2 : u9.cell? ⟨w.heap.size + 1, 2, none⟩ = some (.slice q2 kn c2) := r9.cell 2
 clear ho1 ho2 ho1' pr7 hd7 st9 rr9 gr9 hS9 hS7 hS4 hS h1f h2f hb4 hb7 pr0 hd0 hon0 r9
 go_wp2_with fail
 refine bodyPost_ret (v := .agg #[.int .i64 k, .slice q1 rn c1, .slice q2 kn c2]) (by simp [results, Tryz.results54, go_sem, y0, y1, y2]) rfl ?_
 exact ⟨k, q1, rn, c1, q2, kn, c2, rfl, hend.out, hfar1.out, hfar2.out, hdE.out⟩
/-- what Redoes answers -/
def RedP (r : RecD) (p : Int) (w : World) (e : Ending) (w' : World) : Prop := ∃ k rq rn rc kq kn kc ok, e = .returned (.tuple #[.agg #[.int .i64 k, .slice rq rn rc, .slice kq kn kc], .bool ok]) ∧ ((redD r p = none ∧ ok = false ∧ ContOn w' k rq rn rc kq kn kc zeroC) ∨ (∃ d, redD r p = some d ∧ ok = true ∧ ContOn w' k rq rn rc kq kn kc d.aft)) ∧ Below w.heap.size w w'
set_option maxRecDepth 100000 in
set_option maxHeartbeats 8000000 in
theorem redoes_any (v : RecV) (V : List ImgV) (r : RecD) (pg : Int) (w : World) (h : v.On w V r) :
 Calls Tryz.prog 26 #[v.val, .int .i64 pg] w (RedP r pg w) := by
 obtain ⟨kind, lsn, txn, prev, next, iq, im, ic, sq, sn, sc, nextTxn, tq, tn, tc, dq, dn, dc⟩ := v
 obtain ⟨W, hW⟩ : ∃ W, (w.alloc (.cells #[.int .i64 kind, .int .u64 lsn, .int .i64 txn, .int .u64 prev, .int .u64 next, .slice iq im ic, .slice sq sn sc, .int .i64 nextTxn, .slice tq tn tc, .slice dq dn dc] 30)).alloc (.cells #[.int .i64 0, .slice none 0 0, .slice none 0 0] 55) = W := ⟨_, rfl⟩
 have hbx := Lib.hid (two_boxes (xs := [.int .i64 kind, .int .u64 lsn, .int .i64 txn, .int .u64 prev, .int .u64 next, .slice iq im ic, .slice sq sn sc, .int .i64 nextTxn, .slice tq tn tc, .slice dq dn dc]) (ys := [.int .i64 0, .slice none 0 0, .slice none 0 0]) hW)
 have p0 : Hid (RowV 55 W (w.heap.size + 1) [.int .i64 0, .slice none 0 0, .slice none 0 0]) := by
  have h1 := RowV.made (T := 55) (w.alloc (.cells #[.int .i64 kind, .int .u64 lsn, .int .i64 txn, .int .u64 prev, .int .u64 next, .slice iq im ic, .slice sq sn sc, .int .i64 nextTxn, .slice tq tn tc, .slice dq dn dc] 30)) [.int .i64 0, .slice none 0 0, .slice none 0 0]
  show RowV _ _ _ _
  rw [← hW]; simpa using h1
 have hszv : (Tryz.prog.info? 30).map (·.size) = some ([.int .i64 kind, .int .u64 lsn, .int .i64 txn, .int .u64 prev, .int .u64 next, .slice iq im ic, .slice sq sn sc, .int .i64 nextTxn, .slice tq tn tc, .slice dq dn dc] : List Value).length := sizeRec ⟨kind, lsn, txn, prev, next, iq, im, ic, sq, sn, sc, nextTxn, tq, tn, tc, dq, dn, dc⟩
 have zcs : (Tryz.prog.info? 55).map (·.size) = some ([.int .i64 0, .slice none 0 0, .slice none 0 0] : List Value).length := sizeCont (.int .i64 0) (.slice none 0 0) (.slice none 0 0)
 have zcone : ∀ x ∈ ([.int .i64 0, .slice none 0 0, .slice none 0 0] : List Value), x.oneCell' = true := one_all rfl
 have hon := Lib.hid (h.below hbx.out.1 (Nat.le_refl _))
 have hLl : Hid (r.images.length = im) := by have h1 := h.images.len; have h2 := h.images.on.len; show _ = im; simp only at h2; omega
 have hmax : im ≤ maxLen := Nat.le_trans h.images.on.le h.images.on.cap
 unfold maxLen at hmax
 have hsz : Hid (w.heap.size + 2 ≤ W.heap.size) := by have h1 := p0.out.lt; show _ ≤ _; omega
 have hmb := mayBe_any ⟨kind, lsn, txn, prev, next, iq, im, ic, sq, sn, sc, nextTxn, tq, tn, tc, dq, dn, dc⟩ V r W hon.out
 obtain ⟨B, hB⟩ : ∃ B, mayB r = B := ⟨_, rfl⟩
 rw [hB] at hmb
 have hmb := Lib.hid hmb
 have hB := Lib.hid hB
 clear h
 show Calls _ _ #[.agg #[.int .i64 kind, .int .u64 lsn, .int .i64 txn, .int .u64 prev, .int .u64 next, .slice iq im ic, .slice sq sn sc, .int .i64 nextTxn, .slice tq tn tc, .slice dq dn dc], .int .i64 pg] _ _
 go_enter Tryz.func26, Tryz.ntmps26
 go_wp2_with (first
  | (with_reducible refine wpList_load_at rfl 30 (.tmp 2) rfl Tryz.underlying30 rfl hszv rfl hbx.out.2.1.all ?_))
 clear hW
 refine hmb.out.mono ?_
 clear hmb
 rintro e w1 ⟨rfl, hb1⟩
 have p1 := Lib.hid (p0.out.below hb1)
 have hd1 := Lib.hid (hbx.out.1.trans (hb1.mono hbx.out.1.size))
 have hx1 := Lib.hid (hbx.out.2.1.below hb1 (Nat.le_refl _))
 have hon1 := Lib.hid (hon.out.below hb1 (Nat.le_refl _))
 have hs1 : Hid (w.heap.size + 2 ≤ w1.heap.size) := Nat.le_trans hsz.out hb1.size
 clear hb1
 cases B with
 | false =>
   go_wp2_with (first
    | ((with_reducible refine wpList_store_at rfl 55 (.tmp 4) (.tmp 11) rfl (o := 0) (vs := [.int .i64 0, .slice none 0 0, .slice none 0 0]) rfl rfl p1.out zcs (Nat.le_refl _) zcone ?_)
       intro wz h9 hg9
       have rz : Hid (RowV 55 wz (w.heap.size + 1) [.int .i64 0, .slice none 0 0, .slice none 0 0]) := h9
       have gz := Lib.hid hg9
       clear h9 hg9))
   have y0 : wz.cell? ⟨w.heap.size + 1, 0, none⟩ = some (.int .i64 0) := rz.out.cell 0
   have y1 : wz.cell? ⟨w.heap.size + 1, 1, none⟩ = some (.slice none 0 0) := rz.out.cell 1
   have y2 : wz.cell? ⟨w.heap.size + 1, 2, none⟩ = some (.slice none 0 0) := rz.out.cell 2
   refine bodyPost_ret (v := .tuple #[.agg #[.int .i64 0, .slice none 0 0, .slice none 0 0], .bool false]) (by simp [results, Tryz.results26, go_sem, y0, y1, y2]) rfl ?_
   exact ⟨0, none, 0, 0, none, 0, 0, false, rfl, .inl ⟨(by unfold redD; rw [hB.out]; rfl), rfl, ⟨rfl, RowsOn.none_ _, KidsOn.none_ _⟩⟩, Gr.below gz.out hd1.out (by omega)⟩
 | true =>
   have hig := Lib.hid (may_imgs hB.out)
   have z5 : w1.cell? ⟨w.heap.size, 5, none⟩ = some (.slice iq im ic) := hx1.out.cell 5 rfl
   go_wp2_with fail
   clear z5
   have h0 : Hid (findI r.images pg = findI (r.images.drop 0) pg ∧ Below w1.heap.size w1 w1) := ⟨rfl, Below.refl _ _⟩
   go_loopw [15] (fun v wr => ∃ j : Nat, j ≤ im ∧ v = .int .i64 j ∧ Hid (findI r.images pg = findI (r.images.drop j) pg ∧ Below w1.heap.size w1 wr)) (fun v _ => im - (RowKit.intOf v).toNat)
   case atStart => exact ⟨0, Nat.zero_le _, rfl, h0⟩
   case round =>
    obtain ⟨j, hj, rfl, hst⟩ := hrel
    clear h0
    by_cases hlt : j < im
    · obtain ⟨A, ⟨p, ⟨k1, q1, n1, c1, q2, n2, c2⟩, ⟨k3, q3, n3, c3, q4, n4, c4⟩⟩, d, hqA, hx, hdx, hond, hcA⟩ := (hon1.out.images.below hst.out.2 (Nat.le_refl _)).at (show j < im from hlt)
      subst hqA
      have hcA : Hid (∀ j' x, ([.int .i64 p, .int .i64 k1, .slice q1 n1 c1, .slice q2 n2 c2, .int .i64 k3, .slice q3 n3 c3, .slice q4 n4 c4] : List Value)[j']? = some x → wr.cell? ((A.add (j * 7)).add j') = some x) := hcA
      have hs : (Tryz.prog.info? 62).map (·.size) = some ([.int .i64 p, .int .i64 k1, .slice q1 n1 c1, .slice q2 n2 c2, .int .i64 k3, .slice q3 n3 c3, .slice q4 n4 c4] : List Value).length := sizeImg ⟨p, ⟨k1, q1, n1, c1, q2, n2, c2⟩, ⟨k3, q3, n3, c3, q4, n4, c4⟩⟩
      have hdx := Lib.hid hdx
      have hond := Lib.hid hond
      have i0 : (0 : Int) ≤ j := by omega
      have i1 : (j : Int) < im := by omega
      clear hx
      obtain ⟨we, hwe⟩ : ∃ x, wr.alloc (.cells #[.int .i64 p, .int .i64 k1, .slice q1 n1 c1, .slice q2 n2 c2, .int .i64 k3, .slice q3 n3 c3, .slice q4 n4 c4] 62) = x := ⟨_, rfl⟩
      have hbk := Lib.hid (one_box (xs := [.int .i64 p, .int .i64 k1, .slice q1 n1 c1, .slice q2 n2 c2, .int .i64 k3, .slice q3 n3 c3, .slice q4 n4 c4]) hwe)
      have d0 : we.cell? ⟨wr.heap.size, 0, none⟩ = some (.int .i64 p) := hbk.out.2.1.cell 0 rfl
      have hd2 := Lib.hid (below_step hbk.out.1 hst.out.2)
      by_cases hpg : p = pg
      · subst hpg
        have hfd : Hid (redD r p = some d) := by
         show _ = _
         unfold redD
         rw [if_pos hB.out, hst.out.1, findI_at hdx.out, if_pos hond.out.page.symm]
        have hgd := good_len (hig.out.2 d (List.mem_of_getElem? hdx.out)).2
        have hona := hond.out.aft.below hbk.out.1 (Nat.le_refl _)
        have hrl := hona.rl
        have hkl := hona.kl
        simp only at hrl hkl
        have hcl := Lib.hid (cloned_any k3 q3 n3 c3 q4 n4 c4 d.aft we hona (by omega) (by omega))
        have f4 := Lib.hid (Boxed.part hbk.out.2.1 (o := 4) (ys := [.int .i64 k3, .slice q3 n3 c3, .slice q4 n4 c4]) (fun j' x hj => by
         match j', hj with
         | 0, hj => exact hj
         | 1, hj => exact hj
         | 2, hj => exact hj
         | j' + 3, hj => simp at hj))
        have z1 := sizeCont (.int .i64 k3) (.slice q3 n3 c3) (.slice q4 n4 c4)
        clear hgd hona hrl hkl
        go_wp2_with (first
         | (with_reducible refine wpList_load_at rfl 62 (.tmp 17) rfl Tryz.underlying62 rfl hs rfl hcA.out ?_)
         | (with_reducible refine wpList_load_at rfl 55 (.tmp 23) rfl Tryz.underlying55 rfl z1 rfl f4.out ?_))
        clear hwe
        refine hcl.out.mono ?_
        clear hcl
        rintro e w3 ⟨k5, q5, n5, c5, q6, n6, c6, rfl, hon5, hfa, hfb, hb3⟩
        have p3 := Lib.hid ((p1.out.below hd2.out).below hb3)
        have hd3 := Lib.hid (hd1.out.trans ((below_step hb3 hd2.out).mono hd1.out.size))
        have hon5 := Lib.hid hon5
        have hfa := Lib.hid hfa
        have hfb := Lib.hid hfb
        have hs5 := sizeCont (.int .i64 k5) (.slice q5 n5 c5) (.slice q6 n6 c6)
        have ho5 : ∀ x ∈ ([.int .i64 k5, .slice q5 n5 c5, .slice q6 n6 c6] : List Value), x.oneCell' = true := one_all rfl
        clear hb3
        go_wp2_with (first
         | ((with_reducible refine wpList_store_at rfl 55 (.tmp 4) (.tmp 25) rfl (o := 0) (vs := [.int .i64 k5, .slice q5 n5 c5, .slice q6 n6 c6]) rfl rfl p3.out hs5 (Nat.le_refl _) ho5 ?_)
            intro wz h9 hg9
            have rz : Hid (RowV 55 wz (w.heap.size + 1) [.int .i64 k5, .slice q5 n5 c5, .slice q6 n6 c6]) := h9
            have gz := Lib.hid hg9
            clear h9 hg9))
        have y0 : wz.cell? ⟨w.heap.size + 1, 0, none⟩ = some (.int .i64 k5) := rz.out.cell 0
        have y1 : wz.cell? ⟨w.heap.size + 1, 1, none⟩ = some (.slice q5 n5 c5) := rz.out.cell 1
        have y2 : wz.cell? ⟨w.heap.size + 1, 2, none⟩ = some (.slice q6 n6 c6) := rz.out.cell 2
        refine bodyPost_ret (v := .tuple #[.agg #[.int .i64 k5, .slice q5 n5 c5, .slice q6 n6 c6], .bool true]) (by simp [results, Tryz.results26, go_sem, y0, y1, y2]) rfl ?_
        exact ⟨k5, q5, n5, c5, q6, n6, c6, true, rfl, .inr ⟨d, hfd.out, rfl, hon5.out.gr gz.out (fun a ha => by have h1 := hfa.out a ha; have h2 := hs1.out; have h3 := hd2.out.size; omega) (fun a ha => by have h1 := hfb.out a ha; have h2 := hs1.out; have h3 := hd2.out.size; omega)⟩, Gr.below gz.out hd3.out (by omega)⟩
      · have hq : (p == pg) = false := by simpa using hpg
        replace hpg := Lib.hid hpg
        have hnew : Hid (findI r.images pg = findI (r.images.drop (j + 1)) pg ∧ Below w1.heap.size w1 we) := ⟨by rw [hst.out.1, findI_at hdx.out, if_neg (by rw [← hond.out.page]; exact hpg.out)], hd2.out⟩
        go_wp2_with (first
         | (with_reducible refine wpList_load_at rfl 62 (.tmp 17) rfl Tryz.underlying62 rfl hs rfl hcA.out ?_))
        clear hwe
        go_roundw
        case rel => exact ⟨j + 1, by omega, by go_num, hnew⟩
        case measure => simp [RowKit.intOf]; omega
    · obtain rfl : im = j := by omega
      have pE := Lib.hid (p1.out.below hst.out.2)
      have hdE := Lib.hid (hd1.out.trans (hst.out.2.mono hd1.out.size))
      have hno : Hid (redD r pg = none) := by
       show _ = _
       unfold redD
       rw [if_pos hB.out, hst.out.1, ← hLl.out, findI_end]
      go_wp2_with (first
       | ((with_reducible refine wpList_store_at rfl 55 (.tmp 4) (.tmp 27) rfl (o := 0) (vs := [.int .i64 0, .slice none 0 0, .slice none 0 0]) rfl rfl pE.out zcs (Nat.le_refl _) zcone ?_)
          intro wz h9 hg9
          have rz : Hid (RowV 55 wz (w.heap.size + 1) [.int .i64 0, .slice none 0 0, .slice none 0 0]) := h9
          have gz := Lib.hid hg9
          clear h9 hg9))
      have y0 : wz.cell? ⟨w.heap.size + 1, 0, none⟩ = some (.int .i64 0) := rz.out.cell 0
      have y1 : wz.cell? ⟨w.heap.size + 1, 1, none⟩ = some (.slice none 0 0) := rz.out.cell 1
      have y2 : wz.cell? ⟨w.heap.size + 1, 2, none⟩ = some (.slice none 0 0) := rz.out.cell 2
      refine bodyPost_ret (v := .tuple #[.agg #[.int .i64 0, .slice none 0 0, .slice none 0 0], .bool false]) (by simp [results, Tryz.results26, go_sem, y0, y1, y2]) rfl ?_
      exact ⟨0, none, 0, 0, none, 0, 0, false, rfl, .inl ⟨hno.out, rfl, ⟨rfl, RowsOn.none_ _, KidsOn.none_ _⟩⟩, Gr.below gz.out hdE.out (by omega)⟩
end Go.Proofs.YtocekhckmpkbmaaGreat
