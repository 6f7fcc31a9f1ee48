/- Parts of the proof: cloned and Redoes of record; The document's record: what a record costs, and undoing it at most; The laws' arguments, opened to their cells: contents; The laws' arguments, opened to their cells: records -/
import Derived.Test.YtocekhckmpkbmaaGreatU30
import Derived.Test.YtocekhckmpkbmaaGreatU01
import Derived.Test.YtocekhckmpkbmaaGreatU35
import Derived.Test.YtocekhckmpkbmaaGreatU19
import Derived.Deep.Slices
import Derived.Deep.Fields
import Derived.ChangeSame
import Derived.Lib.SmallJoins
import Derived.Test.YtocekhckmpkbmaaGreatU32
import Derived.Test.YtocekhckmpkbmaaGreatU28
namespace Go.Proofs.YtocekhckmpkbmaaGreat
open Go.RowKit
end Go.Proofs.YtocekhckmpkbmaaGreat
namespace Go.Proofs.YtocekhckmpkbmaaGreat
open Go.ChangeShapes Go.WideShapes Go.ChangeAt Go.RowKit
theorem bytes_all (v : RecV) (V : List ImgV) (r : RecD) (w : World) (h : v.On w V r) (hlay : LayOk r) : Calls Tryz.prog 18 #[v.val] w (LaidPost r w) := by
 obtain ⟨kind, lsn, txn, prev, next, iq, im, ic, sq, sn, sc, nextTxn, tq, tn, tc, dq, dn, dc⟩ := v; have e1 : lsn = r.lsn := h.lsn; have e2 : prev = r.prev := h.prev; have e3 : next = r.next := h.next; obtain ⟨_, ⟨h1, _⟩, _, ⟨h2, _⟩, ⟨h3, _⟩, _⟩ := h.ints; obtain ⟨ln, rfl⟩ := Int.eq_ofNat_of_zero_le (show 0 ≤ lsn by omega); obtain ⟨pn, rfl⟩ := Int.eq_ofNat_of_zero_le (show 0 ≤ prev by omega); obtain ⟨nx, rfl⟩ := Int.eq_ofNat_of_zero_le (show 0 ≤ next by omega); exact bytes12 kind txn nextTxn ln pn nx iq sq tq dq im ic sn sc tn tc dn dc V r w h hlay
end Go.Proofs.YtocekhckmpkbmaaGreat
namespace Go.Proofs.YtocekhckmpkbmaaGreat
open Go.ChangeShapes Go.WideShapes Go.ChangeAt Go.RowKit Go.Deep Go.Joins
set_option maxRecDepth 100000
theorem cellsInt : Tryz.prog.cellsOf 3 = 1 := by kernel_rfl
theorem cellsI64 : Tryz.prog.cellsOf 2 = 1 := by kernel_rfl
theorem cellsU16 : Tryz.prog.cellsOf 64 = 1 := by kernel_rfl
theorem cellsStr : Tryz.prog.cellsOf 9 = 1 := by kernel_rfl
theorem cellsKey : Tryz.prog.cellsOf 66 = 2 := by kernel_rfl
theorem cellsRow : Tryz.prog.cellsOf 68 = 4 := by kernel_rfl
theorem cellsKid : Tryz.prog.cellsOf 100 = 3 := by kernel_rfl
theorem cellsCont : Tryz.prog.cellsOf 55 = 3 := by kernel_rfl
theorem cellsRows : Tryz.prog.cellsOf 52 = 1 := by kernel_rfl
theorem cellsKids : Tryz.prog.cellsOf 53 = 1 := by kernel_rfl
theorem i64_of_wf {x : Int} (h : (Lit.int .i64 x).wf = true) : I64 x := by
 have h1 : IntKind.i64.min = -9223372036854775808 := rfl; have h2 : IntKind.i64.max = 9223372036854775807 := rfl; simp only [Lit.wf, Bool.and_eq_true, decide_eq_true_eq] at h; unfold I64; omega
theorem u16_of_wf {x : Int} (h : (Lit.int .u16 x).wf = true) : 0 ≤ x ∧ x < 65536 := by
 have h1 : IntKind.u16.min = 0 := rfl; have h2 : IntKind.u16.max = 65535 := rfl; simp only [Lit.wf, Bool.and_eq_true, decide_eq_true_eq] at h; omega
section
variable {H : Type} {enc : TypeId × Value → H} {W : World}
theorem get_some {α : Type} {l : List α} {i : Nat} (h : i < l.length) : ∃ x, l[i]? = some x := ⟨_, List.getElem?_eq_getElem h⟩
theorem key_cells {fuel : Nat} {cs : List Value} {x : DataW H × List MemPlace} (h : DataW.trod enc Tryz.prog W 0 (fun _ => true) true fuel 66 cs = some x) : ∃ k : KeyD, cs = k.cells ∧ KeyOk k := by
 obtain ⟨xs, n, _, _, hlen, hxl, hg⟩ := DataW.trod_struct Tryz.underlying66 h; rw [cellsKey] at hlen; have hx2 : xs.length = 2 := hxl
 match cs, hlen with
 | [c0, c1], _ => have g0 : DataW.trod enc Tryz.prog W 0 (fun _ => true) true n 3 (([c0, c1].drop 0).take (Tryz.prog.cellsOf 3)) = xs[0]? := hg 0 _ rfl; have g1 : DataW.trod enc Tryz.prog W 0 (fun _ => true) true n 64 (([c0, c1].drop 1).take (Tryz.prog.cellsOf 64)) = xs[1]? := hg 1 _ rfl; obtain ⟨y0, e0⟩ := get_some (l := xs) (i := 0) (by omega); obtain ⟨y1, e1⟩ := get_some (l := xs) (i := 1) (by omega); rw [e0, cellsInt] at g0; rw [e1, cellsU16] at g1; obtain ⟨a, ha, _, wa⟩ := DataW.trod_int Tryz.underlying3 g0; obtain ⟨b, hb, _, wb⟩ := DataW.trod_int Tryz.underlying64 g1; simp at ha hb; subst ha hb; exact ⟨⟨a, b⟩, rfl, i64_of_wf wa, u16_of_wf wb⟩
theorem row_cells {fuel : Nat} {cs : List Value} {x : DataW H × List MemPlace} (h : DataW.trod enc Tryz.prog W 0 (fun _ => true) true fuel 68 cs = some x) : ∃ r : RowD, cs = r.cells ∧ RowOk r := by
 obtain ⟨xs, n, _, _, hlen, hxl, hg⟩ := DataW.trod_struct Tryz.underlying68 h; rw [cellsRow] at hlen; have hx2 : xs.length = 3 := hxl
 match cs, hlen with
 | [c0, c1, c2, c3], _ =>
   have g0 : DataW.trod enc Tryz.prog W 0 (fun _ => true) true n 66 (([c0, c1, c2, c3].drop 0).take (Tryz.prog.cellsOf 66)) = xs[0]? := hg 0 _ rfl; have g1 : DataW.trod enc Tryz.prog W 0 (fun _ => true) true n 2 (([c0, c1, c2, c3].drop 2).take (Tryz.prog.cellsOf 2)) = xs[1]? := hg 1 _ rfl; have g2 : DataW.trod enc Tryz.prog W 0 (fun _ => true) true n 9 (([c0, c1, c2, c3].drop 3).take (Tryz.prog.cellsOf 9)) = xs[2]? := hg 2 _ rfl; obtain ⟨y0, e0⟩ := get_some (l := xs) (i := 0) (by omega); obtain ⟨y1, e1⟩ := get_some (l := xs) (i := 1) (by omega); obtain ⟨y2, e2⟩ := get_some (l := xs) (i := 2) (by omega); rw [e0, cellsKey] at g0; rw [e1, cellsI64] at g1; rw [e2, cellsStr] at g2; obtain ⟨⟨a, b⟩, hk, ok⟩ := key_cells g0; obtain ⟨v, hv, _, wv⟩ := DataW.trod_int Tryz.underlying2 g1; obtain ⟨s, hs, _, ws⟩ := DataW.trod_string Tryz.underlying9 g2; simp [KeyD.cells] at hk hv hs; obtain ⟨rfl, rfl⟩ := hk
   subst hv hs; exact ⟨⟨⟨a, b⟩, v, s⟩, rfl, ok, i64_of_wf wv, ws⟩
theorem kid_cells {fuel : Nat} {cs : List Value} {x : DataW H × List MemPlace} (h : DataW.trod enc Tryz.prog W 0 (fun _ => true) true fuel 100 cs = some x) : ∃ r : KidD, cs = r.cells ∧ KidOk r := by
 obtain ⟨xs, n, _, _, hlen, hxl, hg⟩ := DataW.trod_struct Tryz.underlying100 h; rw [cellsKid] at hlen; have hx2 : xs.length = 2 := hxl
 match cs, hlen with
 | [c0, c1, c2], _ => have g0 : DataW.trod enc Tryz.prog W 0 (fun _ => true) true n 66 (([c0, c1, c2].drop 0).take (Tryz.prog.cellsOf 66)) = xs[0]? := hg 0 _ rfl; have g1 : DataW.trod enc Tryz.prog W 0 (fun _ => true) true n 3 (([c0, c1, c2].drop 2).take (Tryz.prog.cellsOf 3)) = xs[1]? := hg 1 _ rfl; obtain ⟨y0, e0⟩ := get_some (l := xs) (i := 0) (by omega); obtain ⟨y1, e1⟩ := get_some (l := xs) (i := 1) (by omega); rw [e0, cellsKey] at g0; rw [e1, cellsInt] at g1; obtain ⟨⟨a, b⟩, hk, ok⟩ := key_cells g0; obtain ⟨v, hv, _, wv⟩ := DataW.trod_int Tryz.underlying3 g1; simp [KeyD.cells] at hk hv; obtain ⟨rfl, rfl⟩ := hk; subst hv; exact ⟨⟨⟨a, b⟩, v⟩, rfl, ok, i64_of_wf wv⟩
/-- what a slice of whole elements reads as -/
theorem elems_of {α : Type} {cells : α → List Value} {ok : α → Prop} {e sz n : Nat} {a : Addr} (hsz : Tryz.prog.cellsOf e = sz)
 (hd : ∀ (fuel : Nat) (cs : List Value) (x : DataW H × List MemPlace), DataW.trod enc Tryz.prog W 0 (fun _ => true) true fuel e cs = some x → ∃ y, cs = cells y ∧ ok y)
 (hi : ∀ i, i < n → ∃ fuel cs x, W.cells? 0 (a.add (i * sz)) sz = some cs ∧ DataW.trod enc Tryz.prog W 0 (fun _ => true) true fuel e cs = some x) :
 ∃ l : List α, l.length = n ∧ (∀ i y, l[i]? = some y → ok y ∧ ∀ j v, (cells y)[j]? = some v → W.cell? ((a.add (i * sz)).add j) = some v) := by
 have key : ∀ i, i < n → ∃ y : α, ok y ∧ ∀ j v, (cells y)[j]? = some v → W.cell? ((a.add (i * sz)).add j) = some v := fun i h => by
  obtain ⟨fuel, cs, x, hc, ht⟩ := hi i h; obtain ⟨y, rfl, hok⟩ := hd fuel cs x ht; obtain ⟨_, hlen, hat⟩ := World.cells?_some hc; refine ⟨y, hok, fun j v hj => ?_⟩; have hjl : j < sz := by have := (List.getElem?_eq_some_iff.1 hj).1; omega
  rw [hat j hjl, hj]
 subst hsz
 obtain ⟨L, hL⟩ : ∃ L : (i : Nat) → i < n → α, ∀ i h, ok (L i h) ∧ ∀ j v, (cells (L i h))[j]? = some v → W.cell? ((a.add (i * Tryz.prog.cellsOf e)).add j) = some v := ⟨fun i h => Classical.choose (key i h), fun i h => Classical.choose_spec (key i h)⟩
 refine ⟨List.ofFn fun i : Fin n => L i.1 i.2, by simp, fun i y hy => ?_⟩; obtain ⟨hl, hv⟩ := List.getElem?_eq_some_iff.1 hy; simp at hl; have : y = L i hl := by rw [← hv]; simp
 rw [this]; exact hL i hl
theorem list_row {fuel : Nat} {cs : List Value} {x : DataW H × List MemPlace} (hf : DataW.trod enc Tryz.prog W 0 (fun _ => true) true fuel 52 cs = some x) : ∃ q n c l, cs = [.slice q n c] ∧ RowsOn W q n c l := by
 rcases open_slice Tryz.underlying52 hf with ⟨hc, _⟩ | ⟨a, len, cap, m, n, D, Pl, hcs, _, hl, hm, hmm, _, hi⟩
 · exact ⟨none, 0, 0, [], hc, RowsOn.none_ W⟩
 · rw [cellsRow] at hi
   obtain ⟨l, h1, h2⟩ := elems_of (n := len) (cells := RowD.cells) (ok := RowOk) cellsRow (fun fuel cs x h => row_cells h) (fun i hin => by
    obtain ⟨cs, hc, ht⟩ := hi i (by rw [hmm]; split <;> omega)
    exact ⟨n, cs, _, hc, ht⟩)
   exact ⟨some a, len, cap, l, hcs, h1, hl, hm, (fun e => by cases e), fun i r hr => ⟨a, rfl, (h2 i r hr).2⟩, fun r hr => by obtain ⟨i, hi⟩ := List.mem_iff_getElem?.1 hr; exact (h2 i r hi).1⟩
theorem list_kid {fuel : Nat} {cs : List Value} {x : DataW H × List MemPlace} (hf : DataW.trod enc Tryz.prog W 0 (fun _ => true) true fuel 53 cs = some x) : ∃ q n c l, cs = [.slice q n c] ∧ KidsOn W q n c l := by
 rcases open_slice Tryz.underlying53 hf with ⟨hc, _⟩ | ⟨a, len, cap, m, n, D, Pl, hcs, _, hl, hm, hmm, _, hi⟩
 · exact ⟨none, 0, 0, [], hc, KidsOn.none_ W⟩
 · rw [cellsKid] at hi
   obtain ⟨l, h1, h2⟩ := elems_of (n := len) (cells := KidD.cells) (ok := KidOk) cellsKid (fun fuel cs x h => kid_cells h) (fun i hin => by
    obtain ⟨cs, hc, ht⟩ := hi i (by rw [hmm]; split <;> omega)
    exact ⟨n, cs, _, hc, ht⟩)
   exact ⟨some a, len, cap, l, hcs, h1, hl, hm, (fun e => by cases e), fun i r hr => ⟨a, rfl, (h2 i r hr).2⟩, fun r hr => by obtain ⟨i, hi⟩ := List.mem_iff_getElem?.1 hr; exact (h2 i r hi).1⟩
end
end Go.Proofs.YtocekhckmpkbmaaGreat
namespace Go.Proofs.YtocekhckmpkbmaaGreat
open Go.ChangeShapes Go.WideShapes Go.ChangeAt Go.RowKit Go.Deep Go.Joins
set_option maxRecDepth 100000
theorem cellsU64 : Tryz.prog.cellsOf 24 = 1 := by kernel_rfl
theorem cellsImg : Tryz.prog.cellsOf 62 = 7 := by kernel_rfl
theorem cellsStep : Tryz.prog.cellsOf 70 = 6 := by kernel_rfl
theorem cellsTxn : Tryz.prog.cellsOf 82 = 5 := by kernel_rfl
theorem cellsPg : Tryz.prog.cellsOf 85 = 2 := by kernel_rfl
theorem cellsImgs : Tryz.prog.cellsOf 25 = 1 := by kernel_rfl
theorem cellsSteps : Tryz.prog.cellsOf 26 = 1 := by kernel_rfl
theorem cellsTxns : Tryz.prog.cellsOf 27 = 1 := by kernel_rfl
theorem cellsPgs : Tryz.prog.cellsOf 28 = 1 := by kernel_rfl
theorem cellsRec : Tryz.prog.cellsOf 30 = 10 := by kernel_rfl
theorem u64_of_wf2 {x : Int} (h : (Lit.int .u64 x).wf = true) : U64 x := by
 have h1 : IntKind.u64.min = 0 := rfl; have h2 : IntKind.u64.max = 18446744073709551615 := rfl; simp only [Lit.wf, Bool.and_eq_true, decide_eq_true_eq] at h; unfold U64; omega
section
variable {H : Type} {enc : TypeId × Value → H} {W : World}
structure ContP where
 v : CV
 c : ContD
theorem cont_cells {fuel : Nat} {cs : List Value} {x : DataW H × List MemPlace} (hf : DataW.trod enc Tryz.prog W 0 (fun _ => true) true fuel 55 cs = some x) : ∃ y : ContP, cs = y.v.cells ∧ y.v.On W y.c := by
 obtain ⟨xs, n, _, _, hlen, hxl, hg⟩ := DataW.trod_struct Tryz.underlying55 hf; rw [cellsCont] at hlen; have hx3 : xs.length = 3 := hxl
 match cs, hlen with
 | [c0, c1, c2], _ => have g0 : DataW.trod enc Tryz.prog W 0 (fun _ => true) true n 3 (([c0, c1, c2].drop 0).take (Tryz.prog.cellsOf 3)) = xs[0]? := hg 0 _ rfl; have g1 : DataW.trod enc Tryz.prog W 0 (fun _ => true) true n 52 (([c0, c1, c2].drop 1).take (Tryz.prog.cellsOf 52)) = xs[1]? := hg 1 _ rfl; have g2 : DataW.trod enc Tryz.prog W 0 (fun _ => true) true n 53 (([c0, c1, c2].drop 2).take (Tryz.prog.cellsOf 53)) = xs[2]? := hg 2 _ rfl; obtain ⟨y0, e0⟩ := get_some (l := xs) (i := 0) (by omega); rw [e0, cellsInt] at g0; obtain ⟨y1, e1⟩ := get_some (l := xs) (i := 1) (by omega); rw [e1, cellsRows] at g1; obtain ⟨y2, e2⟩ := get_some (l := xs) (i := 2) (by omega); rw [e2, cellsKids] at g2; obtain ⟨a, ha, _, _⟩ := DataW.trod_int Tryz.underlying3 g0; obtain ⟨rq, rn, rc, L, h1, o1⟩ := list_row g1; obtain ⟨kq, kn, kc, M, h2, o2⟩ := list_kid g2; simp at ha h1 h2; subst ha h1 h2; exact ⟨⟨⟨a, rq, rn, rc, kq, kn, kc⟩, ⟨a, L, M⟩⟩, rfl, rfl, o1, o2⟩
structure ImgP where
 v : ImgV
 d : ImgD
theorem img_cells {fuel : Nat} {cs : List Value} {x : DataW H × List MemPlace} (hf : DataW.trod enc Tryz.prog W 0 (fun _ => true) true fuel 62 cs = some x) : ∃ y : ImgP, cs = Cel.cells y.v ∧ ImgOn W y.v y.d := by
 obtain ⟨xs, n, _, _, hlen, hxl, hg⟩ := DataW.trod_struct Tryz.underlying62 hf; rw [cellsImg] at hlen; have hx3 : xs.length = 3 := hxl
 match cs, hlen with
 | [c0, c1, c2, c3, c4, c5, c6], _ =>
   have g0 : DataW.trod enc Tryz.prog W 0 (fun _ => true) true n 3 (([c0, c1, c2, c3, c4, c5, c6].drop 0).take (Tryz.prog.cellsOf 3)) = xs[0]? := hg 0 _ rfl; have g1 : DataW.trod enc Tryz.prog W 0 (fun _ => true) true n 55 (([c0, c1, c2, c3, c4, c5, c6].drop 1).take (Tryz.prog.cellsOf 55)) = xs[1]? := hg 1 _ rfl; have g2 : DataW.trod enc Tryz.prog W 0 (fun _ => true) true n 55 (([c0, c1, c2, c3, c4, c5, c6].drop 4).take (Tryz.prog.cellsOf 55)) = xs[2]? := hg 2 _ rfl; obtain ⟨y0, e0⟩ := get_some (l := xs) (i := 0) (by omega); rw [e0, cellsInt] at g0; obtain ⟨y1, e1⟩ := get_some (l := xs) (i := 1) (by omega); rw [e1, cellsCont] at g1; obtain ⟨y2, e2⟩ := get_some (l := xs) (i := 2) (by omega); rw [e2, cellsCont] at g2; obtain ⟨a, ha, _, wa⟩ := DataW.trod_int Tryz.underlying3 g0; obtain ⟨⟨v1, d1⟩, h1, o1⟩ := cont_cells g1; obtain ⟨⟨v2, d2⟩, h2, o2⟩ := cont_cells g2; obtain ⟨k1, q1, n1, m1, q2, n2, m2⟩ := v1
   obtain ⟨k3, q3, n3, m3, q4, n4, m4⟩ := v2; simp at ha h1 h2; subst ha; obtain ⟨rfl, rfl, rfl⟩ := h1; obtain ⟨rfl, rfl, rfl⟩ := h2; exact ⟨⟨⟨a, ⟨k1, q1, n1, m1, q2, n2, m2⟩, ⟨k3, q3, n3, m3, q4, n4, m4⟩⟩, ⟨a, d1, d2⟩⟩, rfl, ⟨rfl, i64_of_wf wa, o1, o2⟩⟩
theorem step_cells {fuel : Nat} {cs : List Value} {x : DataW H × List MemPlace} (hf : DataW.trod enc Tryz.prog W 0 (fun _ => true) true fuel 70 cs = some x) : ∃ y : StepD, cs = Cel.cells y ∧ StepOk y := by
 obtain ⟨xs, n, _, _, hlen, hxl, hg⟩ := DataW.trod_struct Tryz.underlying70 hf; rw [cellsStep] at hlen; have hx3 : xs.length = 3 := hxl
 match cs, hlen with
 | [c0, c1, c2, c3, c4, c5], _ =>
   have g0 : DataW.trod enc Tryz.prog W 0 (fun _ => true) true n 3 (([c0, c1, c2, c3, c4, c5].drop 0).take (Tryz.prog.cellsOf 3)) = xs[0]? := hg 0 _ rfl; have g1 : DataW.trod enc Tryz.prog W 0 (fun _ => true) true n 68 (([c0, c1, c2, c3, c4, c5].drop 1).take (Tryz.prog.cellsOf 68)) = xs[1]? := hg 1 _ rfl; have g2 : DataW.trod enc Tryz.prog W 0 (fun _ => true) true n 2 (([c0, c1, c2, c3, c4, c5].drop 5).take (Tryz.prog.cellsOf 2)) = xs[2]? := hg 2 _ rfl; obtain ⟨y0, e0⟩ := get_some (l := xs) (i := 0) (by omega); rw [e0, cellsInt] at g0; obtain ⟨y1, e1⟩ := get_some (l := xs) (i := 1) (by omega); rw [e1, cellsRow] at g1; obtain ⟨y2, e2⟩ := get_some (l := xs) (i := 2) (by omega); rw [e2, cellsI64] at g2; obtain ⟨a, ha, _, wa⟩ := DataW.trod_int Tryz.underlying3 g0; obtain ⟨⟨⟨t, id⟩, v, s⟩, h1, o1⟩ := row_cells g1; obtain ⟨b, hb, _, wb⟩ := DataW.trod_int Tryz.underlying2 g2; simp [RowD.cells] at ha h1 hb
   subst ha hb; obtain ⟨rfl, rfl, rfl, rfl⟩ := h1; exact ⟨⟨a, ⟨⟨t, id⟩, v, s⟩, b⟩, rfl, ⟨i64_of_wf wa, o1, i64_of_wf wb⟩⟩
theorem txn_cells {fuel : Nat} {cs : List Value} {x : DataW H × List MemPlace} (hf : DataW.trod enc Tryz.prog W 0 (fun _ => true) true fuel 82 cs = some x) : ∃ y : TxnD, cs = Cel.cells y ∧ TxnOk y := by
 obtain ⟨xs, n, _, _, hlen, hxl, hg⟩ := DataW.trod_struct Tryz.underlying82 hf; rw [cellsTxn] at hlen; have hx3 : xs.length = 5 := hxl
 match cs, hlen with
 | [c0, c1, c2, c3, c4], _ =>
   have g0 : DataW.trod enc Tryz.prog W 0 (fun _ => true) true n 3 (([c0, c1, c2, c3, c4].drop 0).take (Tryz.prog.cellsOf 3)) = xs[0]? := hg 0 _ rfl; have g1 : DataW.trod enc Tryz.prog W 0 (fun _ => true) true n 24 (([c0, c1, c2, c3, c4].drop 1).take (Tryz.prog.cellsOf 24)) = xs[1]? := hg 1 _ rfl; have g2 : DataW.trod enc Tryz.prog W 0 (fun _ => true) true n 24 (([c0, c1, c2, c3, c4].drop 2).take (Tryz.prog.cellsOf 24)) = xs[2]? := hg 2 _ rfl; have g3 : DataW.trod enc Tryz.prog W 0 (fun _ => true) true n 24 (([c0, c1, c2, c3, c4].drop 3).take (Tryz.prog.cellsOf 24)) = xs[3]? := hg 3 _ rfl; have g4 : DataW.trod enc Tryz.prog W 0 (fun _ => true) true n 3 (([c0, c1, c2, c3, c4].drop 4).take (Tryz.prog.cellsOf 3)) = xs[4]? := hg 4 _ rfl; obtain ⟨y0, e0⟩ := get_some (l := xs) (i := 0) (by omega); rw [e0, cellsInt] at g0; obtain ⟨y1, e1⟩ := get_some (l := xs) (i := 1) (by omega); rw [e1, cellsU64] at g1
   obtain ⟨y2, e2⟩ := get_some (l := xs) (i := 2) (by omega); rw [e2, cellsU64] at g2; obtain ⟨y3, e3⟩ := get_some (l := xs) (i := 3) (by omega); rw [e3, cellsU64] at g3; obtain ⟨y4, e4⟩ := get_some (l := xs) (i := 4) (by omega); rw [e4, cellsInt] at g4; obtain ⟨a, ha, _, wa⟩ := DataW.trod_int Tryz.underlying3 g0; obtain ⟨b, hb, _, wb⟩ := DataW.trod_int Tryz.underlying24 g1; obtain ⟨c, hc, _, wc⟩ := DataW.trod_int Tryz.underlying24 g2; obtain ⟨d, hd, _, wd⟩ := DataW.trod_int Tryz.underlying24 g3; obtain ⟨e, he, _, we⟩ := DataW.trod_int Tryz.underlying3 g4; simp at ha hb hc hd he; subst ha hb hc hd he; exact ⟨⟨a, b, c, d, e⟩, rfl, ⟨i64_of_wf wa, u64_of_wf2 wb, u64_of_wf2 wc, u64_of_wf2 wd, i64_of_wf we⟩⟩
theorem pg_cells {fuel : Nat} {cs : List Value} {x : DataW H × List MemPlace} (hf : DataW.trod enc Tryz.prog W 0 (fun _ => true) true fuel 85 cs = some x) : ∃ y : PgD, cs = Cel.cells y ∧ PgOk y := by
 obtain ⟨xs, n, _, _, hlen, hxl, hg⟩ := DataW.trod_struct Tryz.underlying85 hf; rw [cellsPg] at hlen; have hx3 : xs.length = 2 := hxl
 match cs, hlen with
 | [c0, c1], _ => have g0 : DataW.trod enc Tryz.prog W 0 (fun _ => true) true n 3 (([c0, c1].drop 0).take (Tryz.prog.cellsOf 3)) = xs[0]? := hg 0 _ rfl; have g1 : DataW.trod enc Tryz.prog W 0 (fun _ => true) true n 24 (([c0, c1].drop 1).take (Tryz.prog.cellsOf 24)) = xs[1]? := hg 1 _ rfl; obtain ⟨y0, e0⟩ := get_some (l := xs) (i := 0) (by omega); rw [e0, cellsInt] at g0; obtain ⟨y1, e1⟩ := get_some (l := xs) (i := 1) (by omega); rw [e1, cellsU64] at g1; obtain ⟨a, ha, _, wa⟩ := DataW.trod_int Tryz.underlying3 g0; obtain ⟨b, hb, _, wb⟩ := DataW.trod_int Tryz.underlying24 g1; simp at ha hb; subst ha hb; exact ⟨⟨a, b⟩, rfl, ⟨i64_of_wf wa, u64_of_wf2 wb⟩⟩
theorem list_step {fuel : Nat} {cs : List Value} {x : DataW H × List MemPlace} (hf : DataW.trod enc Tryz.prog W 0 (fun _ => true) true fuel 26 cs = some x) : ∃ q n c, ∃ l : List StepD, cs = [.slice q n c] ∧ SlOn W q n c l ∧ ∀ r ∈ l, StepOk r := by
 rcases open_slice Tryz.underlying26 hf with ⟨hc, _⟩ | ⟨a, len, cap, m, n, D, Pl, hcs, _, hl, hm, hmm, _, hi⟩
 · exact ⟨none, 0, 0, [], hc, SlOn.none_ W, fun r h => by cases h⟩
 · rw [cellsStep] at hi
   obtain ⟨l, h1, h2⟩ := elems_of (n := len) (cells := fun y : StepD => Cel.cells y) (ok := StepOk) cellsStep (fun fuel cs x h => step_cells h) (fun i hin => by
    obtain ⟨cs, hc, ht⟩ := hi i (by rw [hmm]; split <;> omega)
    exact ⟨n, cs, _, hc, ht⟩)
   exact ⟨some a, len, cap, l, hcs, ⟨h1, hl, hm, (fun e => by cases e), fun i r hr => ⟨a, rfl, (h2 i r hr).2⟩⟩, fun r hr => by obtain ⟨i, hi⟩ := List.mem_iff_getElem?.1 hr; exact (h2 i r hi).1⟩
theorem list_txn {fuel : Nat} {cs : List Value} {x : DataW H × List MemPlace} (hf : DataW.trod enc Tryz.prog W 0 (fun _ => true) true fuel 27 cs = some x) : ∃ q n c, ∃ l : List TxnD, cs = [.slice q n c] ∧ SlOn W q n c l ∧ ∀ r ∈ l, TxnOk r := by
 rcases open_slice Tryz.underlying27 hf with ⟨hc, _⟩ | ⟨a, len, cap, m, n, D, Pl, hcs, _, hl, hm, hmm, _, hi⟩
 · exact ⟨none, 0, 0, [], hc, SlOn.none_ W, fun r h => by cases h⟩
 · rw [cellsTxn] at hi
   obtain ⟨l, h1, h2⟩ := elems_of (n := len) (cells := fun y : TxnD => Cel.cells y) (ok := TxnOk) cellsTxn (fun fuel cs x h => txn_cells h) (fun i hin => by
    obtain ⟨cs, hc, ht⟩ := hi i (by rw [hmm]; split <;> omega)
    exact ⟨n, cs, _, hc, ht⟩)
   exact ⟨some a, len, cap, l, hcs, ⟨h1, hl, hm, (fun e => by cases e), fun i r hr => ⟨a, rfl, (h2 i r hr).2⟩⟩, fun r hr => by obtain ⟨i, hi⟩ := List.mem_iff_getElem?.1 hr; exact (h2 i r hi).1⟩
theorem list_pg {fuel : Nat} {cs : List Value} {x : DataW H × List MemPlace} (hf : DataW.trod enc Tryz.prog W 0 (fun _ => true) true fuel 28 cs = some x) : ∃ q n c, ∃ l : List PgD, cs = [.slice q n c] ∧ SlOn W q n c l ∧ ∀ r ∈ l, PgOk r := by
 rcases open_slice Tryz.underlying28 hf with ⟨hc, _⟩ | ⟨a, len, cap, m, n, D, Pl, hcs, _, hl, hm, hmm, _, hi⟩
 · exact ⟨none, 0, 0, [], hc, SlOn.none_ W, fun r h => by cases h⟩
 · rw [cellsPg] at hi
   obtain ⟨l, h1, h2⟩ := elems_of (n := len) (cells := fun y : PgD => Cel.cells y) (ok := PgOk) cellsPg (fun fuel cs x h => pg_cells h) (fun i hin => by
    obtain ⟨cs, hc, ht⟩ := hi i (by rw [hmm]; split <;> omega)
    exact ⟨n, cs, _, hc, ht⟩)
   exact ⟨some a, len, cap, l, hcs, ⟨h1, hl, hm, (fun e => by cases e), fun i r hr => ⟨a, rfl, (h2 i r hr).2⟩⟩, fun r hr => by obtain ⟨i, hi⟩ := List.mem_iff_getElem?.1 hr; exact (h2 i r hi).1⟩
theorem list_img {fuel : Nat} {cs : List Value} {x : DataW H × List MemPlace} (hf : DataW.trod enc Tryz.prog W 0 (fun _ => true) true fuel 25 cs = some x) : ∃ q n c V L, cs = [.slice q n c] ∧ ImgsOn W q n c V L := by
 rcases open_slice Tryz.underlying25 hf with ⟨hc, _⟩ | ⟨a, len, cap, m, n, D, Pl, hcs, _, hl, hm, hmm, _, hi⟩
 · exact ⟨none, 0, 0, [], [], hc, ImgsOn.none_ W⟩
 · rw [cellsImg] at hi
   obtain ⟨l, h1, h2⟩ := elems_of (n := len) (cells := fun y : ImgP => Cel.cells y.v) (ok := fun y : ImgP => ImgOn W y.v y.d) cellsImg (fun fuel cs x h => img_cells h) (fun i hin => by
    obtain ⟨cs, hc, ht⟩ := hi i (by rw [hmm]; split <;> omega)
    exact ⟨n, cs, _, hc, ht⟩)
   refine ⟨some a, len, cap, l.map (·.v), l.map (·.d), hcs, ⟨⟨by rw [List.length_map]; exact h1, hl, hm, (fun e => by cases e), fun i r hr => ?_⟩, by rw [List.length_map, List.length_map], fun i v d hv hd => ?_⟩⟩
   · rw [List.getElem?_map] at hr; cases hy : l[i]? with
     | none => rw [hy] at hr; cases hr
     | some y => rw [hy] at hr; cases hr; exact ⟨a, rfl, (h2 i y hy).2⟩
   · rw [List.getElem?_map] at hv hd; cases hy : l[i]? with
     | none => rw [hy] at hv; cases hv
     | some y => rw [hy] at hv hd; cases hv; cases hd; exact (h2 i y hy).1
structure RecP where
 v : RecV
 V : List ImgV
 r : RecD
theorem rec_cells {fuel : Nat} {cs : List Value} {x : DataW H × List MemPlace} (hf : DataW.trod enc Tryz.prog W 0 (fun _ => true) true fuel 30 cs = some x) : ∃ y : RecP, cs = y.v.cells ∧ y.v.On W y.V y.r := by
 obtain ⟨xs, n, _, _, hlen, hxl, hg⟩ := DataW.trod_struct Tryz.underlying30 hf; rw [cellsRec] at hlen; have hx3 : xs.length = 10 := hxl
 match cs, hlen with
 | [c0, c1, c2, c3, c4, c5, c6, c7, c8, c9], _ =>
   have g0 : DataW.trod enc Tryz.prog W 0 (fun _ => true) true n 3 (([c0, c1, c2, c3, c4, c5, c6, c7, c8, c9].drop 0).take (Tryz.prog.cellsOf 3)) = xs[0]? := hg 0 _ rfl; have g1 : DataW.trod enc Tryz.prog W 0 (fun _ => true) true n 24 (([c0, c1, c2, c3, c4, c5, c6, c7, c8, c9].drop 1).take (Tryz.prog.cellsOf 24)) = xs[1]? := hg 1 _ rfl; have g2 : DataW.trod enc Tryz.prog W 0 (fun _ => true) true n 3 (([c0, c1, c2, c3, c4, c5, c6, c7, c8, c9].drop 2).take (Tryz.prog.cellsOf 3)) = xs[2]? := hg 2 _ rfl; have g3 : DataW.trod enc Tryz.prog W 0 (fun _ => true) true n 24 (([c0, c1, c2, c3, c4, c5, c6, c7, c8, c9].drop 3).take (Tryz.prog.cellsOf 24)) = xs[3]? := hg 3 _ rfl; have g4 : DataW.trod enc Tryz.prog W 0 (fun _ => true) true n 24 (([c0, c1, c2, c3, c4, c5, c6, c7, c8, c9].drop 4).take (Tryz.prog.cellsOf 24)) = xs[4]? := hg 4 _ rfl; have g5 : DataW.trod enc Tryz.prog W 0 (fun _ => true) true n 25 (([c0, c1, c2, c3, c4, c5, c6, c7, c8, c9].drop 5).take (Tryz.prog.cellsOf 25)) = xs[5]? := hg 5 _ rfl
   have g6 : DataW.trod enc Tryz.prog W 0 (fun _ => true) true n 26 (([c0, c1, c2, c3, c4, c5, c6, c7, c8, c9].drop 6).take (Tryz.prog.cellsOf 26)) = xs[6]? := hg 6 _ rfl; have g7 : DataW.trod enc Tryz.prog W 0 (fun _ => true) true n 3 (([c0, c1, c2, c3, c4, c5, c6, c7, c8, c9].drop 7).take (Tryz.prog.cellsOf 3)) = xs[7]? := hg 7 _ rfl; have g8 : DataW.trod enc Tryz.prog W 0 (fun _ => true) true n 27 (([c0, c1, c2, c3, c4, c5, c6, c7, c8, c9].drop 8).take (Tryz.prog.cellsOf 27)) = xs[8]? := hg 8 _ rfl; have g9 : DataW.trod enc Tryz.prog W 0 (fun _ => true) true n 28 (([c0, c1, c2, c3, c4, c5, c6, c7, c8, c9].drop 9).take (Tryz.prog.cellsOf 28)) = xs[9]? := hg 9 _ rfl; obtain ⟨y0, e0⟩ := get_some (l := xs) (i := 0) (by omega); rw [e0, cellsInt] at g0; obtain ⟨y1, e1⟩ := get_some (l := xs) (i := 1) (by omega); rw [e1, cellsU64] at g1; obtain ⟨y2, e2⟩ := get_some (l := xs) (i := 2) (by omega)
   rw [e2, cellsInt] at g2; obtain ⟨y3, e3⟩ := get_some (l := xs) (i := 3) (by omega); rw [e3, cellsU64] at g3; obtain ⟨y4, e4⟩ := get_some (l := xs) (i := 4) (by omega); rw [e4, cellsU64] at g4; obtain ⟨y5, e5⟩ := get_some (l := xs) (i := 5) (by omega); rw [e5, cellsImgs] at g5; obtain ⟨y6, e6⟩ := get_some (l := xs) (i := 6) (by omega); rw [e6, cellsSteps] at g6; obtain ⟨y7, e7⟩ := get_some (l := xs) (i := 7) (by omega); rw [e7, cellsInt] at g7; obtain ⟨y8, e8⟩ := get_some (l := xs) (i := 8) (by omega); rw [e8, cellsTxns] at g8; obtain ⟨y9, e9⟩ := get_some (l := xs) (i := 9) (by omega); rw [e9, cellsPgs] at g9; obtain ⟨kind, hkind, _, wkind⟩ := DataW.trod_int Tryz.underlying3 g0; obtain ⟨lsn, hlsn, _, wlsn⟩ := DataW.trod_int Tryz.underlying24 g1; obtain ⟨txn, htxn, _, wtxn⟩ := DataW.trod_int Tryz.underlying3 g2; obtain ⟨prev, hprev, _, wprev⟩ := DataW.trod_int Tryz.underlying24 g3; obtain ⟨next, hnext, _, wnext⟩ := DataW.trod_int Tryz.underlying24 g4
   obtain ⟨iq, im, ic, V, L, hi, oi⟩ := list_img g5; obtain ⟨sq, sn, sc, S, hs, os, ks⟩ := list_step g6; obtain ⟨nt, hnt, _, wnt⟩ := DataW.trod_int Tryz.underlying3 g7; obtain ⟨tq, tn, tc, T, ht, ot, kt⟩ := list_txn g8; obtain ⟨dq, dn, dc, D, hd, od, kd⟩ := list_pg g9; simp at hkind hlsn htxn hprev hnext hi hs hnt ht hd; subst hkind hlsn htxn hprev hnext hi hs hnt ht hd; exact ⟨⟨⟨kind, lsn, txn, prev, next, iq, im, ic, sq, sn, sc, nt, tq, tn, tc, dq, dn, dc⟩, V, ⟨kind, lsn, txn, prev, next, L, S, nt, T, D⟩⟩, rfl, ⟨rfl, rfl, rfl, rfl, rfl, rfl, ⟨i64_of_wf wkind, u64_of_wf2 wlsn, i64_of_wf wtxn, u64_of_wf2 wprev, u64_of_wf2 wnext, i64_of_wf wnt⟩, oi, os, ot, od, ks, kt, kd⟩⟩
end
end Go.Proofs.YtocekhckmpkbmaaGreat
