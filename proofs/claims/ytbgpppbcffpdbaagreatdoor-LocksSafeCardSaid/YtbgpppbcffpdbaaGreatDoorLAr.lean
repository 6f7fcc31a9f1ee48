/- The laws' arguments, opened to their cells. -/
import Derived.Test.YtbgpppbcffpdbaaGreatDoorMLaid
import Derived.Test.YtbgpppbcffpdbaaGreatDoorLRu
import Derived.Deep.Slices
import Derived.Deep.Fields
import Derived.ChangeSame
import Derived.Lib.SmallJoins
namespace Go.Proofs.YtbgpppbcffpdbaaGreatDoor
open Go.ChangeShapes Go.WideShapes Go.ChangeAt Go.RowKit Go.Deep Go.Joins

set_option maxRecDepth 1000000
theorem cInt : Tryz.prog.cellsOf 3 = 1 := by kernel_rfl
theorem cBool : Tryz.prog.cellsOf 4 = 1 := by kernel_rfl
theorem cU16 : Tryz.prog.cellsOf 28 = 1 := by kernel_rfl
theorem cHoldD : Tryz.prog.cellsOf 45 = 2 := by kernel_rfl
theorem cWaitD : Tryz.prog.cellsOf 47 = 3 := by kernel_rfl
theorem cRes : Tryz.prog.cellsOf 30 = 3 := by kernel_rfl
theorem cQue : Tryz.prog.cellsOf 43 = 5 := by kernel_rfl
theorem cLks : Tryz.prog.cellsOf 24 = 1 := by kernel_rfl
theorem cOp : Tryz.prog.cellsOf 32 = 6 := by kernel_rfl
theorem cHs : Tryz.prog.cellsOf 40 = 1 := by kernel_rfl
theorem cWs : Tryz.prog.cellsOf 41 = 1 := by kernel_rfl
theorem cQs : Tryz.prog.cellsOf 22 = 1 := by kernel_rfl
theorem u16_of_wf {x : Int} (h : (Lit.int .u16 x).wf = true) : 0 ≤ x ∧ x < 65536 := by
  have h1 : IntKind.u16.min = 0 := rfl
  have h2 : IntKind.u16.max = 65535 := rfl
  simp only [Lit.wf, Bool.and_eq_true, decide_eq_true_eq] at h
  omega

section
variable {H : Type} {enc : TypeId × Value → H} {W : World}
theorem get_some {α : Type} {l : List α} {i : Nat} (h : i < l.length) : ∃ x, l[i]? = some x := ⟨_, List.getElem?_eq_getElem h⟩
/-- what a slice of whole elements reads as -/
theorem elems_of {α : Type} {cf : α → List Value} {ok : α → Prop} {e sz n : Nat} {a : Addr} (hsz : Tryz.prog.cellsOf e = sz)
    (hd : ∀ (fuel : Nat) (cs : List Value) (x : DataW H × List MemPlace), DataW.trod enc Tryz.prog W 0 (fun _ => true) true fuel e cs = some x → ∃ y, cs = cf y ∧ ok y)
    (hi : ∀ i, i < n → ∃ fuel cs x, W.cells? 0 (a.add (i * sz)) sz = some cs ∧ DataW.trod enc Tryz.prog W 0 (fun _ => true) true fuel e cs = some x) :
    ∃ l : List α, l.length = n ∧ (∀ i y, l[i]? = some y → ok y ∧ ∀ j v, (cf y)[j]? = some v → W.cell? ((a.add (i * sz)).add j) = some v) := by
  have key : ∀ i, i < n → ∃ y : α, ok y ∧ ∀ j v, (cf y)[j]? = some v → W.cell? ((a.add (i * sz)).add j) = some v := fun i h => by
    obtain ⟨fuel, cs, x, hc, ht⟩ := hi i h
    obtain ⟨y, rfl, hok⟩ := hd fuel cs x ht
    obtain ⟨_, hlen, hat⟩ := World.cells?_some hc
    refine ⟨y, hok, fun j v hj => ?_⟩
    have hjl : j < sz := by have := (List.getElem?_eq_some_iff.1 hj).1; omega
    rw [hat j hjl, hj]
  subst hsz
  obtain ⟨L, hL⟩ : ∃ L : (i : Nat) → i < n → α, ∀ i h, ok (L i h) ∧ ∀ j v, (cf (L i h))[j]? = some v → W.cell? ((a.add (i * Tryz.prog.cellsOf e)).add j) = some v :=
    ⟨fun i h => Classical.choose (key i h), fun i h => Classical.choose_spec (key i h)⟩
  refine ⟨List.ofFn fun i : Fin n => L i.1 i.2, by simp, fun i y hy => ?_⟩
  obtain ⟨hl, hv⟩ := List.getElem?_eq_some_iff.1 hy
  simp at hl
  have : y = L i hl := by rw [← hv]; simp
  rw [this]
  exact hL i hl
theorem hold_cells {fuel : Nat} {cs : List Value} {x : DataW H × List MemPlace} (h : DataW.trod enc Tryz.prog W 0 (fun _ => true) true fuel 45 cs = some x) : ∃ d : HoldD, cs = Cel.cells d := by
  obtain ⟨xs, n, _, _, hlen, hxl, hg⟩ := DataW.trod_struct Tryz.underlying45 h
  rw [cHoldD] at hlen
  have hx2 : xs.length = 2 := hxl
  match cs, hlen with
  | [c0, c1], _ =>
    have g0 : DataW.trod enc Tryz.prog W 0 (fun _ => true) true n 3 (([c0, c1].drop 0).take (Tryz.prog.cellsOf 3)) = xs[0]? := hg 0 _ rfl
    have g1 : DataW.trod enc Tryz.prog W 0 (fun _ => true) true n 3 (([c0, c1].drop 1).take (Tryz.prog.cellsOf 3)) = xs[1]? := hg 1 _ rfl
    obtain ⟨y0, e0⟩ := get_some (l := xs) (i := 0) (by omega)
    rw [e0, cInt] at g0
    obtain ⟨a0, h0, _, _⟩ := DataW.trod_int Tryz.underlying3 g0
    obtain ⟨y1, e1⟩ := get_some (l := xs) (i := 1) (by omega)
    rw [e1, cInt] at g1
    obtain ⟨a1, h1, _, _⟩ := DataW.trod_int Tryz.underlying3 g1
    simp at h0 h1
    subst h0 h1
    exact ⟨⟨a0, a1⟩, rfl⟩
theorem wait_cells {fuel : Nat} {cs : List Value} {x : DataW H × List MemPlace} (h : DataW.trod enc Tryz.prog W 0 (fun _ => true) true fuel 47 cs = some x) : ∃ d : WaitD, cs = Cel.cells d := by
  obtain ⟨xs, n, _, _, hlen, hxl, hg⟩ := DataW.trod_struct Tryz.underlying47 h
  rw [cWaitD] at hlen
  have hx2 : xs.length = 3 := hxl
  match cs, hlen with
  | [c0, c1, c2], _ =>
    have g0 : DataW.trod enc Tryz.prog W 0 (fun _ => true) true n 3 (([c0, c1, c2].drop 0).take (Tryz.prog.cellsOf 3)) = xs[0]? := hg 0 _ rfl
    have g1 : DataW.trod enc Tryz.prog W 0 (fun _ => true) true n 3 (([c0, c1, c2].drop 1).take (Tryz.prog.cellsOf 3)) = xs[1]? := hg 1 _ rfl
    have g2 : DataW.trod enc Tryz.prog W 0 (fun _ => true) true n 3 (([c0, c1, c2].drop 2).take (Tryz.prog.cellsOf 3)) = xs[2]? := hg 2 _ rfl
    obtain ⟨y0, e0⟩ := get_some (l := xs) (i := 0) (by omega)
    rw [e0, cInt] at g0
    obtain ⟨a0, h0, _, _⟩ := DataW.trod_int Tryz.underlying3 g0
    obtain ⟨y1, e1⟩ := get_some (l := xs) (i := 1) (by omega)
    rw [e1, cInt] at g1
    obtain ⟨a1, h1, _, _⟩ := DataW.trod_int Tryz.underlying3 g1
    obtain ⟨y2, e2⟩ := get_some (l := xs) (i := 2) (by omega)
    rw [e2, cInt] at g2
    obtain ⟨a2, h2, _, _⟩ := DataW.trod_int Tryz.underlying3 g2
    simp at h0 h1 h2
    subst h0 h1 h2
    exact ⟨⟨a0, a1, a2⟩, rfl⟩
theorem open_holds {fuel : Nat} {cs : List Value} {x : DataW H × List MemPlace} (hf : DataW.trod enc Tryz.prog W 0 (fun _ => true) true fuel 40 cs = some x) : ∃ q n c, ∃ l : List HoldD, cs = [.slice q n c] ∧ SlOn W q n c l := by
  rcases open_slice Tryz.underlying40 hf with ⟨hc, _⟩ | ⟨a, len, cap, m, n, D, Pl, hcs, _, hl, hm, hmm, _, hi⟩
  · exact ⟨none, 0, 0, [], hc, SlOn.none_ W⟩
  · rw [cHoldD] at hi
    obtain ⟨l, h1, h2⟩ := elems_of (n := len) (cf := (Cel.cells : HoldD → List Value)) (ok := fun _ => True) cHoldD (fun fuel cs x h => by obtain ⟨y, hy⟩ := hold_cells h; exact ⟨y, hy, trivial⟩) (fun i hin => by
      obtain ⟨cs, hc, ht⟩ := hi i (by rw [hmm]; split <;> omega)
      exact ⟨n, cs, _, hc, ht⟩)
    exact ⟨some a, len, cap, l, hcs, h1, hl, hm, (fun e => by cases e), fun i r hr => ⟨a, rfl, (h2 i r hr).2⟩⟩
theorem open_waits {fuel : Nat} {cs : List Value} {x : DataW H × List MemPlace} (hf : DataW.trod enc Tryz.prog W 0 (fun _ => true) true fuel 41 cs = some x) : ∃ q n c, ∃ l : List WaitD, cs = [.slice q n c] ∧ SlOn W q n c l := by
  rcases open_slice Tryz.underlying41 hf with ⟨hc, _⟩ | ⟨a, len, cap, m, n, D, Pl, hcs, _, hl, hm, hmm, _, hi⟩
  · exact ⟨none, 0, 0, [], hc, SlOn.none_ W⟩
  · rw [cWaitD] at hi
    obtain ⟨l, h1, h2⟩ := elems_of (n := len) (cf := (Cel.cells : WaitD → List Value)) (ok := fun _ => True) cWaitD (fun fuel cs x h => by obtain ⟨y, hy⟩ := wait_cells h; exact ⟨y, hy, trivial⟩) (fun i hin => by
      obtain ⟨cs, hc, ht⟩ := hi i (by rw [hmm]; split <;> omega)
      exact ⟨n, cs, _, hc, ht⟩)
    exact ⟨some a, len, cap, l, hcs, h1, hl, hm, (fun e => by cases e), fun i r hr => ⟨a, rfl, (h2 i r hr).2⟩⟩
theorem res_cells {fuel : Nat} {cs : List Value} {x : DataW H × List MemPlace} (h : DataW.trod enc Tryz.prog W 0 (fun _ => true) true fuel 30 cs = some x) : ∃ r : ResD, cs = [.int .i64 r.t, .bool r.k, .int .u16 r.id] ∧ r.ok := by
  obtain ⟨xs, n, _, _, hlen, hxl, hg⟩ := DataW.trod_struct Tryz.underlying30 h
  rw [cRes] at hlen
  have hx2 : xs.length = 3 := hxl
  match cs, hlen with
  | [c0, c1, c2], _ =>
    have g0 : DataW.trod enc Tryz.prog W 0 (fun _ => true) true n 3 (([c0, c1, c2].drop 0).take (Tryz.prog.cellsOf 3)) = xs[0]? := hg 0 _ rfl
    have g1 : DataW.trod enc Tryz.prog W 0 (fun _ => true) true n 4 (([c0, c1, c2].drop 1).take (Tryz.prog.cellsOf 4)) = xs[1]? := hg 1 _ rfl
    have g2 : DataW.trod enc Tryz.prog W 0 (fun _ => true) true n 28 (([c0, c1, c2].drop 2).take (Tryz.prog.cellsOf 28)) = xs[2]? := hg 2 _ rfl
    obtain ⟨y0, e0⟩ := get_some (l := xs) (i := 0) (by omega)
    obtain ⟨y1, e1⟩ := get_some (l := xs) (i := 1) (by omega)
    obtain ⟨y2, e2⟩ := get_some (l := xs) (i := 2) (by omega)
    rw [e0, cInt] at g0
    rw [e1, cBool] at g1
    rw [e2, cU16] at g2
    obtain ⟨a, ha, _, _⟩ := DataW.trod_int Tryz.underlying3 g0
    obtain ⟨b, hb, _⟩ := DataW.trod_bool Tryz.underlying4 g1
    obtain ⟨i, hi, _, wi⟩ := DataW.trod_int Tryz.underlying28 g2
    simp at ha hb hi
    subst ha hb hi
    exact ⟨⟨a, b, i⟩, rfl, (u16_of_wf wi).1, (u16_of_wf wi).2⟩
theorem que_cells {fuel : Nat} {cs : List Value} {x : DataW H × List MemPlace} (h : DataW.trod enc Tryz.prog W 0 (fun _ => true) true fuel 43 cs = some x) : ∃ v : QV, cs = Cel.cells v ∧ ∃ d, v.On W d := by
  obtain ⟨xs, n, _, _, hlen, hxl, hg⟩ := DataW.trod_struct Tryz.underlying43 h
  rw [cQue] at hlen
  have hx2 : xs.length = 3 := hxl
  match cs, hlen with
  | [c0, c1, c2, c3, c4], _ =>
    have g0 : DataW.trod enc Tryz.prog W 0 (fun _ => true) true n 30 (([c0, c1, c2, c3, c4].drop 0).take (Tryz.prog.cellsOf 30)) = xs[0]? := hg 0 _ rfl
    have g1 : DataW.trod enc Tryz.prog W 0 (fun _ => true) true n 40 (([c0, c1, c2, c3, c4].drop 3).take (Tryz.prog.cellsOf 40)) = xs[1]? := hg 1 _ rfl
    have g2 : DataW.trod enc Tryz.prog W 0 (fun _ => true) true n 41 (([c0, c1, c2, c3, c4].drop 4).take (Tryz.prog.cellsOf 41)) = xs[2]? := hg 2 _ rfl
    obtain ⟨y0, e0⟩ := get_some (l := xs) (i := 0) (by omega)
    obtain ⟨y1, e1⟩ := get_some (l := xs) (i := 1) (by omega)
    obtain ⟨y2, e2⟩ := get_some (l := xs) (i := 2) (by omega)
    rw [e0, cRes] at g0
    rw [e1, cHs] at g1
    rw [e2, cWs] at g2
    obtain ⟨r, hr, ok⟩ := res_cells g0
    obtain ⟨hq, hn, hc, hs, h1, o1⟩ := open_holds g1
    obtain ⟨wq, wn, wc, ws, h2, o2⟩ := open_waits g2
    simp at hr h1 h2
    obtain ⟨rfl, rfl, rfl⟩ := hr
    subst h1 h2
    exact ⟨⟨r, hq, hn, hc, wq, wn, wc⟩, rfl, ⟨r, hs, ws⟩, rfl, ok, o1, o2⟩
theorem open_ques {fuel : Nat} {cs : List Value} {x : DataW H × List MemPlace} (hf : DataW.trod enc Tryz.prog W 0 (fun _ => true) true fuel 22 cs = some x) : ∃ q n c V L, cs = [.slice q n c] ∧ LkOn W q n c V L := by
  rcases open_slice Tryz.underlying22 hf with ⟨hc, _⟩ | ⟨a, len, cap, m, n, D, Pl, hcs, _, hl, hm, hmm, _, hi⟩
  · exact ⟨none, 0, 0, [], [], hc, SlOn.none_ W, rfl, fun i v d h => (by simp at h)⟩
  · rw [cQue] at hi
    obtain ⟨V, h1, h2⟩ := elems_of (n := len) (cf := (Cel.cells : QV → List Value)) (ok := fun v => ∃ d, v.On W d) cQue (fun fuel cs x h => que_cells h) (fun i hin => by
      obtain ⟨cs, hc, ht⟩ := hi i (by rw [hmm]; split <;> omega)
      exact ⟨n, cs, _, hc, ht⟩)
    obtain ⟨L, hL1, hL2⟩ : ∃ L : List QueD, L.length = V.length ∧ ∀ (i : Nat) (v : QV) (d : QueD), V[i]? = some v → L[i]? = some d → v.On W d := by
      have h3 : ∀ (i : Nat) y, V[i]? = some y → ∃ d, y.On W d := fun i y hy => (h2 i y hy).1
      clear h1 h2 hi hmm hl hm hcs
      induction V with
      | nil => exact ⟨[], rfl, fun i v d h => (by simp at h)⟩
      | cons v V ih =>
        obtain ⟨L, e1, e2⟩ := ih (fun i y hy => h3 (i + 1) y (by simpa using hy))
        obtain ⟨d, hd⟩ := h3 0 v rfl
        refine ⟨d :: L, by simp [e1], fun i u e hu he => ?_⟩
        cases i with
        | zero => simp at hu he; subst hu he; exact hd
        | succ i => exact e2 i u e (by simpa using hu) (by simpa using he)
    exact ⟨some a, len, cap, V, L, hcs, ⟨h1, hl, hm, (fun e => by cases e), fun i r hr => ⟨a, rfl, (h2 i r hr).2⟩⟩, by omega, hL2⟩
theorem open_lks {r : Reach} {b0 : Nat} {v : Value} {d : DataW H} {p : List MemPlace} (hv : Value.okWide Tryz.prog W r b0 24 v) (h : DataW.Trod enc Tryz.prog W 0 (fun _ => true) true 24 v d p) : ∃ q n c V L, v = .agg #[.slice q n c] ∧ LkOn W q n c V L := by
  obtain ⟨cs, rfl, hsz⟩ := okWide_struct Tryz.underlying24 hv
  obtain ⟨fuel, hf⟩ := h
  obtain ⟨xs, n, _, _, hlen, hxl, hg⟩ := DataW.trod_struct Tryz.underlying24 hf
  rw [cLks] at hsz
  have hx2 : xs.length = 1 := hxl
  obtain ⟨l⟩ := cs
  match l, hsz with
  | [c0], _ =>
    have g0 : DataW.trod enc Tryz.prog W 0 (fun _ => true) true n 22 (([c0].drop 0).take (Tryz.prog.cellsOf 22)) = xs[0]? := hg 0 _ rfl
    obtain ⟨y0, e0⟩ := get_some (l := xs) (i := 0) (by omega)
    rw [e0, cQs] at g0
    obtain ⟨q, m, c, V, L, hcs, hs⟩ := open_ques g0
    simp at hcs
    subst hcs
    exact ⟨q, m, c, V, L, rfl, hs⟩
theorem open_op {r : Reach} {b0 : Nat} {v : Value} {d : DataW H} {p : List MemPlace} (hv : Value.okWide Tryz.prog W r b0 32 v) (h : DataW.Trod enc Tryz.prog W 0 (fun _ => true) true 32 v d p) : ∃ kd x m t k id, v = .agg #[.int .i64 kd, .int .i64 x, .int .i64 m, .int .i64 t, .bool k, .int .u16 id] ∧ 0 ≤ id ∧ id < 65536 := by
  obtain ⟨cs, rfl, hsz⟩ := okWide_struct Tryz.underlying32 hv
  obtain ⟨fuel, hf⟩ := h
  obtain ⟨xs, n, _, _, hlen, hxl, hg⟩ := DataW.trod_struct Tryz.underlying32 hf
  rw [cOp] at hsz
  have hx2 : xs.length = 4 := hxl
  obtain ⟨l⟩ := cs
  match l, hsz with
  | [c0, c1, c2, c3, c4, c5], _ =>
    have g0 : DataW.trod enc Tryz.prog W 0 (fun _ => true) true n 3 (([c0, c1, c2, c3, c4, c5].drop 0).take (Tryz.prog.cellsOf 3)) = xs[0]? := hg 0 _ rfl
    have g1 : DataW.trod enc Tryz.prog W 0 (fun _ => true) true n 3 (([c0, c1, c2, c3, c4, c5].drop 1).take (Tryz.prog.cellsOf 3)) = xs[1]? := hg 1 _ rfl
    have g2 : DataW.trod enc Tryz.prog W 0 (fun _ => true) true n 3 (([c0, c1, c2, c3, c4, c5].drop 2).take (Tryz.prog.cellsOf 3)) = xs[2]? := hg 2 _ rfl
    have g3 : DataW.trod enc Tryz.prog W 0 (fun _ => true) true n 30 (([c0, c1, c2, c3, c4, c5].drop 3).take (Tryz.prog.cellsOf 30)) = xs[3]? := hg 3 _ rfl
    obtain ⟨y0, e0⟩ := get_some (l := xs) (i := 0) (by omega)
    obtain ⟨y1, e1⟩ := get_some (l := xs) (i := 1) (by omega)
    obtain ⟨y2, e2⟩ := get_some (l := xs) (i := 2) (by omega)
    obtain ⟨y3, e3⟩ := get_some (l := xs) (i := 3) (by omega)
    rw [e0, cInt] at g0
    rw [e1, cInt] at g1
    rw [e2, cInt] at g2
    rw [e3, cRes] at g3
    obtain ⟨a, ha, _, _⟩ := DataW.trod_int Tryz.underlying3 g0
    obtain ⟨b, hb, _, _⟩ := DataW.trod_int Tryz.underlying3 g1
    obtain ⟨c, hc, _, _⟩ := DataW.trod_int Tryz.underlying3 g2
    obtain ⟨r, hr, ok⟩ := res_cells g3
    simp at ha hb hc hr
    obtain ⟨rfl, rfl, rfl⟩ := hr
    subst ha hb hc
    exact ⟨a, b, c, r.t, r.k, r.id, rfl, ok.1, ok.2⟩
end
end Go.Proofs.YtbgpppbcffpdbaaGreatDoor
