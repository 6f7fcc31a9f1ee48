/- Parts of the proof: What follows of requests: what comes of a transaction that may be may be; what an error, and what only reads, leaves; The laws' arguments, opened to their cells: rows, keys, schemas, and lists of them; and the last step of every law's proof; The laws' arguments, opened to their cells: requests, and transactions that run alone; Same and SameAnswer of the document, and SameAnswer of ideal; IdealBack: for every transaction, row of requests and number the law returns true, and its arguments read as they did. No condition -/
import Derived.Test.YtkdkncbccofpdaaQ20
import Derived.Test.YtkdkncbccofpdaaQ05
import Derived.ProofKit
import Derived.Deep.Slices
import Derived.Deep.Fields
import Derived.ChangeSame
import Derived.Lib.SmallJoins
namespace Go.Proofs.Ytkdkncbccofpdaa
theorem sub_ok {bs : List BdD} {l m : List RowD} (h : okL bs l = true) (hs : m.Sublist l) : okL bs m = true := by
 rw [okL_good] at h ⊢
 exact ⟨Nat.le_trans hs.length_le h.1, List.Pairwise.sublist hs h.2.1, fun r hr => h.2.2 r (hs.subset hr)⟩
theorem chk_sub {bs : List BdD} {l m : List RowD} (h : chkList bs l = 0) (hs : m.Sublist l) : chkList bs m = 0 := by
 have h1 := chkList_zero h
 exact chk_zero h1.1 (sub_ok h1.2 hs)
/-- rows beside which no error stands may be -/
def OkP (bs : List BdD) (p : Int × List RowD) : Prop := p.1 = 0 → chkList bs p.2 = 0
theorem put_okP (bs : List BdD) (l : List RowD) (r : RowD) : OkP bs (putE bs l r, putR bs l r) := fun h => by
 obtain ⟨T, D, o, h0⟩ := put0_of h
 show chkList bs (putR bs l r) = 0
 rw [h0.res]
 exact chk_zero h0.okS h0.okn
theorem take_okP (bs : List BdD) (l : List RowD) (k : KeyD) : OkP bs (takeE bs l k, takeL bs l k) := fun h => by
 have h : takeE bs l k = 0 := h
 show chkList bs (takeL bs l k) = 0
 have hc : chkList bs l = 0 := by
  unfold takeE at h
  split at h
  · assumption
  · exact h
 refine chk_sub hc ?_
 unfold takeL
 rw [if_pos h, ← List.eraseIdx_eq_take_drop_succ]
 exact List.eraseIdx_sublist _ _
theorem bec_okP (bs : List BdD) (l : List RowD) (k : KeyD) (er : RowD → Int) (nw : RowD → RowD) : OkP bs (becR bs l k er nw) := by
 unfold becR
 cases findK l k with
 | none => intro h; simp at h
 | some i =>
   simp only
   cases l[i]? with
   | none => intro h; simp at h
   | some d =>
     simp only
     split
     · exact put_okP _ _ _
     · rename_i hn
       intro h
       exact absurd h hn
theorem mov_okP (x : SerD) (k to : KeyD) (v : Int) : OkP x.bs (movP x k to v) := by
 unfold movP
 split
 · exact bec_okP _ _ _ _ _
 · exact bec_okP _ _ _ _ _
/-- which transactions may be, spelt out -/
theorem serB_iff {x : SerD} : serB x = true ↔ x.marks.length ≤ 8 ∧ (x.over = true → x.marks.length = 0) ∧ chkList x.bs x.rows = 0 ∧ chkList x.bs x.begun = 0 ∧ ∀ l ∈ x.marks, chkList x.bs l = 0 := by
 unfold serB allL
 simp only [Bool.and_eq_true, Bool.not_eq_true', decide_eq_true_eq, List.all_cons, List.all_eq_true, Bool.and_eq_false_iff, decide_eq_false_iff_not]
 constructor
 · rintro ⟨h1, h2, h3, h4, h5⟩
   refine ⟨h1, fun ho => ?_, h3, h4, h5⟩
   rcases h2 with h2 | h2
   · rw [ho] at h2; cases h2
   · omega
 · rintro ⟨h1, h2, h3, h4, h5⟩
   refine ⟨h1, ?_, h3, h4, h5⟩
   cases ho : x.over with
   | false => exact .inl rfl
   | true => exact .inr (by have := h2 ho; omega)
theorem lay_ser {x : SerD} {p : Int × List RowD} (h : serB x = true) (hp : OkP x.bs p) : serB (layW x p).1 = true := by
 unfold layW
 split
 · rename_i h0
   rw [serB_iff] at h ⊢
   exact ⟨h.1, h.2.1, hp h0, h.2.2.2.1, h.2.2.2.2⟩
 · exact h
/-- what comes of a transaction that may be may be -/
theorem step_ser {x : SerD} {q : ReqD} (h : serB x = true) : x.over = false → serB (stepW x q).1 = true := by
 intro ho
 have h0 := serB_iff.1 h
 unfold stepW
 split
 · unfold readW; cases findK x.rows q.key with
   | none => exact h
   | some i => simp only; cases x.rows[i]? <;> exact h
 split
 · exact h
 split
 · unfold insW
   split
   · split
     · exact h
     · exact lay_ser h (put_okP _ _ _)
   · exact h
 split
 · exact lay_ser h (take_okP _ _ _)
 split
 · exact lay_ser h (bec_okP _ _ _ _ _)
 split
 · unfold setW
   split
   · exact lay_ser h (bec_okP _ _ _ _ _)
   · exact h
 split
 · exact lay_ser h (bec_okP _ _ _ _ _)
 split
 · unfold movW
   split
   · exact lay_ser h (mov_okP _ _ _ _)
   · exact h
 split
 · unfold marW
   split
   · exact h
   · rename_i hn
     rw [serB_iff]
     refine ⟨by simp only [List.length_append, List.length_singleton]; omega, fun (hh : x.over = true) => absurd hh (by rw [ho]; simp), h0.2.2.1, h0.2.2.2.1, fun l hl => ?_⟩
     rcases List.mem_append.1 hl with hl | hl
     · exact h0.2.2.2.2 l hl
     · rw [List.mem_singleton.1 hl]; exact h0.2.2.1
 split
 · unfold bakW
   split
   · rename_i hk
     rw [serB_iff]
     refine ⟨by simp only [List.length_take]; omega, fun (hh : x.over = true) => absurd hh (by rw [ho]; simp), ?_, h0.2.2.2.1, fun l hl => h0.2.2.2.2 l (List.mem_of_mem_take hl)⟩
     rw [List.getElem?_eq_getElem hk]
     exact h0.2.2.2.2 _ (List.getElem_mem hk)
   · exact h
 split
 · unfold comW
   rw [serB_iff]
   exact ⟨Nat.zero_le _, fun _ => rfl, h0.2.2.1, h0.2.2.2.1, fun l hl => by cases hl⟩
 · unfold aboW
   rw [serB_iff]
   exact ⟨Nat.zero_le _, fun _ => rfl, h0.2.2.2.1, h0.2.2.2.1, fun l hl => by cases hl⟩
end Go.Proofs.Ytkdkncbccofpdaa
namespace Go.Proofs.Ytkdkncbccofpdaa
set_option maxRecDepth 100000
open Go.ChangeShapes Go.WideShapes Go.ChangeAt Go.RowKit Go.Deep Go.Joins
theorem own : ownKnob Try.prog.godebug = none := by kernel_rfl
theorem laidOut : laidOutB Try.prog = true := by kernel_rfl
theorem cellsInt : Try.prog.cellsOf 3 = 1 := by kernel_rfl
theorem cellsI64 : Try.prog.cellsOf 2 = 1 := by kernel_rfl
theorem cellsU16 : Try.prog.cellsOf 26 = 1 := by kernel_rfl
theorem cellsStr : Try.prog.cellsOf 9 = 1 := by kernel_rfl
theorem cellsKey : Try.prog.cellsOf 28 = 2 := by kernel_rfl
theorem cellsRow : Try.prog.cellsOf 68 = 4 := by kernel_rfl
theorem cellsBd : Try.prog.cellsOf 75 = 2 := by kernel_rfl
theorem cellsSch : Try.prog.cellsOf 24 = 1 := by kernel_rfl
theorem cellsBds : Try.prog.cellsOf 22 = 1 := by kernel_rfl
section
variable {H : Type} {enc : TypeId × Value → H} {P : Program}
theorem trodAll_below (hl : laidOutB P = true) {W W' : World} (hb : Below W.heap.size W W') : ∀ (ts : List TypeId) (vs : List Value) (ds : List (DataW H)) (ps : List MemPlace),
 (∀ t ∈ ts, P.readableRec t = true ∧ t < P.types.size) → DataW.TrodAll enc P W 0 (fun _ => true) true ts vs ds ps → (∀ x ∈ ps, x.block < W.heap.size) →
 DataW.TrodAll enc P W' 0 (fun b => decide (b < W.heap.size)) true ts vs ds ps
 | [], [], [], _, _, h, _ => h
 | t :: ts, v :: vs, d :: ds, ps, hr, h, hlt => by
   obtain ⟨p, q, h1, h2, rfl⟩ := h
   have ht := hr t (List.mem_cons_self ..)
   exact ⟨p, q, Below.trod hl ht.1 ht.2 h1 hb (fun x hx => hlt x (List.mem_append.2 (.inl hx))),
    trodAll_below hl hb ts vs ds q (fun t h => hr t (List.mem_cons_of_mem _ h)) h2 (fun x hx => hlt x (List.mem_append.2 (.inr hx))), rfl⟩
 | [], _ :: _, _, _, _, h, _ => by cases h
 | [], [], _ :: _, _, _, h, _ => by cases h
 | _ :: _, [], _, _, _, h, _ => by cases h
 | _ :: _, _ :: _, [], _, _, h, _ => by cases h
/-- THE LAST STEP OF A LAW: true came back, and below the heap's end nothing has turned. -/
theorem law_post {f : Func} {s : ChangeSpec} {W W' : World} {args : Array Value} {ds gs : List (DataW H)} {before : List MemPlace} {tb : TypeId}
 (hl : laidOutB P = true) (hts : ∀ t ∈ f.params.toList, P.readableRec t = true ∧ t < P.types.size) (hvars : s.vars = []) (hres : f.resultTypes = #[tb]) (hb4 : P.underlying tb = some .bool)
 (hW : DataW.Whole enc P f.params.toList s.vars false W args.toList ds gs before)
 (hfn : (s.fn H (ds ++ gs)).results = [.lit (.bool true)] ∧ (s.fn H (ds ++ gs)).args = ds ∧ (s.fn H (ds ++ gs)).vars = []) (hb : Below W.heap.size W W') :
 s.post enc P f false true false false W args (.bool true) W' := by
 have hlt : ∀ x ∈ before, x.block < W.heap.size := fun x hx => hW.lt x hx
 have hW' := hW
 obtain ⟨p, q, hA, hV, rfl, _, _⟩ := hW
 refine ⟨ds, gs, _, [], p, [], hW', ?_, ?_, ?_, hb.frame _, fun h => by cases h⟩
 · rw [hfn.1, hres]
   exact trodAll_mk1 (shut_bool hb4 true)
 · rw [hfn.2.1]
   exact trodAll_below hl hb _ _ _ _ hts hA (fun x hx => hlt x (List.mem_append.2 (.inl hx)))
 · rw [hfn.2.2, hvars]
   exact rfl
end
theorem i64_of_wf {x : Int} (h : (Lit.int .i64 x).wf = true) : I64 x := by
 have h1 : IntKind.i64.min = -9223372036854775808 := rfl
 have h2 : IntKind.i64.max = 9223372036854775807 := rfl
 simp only [Lit.wf, Bool.and_eq_true, decide_eq_true_eq] at h
 unfold I64; omega
theorem u16_of_wf {x : Int} (h : (Lit.int .u16 x).wf = true) : 0 ≤ x ∧ x < 65536 := by
 have h1 : IntKind.u16.min = 0 := rfl
 have h2 : IntKind.u16.max = 65535 := rfl
 simp only [Lit.wf, Bool.and_eq_true, decide_eq_true_eq] at h
 omega
section
variable {H : Type} {enc : TypeId × Value → H} {W : World}
theorem get_some {α : Type} {l : List α} {i : Nat} (h : i < l.length) : ∃ x, l[i]? = some x := ⟨_, List.getElem?_eq_getElem h⟩
theorem key_cells {fuel : Nat} {cs : List Value} {x : DataW H × List MemPlace} (h : DataW.trod enc Try.prog W 0 (fun _ => true) true fuel 28 cs = some x) : ∃ k : KeyD, cs = k.cells ∧ KeyOk k := by
 obtain ⟨xs, n, _, _, hlen, hxl, hg⟩ := DataW.trod_struct Try.underlying28 h
 rw [cellsKey] at hlen
 have hx2 : xs.length = 2 := hxl
 match cs, hlen with
 | [c0, c1], _ =>
   have g0 : DataW.trod enc Try.prog W 0 (fun _ => true) true n 3 (([c0, c1].drop 0).take (Try.prog.cellsOf 3)) = xs[0]? := hg 0 _ rfl
   have g1 : DataW.trod enc Try.prog W 0 (fun _ => true) true n 26 (([c0, c1].drop 1).take (Try.prog.cellsOf 26)) = xs[1]? := hg 1 _ rfl
   obtain ⟨y0, e0⟩ := get_some (l := xs) (i := 0) (by omega)
   obtain ⟨y1, e1⟩ := get_some (l := xs) (i := 1) (by omega)
   rw [e0, cellsInt] at g0
   rw [e1, cellsU16] at g1
   obtain ⟨a, ha, _, wa⟩ := DataW.trod_int Try.underlying3 g0
   obtain ⟨b, hb, _, wb⟩ := DataW.trod_int Try.underlying26 g1
   simp at ha hb
   subst ha hb
   exact ⟨⟨a, b⟩, rfl, i64_of_wf wa, u16_of_wf wb⟩
theorem row_cells {fuel : Nat} {cs : List Value} {x : DataW H × List MemPlace} (h : DataW.trod enc Try.prog W 0 (fun _ => true) true fuel 68 cs = some x) : ∃ r : RowD, cs = r.cells ∧ RowOk r := by
 obtain ⟨xs, n, _, _, hlen, hxl, hg⟩ := DataW.trod_struct Try.underlying68 h
 rw [cellsRow] at hlen
 have hx2 : xs.length = 3 := hxl
 match cs, hlen with
 | [c0, c1, c2, c3], _ =>
   have g0 : DataW.trod enc Try.prog W 0 (fun _ => true) true n 28 (([c0, c1, c2, c3].drop 0).take (Try.prog.cellsOf 28)) = xs[0]? := hg 0 _ rfl
   have g1 : DataW.trod enc Try.prog W 0 (fun _ => true) true n 2 (([c0, c1, c2, c3].drop 2).take (Try.prog.cellsOf 2)) = xs[1]? := hg 1 _ rfl
   have g2 : DataW.trod enc Try.prog W 0 (fun _ => true) true n 9 (([c0, c1, c2, c3].drop 3).take (Try.prog.cellsOf 9)) = xs[2]? := hg 2 _ rfl
   obtain ⟨y0, e0⟩ := get_some (l := xs) (i := 0) (by omega)
   obtain ⟨y1, e1⟩ := get_some (l := xs) (i := 1) (by omega)
   obtain ⟨y2, e2⟩ := get_some (l := xs) (i := 2) (by omega)
   rw [e0, cellsKey] at g0
   rw [e1, cellsI64] at g1
   rw [e2, cellsStr] at g2
   obtain ⟨⟨a, b⟩, hk, ok⟩ := key_cells g0
   obtain ⟨v, hv, _, wv⟩ := DataW.trod_int Try.underlying2 g1
   obtain ⟨s, hs, _, ws⟩ := DataW.trod_string Try.underlying9 g2
   simp [KeyD.cells] at hk hv hs
   obtain ⟨rfl, rfl⟩ := hk
   subst hv hs
   exact ⟨⟨⟨a, b⟩, v, s⟩, rfl, ok, i64_of_wf wv, ws⟩
theorem bd_cells {fuel : Nat} {cs : List Value} {x : DataW H × List MemPlace} (h : DataW.trod enc Try.prog W 0 (fun _ => true) true fuel 75 cs = some x) : ∃ b : BdD, cs = b.cells ∧ I64 b.lo ∧ I64 b.hi := by
 obtain ⟨xs, n, _, _, hlen, hxl, hg⟩ := DataW.trod_struct Try.underlying75 h
 rw [cellsBd] at hlen
 have hx2 : xs.length = 2 := hxl
 match cs, hlen with
 | [c0, c1], _ =>
   have g0 : DataW.trod enc Try.prog W 0 (fun _ => true) true n 2 (([c0, c1].drop 0).take (Try.prog.cellsOf 2)) = xs[0]? := hg 0 _ rfl
   have g1 : DataW.trod enc Try.prog W 0 (fun _ => true) true n 2 (([c0, c1].drop 1).take (Try.prog.cellsOf 2)) = xs[1]? := hg 1 _ rfl
   obtain ⟨y0, e0⟩ := get_some (l := xs) (i := 0) (by omega)
   obtain ⟨y1, e1⟩ := get_some (l := xs) (i := 1) (by omega)
   rw [e0, cellsI64] at g0
   rw [e1, cellsI64] at g1
   obtain ⟨a, ha, _, wa⟩ := DataW.trod_int Try.underlying2 g0
   obtain ⟨b, hb, _, wb⟩ := DataW.trod_int Try.underlying2 g1
   simp at ha hb
   subst ha hb
   exact ⟨⟨a, b⟩, rfl, i64_of_wf wa, i64_of_wf wb⟩
/-- what a slice of whole elements reads as -/
theorem elems_of {α : Type} {cells : α → List Value} {ok : α → Prop} {e sz n : Nat} {a : Addr} (hsz : Try.prog.cellsOf e = sz)
 (hd : ∀ (fuel : Nat) (cs : List Value) (x : DataW H × List MemPlace), DataW.trod enc Try.prog W 0 (fun _ => true) true fuel e cs = some x → ∃ y, cs = cells y ∧ ok y)
 (hi : ∀ i, i < n → ∃ fuel cs x, W.cells? 0 (a.add (i * sz)) sz = some cs ∧ DataW.trod enc Try.prog W 0 (fun _ => true) true fuel e cs = some x) :
 ∃ l : List α, l.length = n ∧ (∀ i y, l[i]? = some y → ok y ∧ ∀ j v, (cells y)[j]? = some v → W.cell? ((a.add (i * sz)).add j) = some v) := by
 have key : ∀ i, i < n → ∃ y : α, ok y ∧ ∀ j v, (cells y)[j]? = some v → W.cell? ((a.add (i * sz)).add j) = some v := fun i h => by
  obtain ⟨fuel, cs, x, hc, ht⟩ := hi i h
  obtain ⟨y, rfl, hok⟩ := hd fuel cs x ht
  obtain ⟨_, hlen, hat⟩ := World.cells?_some hc
  refine ⟨y, hok, fun j v hj => ?_⟩
  have hjl : j < sz := by have := (List.getElem?_eq_some_iff.1 hj).1; omega
  rw [hat j hjl, hj]
 subst hsz
 obtain ⟨L, hL⟩ : ∃ L : (i : Nat) → i < n → α, ∀ i h, ok (L i h) ∧ ∀ j v, (cells (L i h))[j]? = some v → W.cell? ((a.add (i * Try.prog.cellsOf e)).add j) = some v :=
  ⟨fun i h => Classical.choose (key i h), fun i h => Classical.choose_spec (key i h)⟩
 refine ⟨List.ofFn fun i : Fin n => L i.1 i.2, by simp, fun i y hy => ?_⟩
 obtain ⟨hl, hv⟩ := List.getElem?_eq_some_iff.1 hy
 simp at hl
 have : y = L i hl := by rw [← hv]; simp
 rw [this]
 exact hL i hl
theorem open_rows {a0 : Option Addr} {len cap : Nat} {d : DataW H} {p : List MemPlace} (h : DataW.Trod enc Try.prog W 0 (fun _ => true) true 25 (.slice a0 len cap) d p) : ∃ l, RowsOn W a0 len cap l := by
 obtain ⟨fuel, hf⟩ := h
 rcases open_slice Try.underlying25 hf with ⟨hc, _⟩ | ⟨a, len', cap', m, n, D, Pl, hcs, _, hl, hm, hmm, _, hi⟩
 · simp [Value.cells] at hc
   obtain ⟨rfl, rfl, rfl⟩ := hc
   exact ⟨[], RowsOn.none_ W⟩
 · simp [Value.cells] at hcs
   obtain ⟨rfl, rfl, rfl⟩ := hcs
   rw [cellsRow] at hi
   obtain ⟨l, h1, h2⟩ := elems_of (n := len) (cells := RowD.cells) (ok := RowOk) cellsRow (fun fuel cs x h => row_cells h) (fun i hin => by
    obtain ⟨cs, hc, ht⟩ := hi i (by rw [hmm]; split <;> omega)
    exact ⟨n, cs, _, hc, ht⟩)
   exact ⟨l, h1, hl, hm, (fun e => by cases e), fun i r hr => ⟨a, rfl, (h2 i r hr).2⟩, fun r hr => by obtain ⟨i, hi⟩ := List.mem_iff_getElem?.1 hr; exact (h2 i r hi).1⟩
end
end Go.Proofs.Ytkdkncbccofpdaa
namespace Go.Proofs.Ytkdkncbccofpdaa
set_option maxRecDepth 100000
open Go.ChangeShapes Go.WideShapes Go.ChangeAt Go.RowKit Go.Deep Go.Joins
theorem cellsReq : Try.prog.cellsOf 30 = 8 := by kernel_rfl
theorem cellsSer : Try.prog.cellsOf 46 = 5 := by kernel_rfl
theorem cellsRows : Try.prog.cellsOf 25 = 1 := by kernel_rfl
theorem cellsMks : Try.prog.cellsOf 44 = 1 := by kernel_rfl
theorem cellsBool : Try.prog.cellsOf 4 = 1 := by kernel_rfl
instance : Cel ReqD := ⟨ReqD.cells, 8, fun _ => rfl, fun q v hv => by
 simp only [ReqD.cells, List.mem_cons, List.not_mem_nil, or_false] at hv
 rcases hv with rfl | rfl | rfl | rfl | rfl | rfl | rfl | rfl <;> rfl, by decide⟩
section
variable {H : Type} {enc : TypeId × Value → H} {W : World}
theorem req_cells {fuel : Nat} {cs : List Value} {x : DataW H × List MemPlace} (h : DataW.trod enc Try.prog W 0 (fun _ => true) true fuel 30 cs = some x) : ∃ q : ReqD, cs = q.cells ∧ ReqOk q := by
 obtain ⟨xs, n, _, _, hlen, hxl, hg⟩ := DataW.trod_struct Try.underlying30 h
 rw [cellsReq] at hlen
 have hx2 : xs.length = 6 := hxl
 match cs, hlen with
 | [c0, c1, c2, c3, c4, c5, c6, c7], _ =>
   have g0 : DataW.trod enc Try.prog W 0 (fun _ => true) true n 3 (([c0, c1, c2, c3, c4, c5, c6, c7].drop 0).take (Try.prog.cellsOf 3)) = xs[0]? := hg 0 _ rfl
   have g1 : DataW.trod enc Try.prog W 0 (fun _ => true) true n 28 (([c0, c1, c2, c3, c4, c5, c6, c7].drop 1).take (Try.prog.cellsOf 28)) = xs[1]? := hg 1 _ rfl
   have g2 : DataW.trod enc Try.prog W 0 (fun _ => true) true n 28 (([c0, c1, c2, c3, c4, c5, c6, c7].drop 3).take (Try.prog.cellsOf 28)) = xs[2]? := hg 2 _ rfl
   have g3 : DataW.trod enc Try.prog W 0 (fun _ => true) true n 2 (([c0, c1, c2, c3, c4, c5, c6, c7].drop 5).take (Try.prog.cellsOf 2)) = xs[3]? := hg 3 _ rfl
   have g4 : DataW.trod enc Try.prog W 0 (fun _ => true) true n 9 (([c0, c1, c2, c3, c4, c5, c6, c7].drop 6).take (Try.prog.cellsOf 9)) = xs[4]? := hg 4 _ rfl
   have g5 : DataW.trod enc Try.prog W 0 (fun _ => true) true n 3 (([c0, c1, c2, c3, c4, c5, c6, c7].drop 7).take (Try.prog.cellsOf 3)) = xs[5]? := hg 5 _ rfl
   obtain ⟨y0, e0⟩ := get_some (l := xs) (i := 0) (by omega)
   obtain ⟨y1, e1⟩ := get_some (l := xs) (i := 1) (by omega)
   obtain ⟨y2, e2⟩ := get_some (l := xs) (i := 2) (by omega)
   obtain ⟨y3, e3⟩ := get_some (l := xs) (i := 3) (by omega)
   obtain ⟨y4, e4⟩ := get_some (l := xs) (i := 4) (by omega)
   obtain ⟨y5, e5⟩ := get_some (l := xs) (i := 5) (by omega)
   rw [e0, cellsInt] at g0
   rw [e1, cellsKey] at g1
   rw [e2, cellsKey] at g2
   rw [e3, cellsI64] at g3
   rw [e4, cellsStr] at g4
   rw [e5, cellsInt] at g5
   obtain ⟨k, hk, _, wk⟩ := DataW.trod_int Try.underlying3 g0
   obtain ⟨⟨a, b⟩, h1, ok1⟩ := key_cells g1
   obtain ⟨⟨c, d⟩, h2, ok2⟩ := key_cells g2
   obtain ⟨v, hv, _, wv⟩ := DataW.trod_int Try.underlying2 g3
   obtain ⟨s, hs, _, ws⟩ := DataW.trod_string Try.underlying9 g4
   obtain ⟨m, hm, _, wm⟩ := DataW.trod_int Try.underlying3 g5
   simp [KeyD.cells] at hk h1 h2 hv hs hm
   obtain ⟨rfl, rfl⟩ := h1
   obtain ⟨rfl, rfl⟩ := h2
   subst hk hv hs hm
   exact ⟨⟨k, ⟨a, b⟩, ⟨c, d⟩, v, s, m⟩, rfl, i64_of_wf wk, ok1, ok2, i64_of_wf wv, ws, i64_of_wf wm⟩
theorem open_bdsS {fuel : Nat} {cs : List Value} {x : DataW H × List MemPlace} (hf : DataW.trod enc Try.prog W 0 (fun _ => true) true fuel 22 cs = some x) : ∃ q n c, ∃ l : List BdD, cs = [.slice q n c] ∧ SlOn W q n c l ∧ ∀ b ∈ l, I64 b.lo ∧ I64 b.hi := by
 rcases open_slice Try.underlying22 hf with ⟨hc, _⟩ | ⟨a, len, cap, m, n, D, Pl, hcs, _, hl, hm, hmm, _, hi⟩
 · exact ⟨none, 0, 0, [], hc, SlOn.none_ W, fun b h => by cases h⟩
 · rw [cellsBd] at hi
   obtain ⟨l, h1, h2⟩ := elems_of (n := len) (cells := BdD.cells) (ok := fun b => I64 b.lo ∧ I64 b.hi) cellsBd (fun fuel cs x h => bd_cells h) (fun i hin => by
    obtain ⟨cs, hc, ht⟩ := hi i (by rw [hmm]; split <;> omega)
    exact ⟨n, cs, _, hc, ht⟩)
   exact ⟨some a, len, cap, l, hcs, ⟨h1, hl, hm, (fun e => by cases e), fun i r hr => ⟨a, rfl, (h2 i r hr).2⟩⟩, fun r hr => by obtain ⟨i, hi⟩ := List.mem_iff_getElem?.1 hr; exact (h2 i r hi).1⟩
theorem sch_cells {fuel : Nat} {cs : List Value} {x : DataW H × List MemPlace} (hf : DataW.trod enc Try.prog W 0 (fun _ => true) true fuel 24 cs = some x) : ∃ q n c, ∃ l : List BdD, cs = [.slice q n c] ∧ SlOn W q n c l ∧ ∀ b ∈ l, I64 b.lo ∧ I64 b.hi := by
 obtain ⟨xs, n, _, _, hlen, hxl, hg⟩ := DataW.trod_struct Try.underlying24 hf
 rw [cellsSch] at hlen
 have hx2 : xs.length = 1 := hxl
 match cs, hlen with
 | [c0], _ =>
   have g0 : DataW.trod enc Try.prog W 0 (fun _ => true) true n 22 (([c0].drop 0).take (Try.prog.cellsOf 22)) = xs[0]? := hg 0 _ rfl
   obtain ⟨y0, e0⟩ := get_some (l := xs) (i := 0) (by omega)
   rw [e0, cellsBds] at g0
   obtain ⟨q, m, c, bs, hcs, hs⟩ := open_bdsS g0
   simp at hcs
   subst hcs
   exact ⟨q, m, c, bs, rfl, hs⟩
theorem open_schS {r : Reach} {b0 : Nat} {v : Value} {d : DataW H} {p : List MemPlace} (hv : Value.okWide Try.prog W r b0 24 v) (h : DataW.Trod enc Try.prog W 0 (fun _ => true) true 24 v d p) : ∃ q n c, ∃ l : List BdD, v = .agg #[.slice q n c] ∧ SlOn W q n c l ∧ ∀ b ∈ l, I64 b.lo ∧ I64 b.hi := by
 obtain ⟨cs, rfl, hsz⟩ := okWide_struct Try.underlying24 hv
 obtain ⟨fuel, hf⟩ := h
 obtain ⟨l⟩ := cs
 obtain ⟨q, n, c, bs, hk, ok⟩ := sch_cells hf
 have e : l = [.slice q n c] := by simpa [Value.cells] using hk
 exact ⟨q, n, c, bs, by rw [e], ok⟩
theorem rows_cells {fuel : Nat} {cs : List Value} {x : DataW H × List MemPlace} (hf : DataW.trod enc Try.prog W 0 (fun _ => true) true fuel 25 cs = some x) : ∃ q n c l, cs = [.slice q n c] ∧ RowsOn W q n c l := by
 rcases open_slice Try.underlying25 hf with ⟨hc, _⟩ | ⟨a, len, cap, m, n, D, Pl, hcs, _, hl, hm, hmm, _, hi⟩
 · exact ⟨none, 0, 0, [], hc, RowsOn.none_ W⟩
 · rw [cellsRow] at hi
   obtain ⟨l, h1, h2⟩ := elems_of (n := len) (cells := RowD.cells) (ok := RowOk) cellsRow (fun fuel cs x h => row_cells h) (fun i hin => by
    obtain ⟨cs, hc, ht⟩ := hi i (by rw [hmm]; split <;> omega)
    exact ⟨n, cs, _, hc, ht⟩)
   exact ⟨some a, len, cap, l, hcs, h1, hl, hm, (fun e => by cases e), fun i r hr => ⟨a, rfl, (h2 i r hr).2⟩, fun r hr => by obtain ⟨i, hi⟩ := List.mem_iff_getElem?.1 hr; exact (h2 i r hi).1⟩
theorem mks_cells {fuel : Nat} {cs : List Value} {x : DataW H × List MemPlace} (hf : DataW.trod enc Try.prog W 0 (fun _ => true) true fuel 44 cs = some x) : ∃ q n c L, cs = [.slice q n c] ∧ MksOn W q n c L := by
 rcases open_slice Try.underlying44 hf with ⟨hc, _⟩ | ⟨a, len, cap, m, n, D, Pl, hcs, _, hl, hm, hmm, _, hi⟩
 · exact ⟨none, 0, 0, [], hc, MksOn.none_ W⟩
 · rw [cellsRows] at hi
   obtain ⟨l, h1, h2⟩ := elems_of (α := SlV × List RowD) (n := len) (cells := fun y => [.slice y.1.q y.1.n y.1.c]) (ok := fun y => RowsOn W y.1.q y.1.n y.1.c y.2) cellsRows (fun fuel cs x h => by
    obtain ⟨q, n, c, l, h1, h2⟩ := rows_cells h
    exact ⟨(⟨q, n, c⟩, l), h1, h2⟩) (fun i hin => by
    obtain ⟨cs, hc, ht⟩ := hi i (by rw [hmm]; split <;> omega)
    exact ⟨n, cs, _, hc, ht⟩)
   refine ⟨some a, len, cap, l.map (·.2), hcs, l.map (·.1), ⟨by rw [List.length_map, h1], hl, hm, (fun e => by cases e), fun i r hr => ⟨a, rfl, ?_⟩⟩, by rw [List.length_map, List.length_map], fun i v m hv hm => ?_⟩
   · rw [List.getElem?_map] at hr
     obtain ⟨y, hy, rfl⟩ := Option.map_eq_some_iff.1 hr
     exact (h2 i y hy).2
   · rw [List.getElem?_map] at hv hm
     obtain ⟨y, hy, rfl⟩ := Option.map_eq_some_iff.1 hv
     obtain ⟨z, hz, rfl⟩ := Option.map_eq_some_iff.1 hm
     rw [hy] at hz
     cases hz
     exact (h2 i y hy).1
theorem open_ser {r : Reach} {b0 : Nat} {v : Value} {d : DataW H} {p : List MemPlace} (hv : Value.okWide Try.prog W r b0 46 v) (h : DataW.Trod enc Try.prog W 0 (fun _ => true) true 46 v d p) : ∃ (u : SV) (x : SerD), v = .agg u.cells.toArray ∧ u.On W x := by
 obtain ⟨cs, rfl, hsz⟩ := okWide_struct Try.underlying46 hv
 obtain ⟨fuel, hf⟩ := h
 obtain ⟨xs, n, _, _, hlen, hxl, hg⟩ := DataW.trod_struct Try.underlying46 hf
 rw [cellsSer] at hsz
 have hx2 : xs.length = 5 := hxl
 obtain ⟨l⟩ := cs
 match l, hsz with
 | [c0, c1, c2, c3, c4], _ =>
   have g0 : DataW.trod enc Try.prog W 0 (fun _ => true) true n 24 (([c0, c1, c2, c3, c4].drop 0).take (Try.prog.cellsOf 24)) = xs[0]? := hg 0 _ rfl
   have g1 : DataW.trod enc Try.prog W 0 (fun _ => true) true n 25 (([c0, c1, c2, c3, c4].drop 1).take (Try.prog.cellsOf 25)) = xs[1]? := hg 1 _ rfl
   have g2 : DataW.trod enc Try.prog W 0 (fun _ => true) true n 25 (([c0, c1, c2, c3, c4].drop 2).take (Try.prog.cellsOf 25)) = xs[2]? := hg 2 _ rfl
   have g3 : DataW.trod enc Try.prog W 0 (fun _ => true) true n 44 (([c0, c1, c2, c3, c4].drop 3).take (Try.prog.cellsOf 44)) = xs[3]? := hg 3 _ rfl
   have g4 : DataW.trod enc Try.prog W 0 (fun _ => true) true n 4 (([c0, c1, c2, c3, c4].drop 4).take (Try.prog.cellsOf 4)) = xs[4]? := hg 4 _ rfl
   obtain ⟨y0, e0⟩ := get_some (l := xs) (i := 0) (by omega)
   obtain ⟨y1, e1⟩ := get_some (l := xs) (i := 1) (by omega)
   obtain ⟨y2, e2⟩ := get_some (l := xs) (i := 2) (by omega)
   obtain ⟨y3, e3⟩ := get_some (l := xs) (i := 3) (by omega)
   obtain ⟨y4, e4⟩ := get_some (l := xs) (i := 4) (by omega)
   rw [e0, cellsSch] at g0
   rw [e1, cellsRows] at g1
   rw [e2, cellsRows] at g2
   rw [e3, cellsMks] at g3
   rw [e4, cellsBool] at g4
   obtain ⟨tq, tn, tc, bs, h0, k0, k0'⟩ := sch_cells g0
   obtain ⟨rq, rn, rc, l1, h1, k1⟩ := rows_cells g1
   obtain ⟨bq, bn, bc, l2, h2, k2⟩ := rows_cells g2
   obtain ⟨mq, mn, mc, L, h3, k3⟩ := mks_cells g3
   obtain ⟨b, h4, _⟩ := DataW.trod_bool Try.underlying4 g4
   simp at h0 h1 h2 h3 h4
   subst h0 h1 h2 h3 h4
   exact ⟨⟨tq, tn, tc, rq, rn, rc, bq, bn, bc, mq, mn, mc, b⟩, ⟨bs, l1, l2, L, b⟩, rfl, k0, k0', k1, k2, k3, rfl⟩
end
end Go.Proofs.Ytkdkncbccofpdaa
namespace Go.Proofs.Ytkdkncbccofpdaa
open Go.RowKit
set_option maxRecDepth 100000
def ansB (e1 k1 : Int) (l : List RowD) (e2 k2 : Int) (m : List RowD) : Bool := (e1 == e2) && (sameL l m && (k1 == k2))
set_option maxHeartbeats 2000000 in
theorem ansR_any (e1 : Int) (q1 : Option Addr) (n1 c1 : Nat) (k1 : Int) (e2 : Int) (q2 : Option Addr) (n2 c2 : Nat) (k2 : Int) (l m : List RowD) (w : World) (h1 : RowsOn w q1 n1 c1 l) (h2 : RowsOn w q2 n2 c2 m) :
 Calls Try.prog 17 #[.agg #[.int .i64 e1, .slice q1 n1 c1, .int .i64 k1], .agg #[.int .i64 e2, .slice q2 n2 c2, .int .i64 k2]] w (RqPost (ansB e1 k1 l e2 k2 m) w) := by
 obtain ⟨W, hW⟩ : ∃ W, (w.alloc (.cells #[.int .i64 e1, .slice q1 n1 c1, .int .i64 k1] 35)).alloc (.cells #[.int .i64 e2, .slice q2 n2 c2, .int .i64 k2] 35) = W := ⟨_, rfl⟩
 have hbx := Lib.hid (two_rowsI (xs := [.int .i64 e1, .slice q1 n1 c1, .int .i64 k1]) (ys := [.int .i64 e2, .slice q2 n2 c2, .int .i64 k2]) hW)
 have b0 := Lib.hid hbx.out.1
 have s0 := Lib.hid hbx.out.2.1
 have r0 := Lib.hid hbx.out.2.2.1
 have h10 := Lib.hid (h1.below b0.out (Nat.le_refl _))
 have h20 := Lib.hid (h2.below b0.out (Nat.le_refl _))
 clear h1 h2 hbx
 obtain ⟨E, hE⟩ : ∃ E, (e1 == e2) = E := ⟨_, rfl⟩
 obtain ⟨K, hK⟩ : ∃ K, (k1 == k2) = K := ⟨_, rfl⟩
 obtain ⟨C, hC⟩ : ∃ C, sameL l m = C := ⟨_, rfl⟩
 have hr : Hid (ansB e1 k1 l e2 k2 m = (E && (C && K))) := by show _ = _; unfold ansB; rw [hE, hK, hC]
 have hc : Hid (∀ u, Below W.heap.size W u → Calls Try.prog 13 #[.slice q1 n1 c1, .slice q2 n2 c2] u (RqPost C u)) := fun u hu => by
  rw [← hC]
  exact refSame_any q1 n1 c1 l q2 n2 c2 m u (h10.out.below hu (Nat.le_refl _)) (h20.out.below hu (Nat.le_refl _))
 have y0 : W.cell? ⟨w.heap.size, 0, none⟩ = some (.int .i64 e1) := s0.out.cell 0
 have y1 : W.cell? ⟨w.heap.size, 1, none⟩ = some (.slice q1 n1 c1) := s0.out.cell 1
 have y2 : W.cell? ⟨w.heap.size, 2, none⟩ = some (.int .i64 k1) := s0.out.cell 2
 have z0 : W.cell? ⟨w.heap.size + 1, 0, none⟩ = some (.int .i64 e2) := r0.out.cell 0
 have z1 : W.cell? ⟨w.heap.size + 1, 1, none⟩ = some (.slice q2 n2 c2) := r0.out.cell 1
 have z2 : W.cell? ⟨w.heap.size + 1, 2, none⟩ = some (.int .i64 k2) := r0.out.cell 2
 clear hC
 cases E with
 | false =>
   go_enter Try.func17, Try.ntmps17
   go_wp2
   go_ret
   exact ⟨by rw [hr.out]; rfl, b0.out⟩
 | true =>
   cases K with
   | false =>
     go_enter Try.func17, Try.ntmps17
     go_wp2
     go_ret
     exact ⟨by rw [hr.out]; cases C <;> rfl, b0.out⟩
   | true =>
     go_enter Try.func17, Try.ntmps17
     go_wp2_with fail
     refine (hc.out _ (Below.refl _ _)).mono ?_
     rintro e u1 ⟨rfl, hb⟩
     have b1 := Lib.hid (b0.out.trans (hb.mono b0.out.size))
     have s1 := Lib.hid (s0.out.below hb)
     have r1 := Lib.hid (r0.out.below hb)
     clear hb s0 r0 b0 hc h10 h20 y0 y1 y2 z0 z1 z2 hW
     have y2 : u1.cell? ⟨w.heap.size, 2, none⟩ = some (.int .i64 k1) := s1.out.cell 2
     have z2 : u1.cell? ⟨w.heap.size + 1, 2, none⟩ = some (.int .i64 k2) := r1.out.cell 2
     cases C with
     | false =>
       go_wp2
       go_ret
       exact ⟨by rw [hr.out]; rfl, b1.out⟩
     | true =>
       go_wp2
       go_ret
       exact ⟨by rw [hr.out]; rfl, b1.out⟩
set_option maxHeartbeats 4000000 in
theorem refSer_any (tq : Option Addr) (tn tc : Nat) (rq : Option Addr) (rn rc : Nat) (bq : Option Addr) (bn bc : Nat) (mq : Option Addr) (mn mc : Nat) (o : Bool) (ptq : Option Addr) (ptn ptc : Nat) (prq : Option Addr) (prn prc : Nat) (pbq : Option Addr) (pbn pbc : Nat) (pmq : Option Addr) (pmn pmc : Nat) (po : Bool) (x y : SerD) (w : World) (hx : (⟨tq, tn, tc, rq, rn, rc, bq, bn, bc, mq, mn, mc, o⟩ : SV).On w x) (hy : (⟨ptq, ptn, ptc, prq, prn, prc, pbq, pbn, pbc, pmq, pmn, pmc, po⟩ : SV).On w y) :
 Calls Try.prog 23 #[.agg #[.slice tq tn tc, .slice rq rn rc, .slice bq bn bc, .slice mq mn mc, .bool o], .agg #[.slice ptq ptn ptc, .slice prq prn prc, .slice pbq pbn pbc, .slice pmq pmn pmc, .bool po]] w (RqPost (serSame x y) w) := by
 obtain ⟨W, hW⟩ : ∃ W, (w.alloc (.cells #[.slice tq tn tc, .slice rq rn rc, .slice bq bn bc, .slice mq mn mc, .bool o] 46)).alloc (.cells #[.slice ptq ptn ptc, .slice prq prn prc, .slice pbq pbn pbc, .slice pmq pmn pmc, .bool po] 46) = W := ⟨_, rfl⟩
 have hbx := Lib.hid (two_rowsI (xs := [.slice tq tn tc, .slice rq rn rc, .slice bq bn bc, .slice mq mn mc, .bool o]) (ys := [.slice ptq ptn ptc, .slice prq prn prc, .slice pbq pbn pbc, .slice pmq pmn pmc, .bool po]) hW)
 have b0 := Lib.hid hbx.out.1
 have s0 := Lib.hid hbx.out.2.1
 have r0 := Lib.hid hbx.out.2.2.1
 have y0 : W.cell? ⟨w.heap.size, 0, none⟩ = some (.slice tq tn tc) := s0.out.cell 0
 have y1 : W.cell? ⟨w.heap.size + 1, 0, none⟩ = some (.slice ptq ptn ptc) := r0.out.cell 0
 have y2 : W.cell? ⟨w.heap.size, 3, none⟩ = some (.slice mq mn mc) := s0.out.cell 3
 have y3 : W.cell? ⟨w.heap.size + 1, 3, none⟩ = some (.slice pmq pmn pmc) := r0.out.cell 3
 have y4 : W.cell? ⟨w.heap.size, 4, none⟩ = some (.bool o) := s0.out.cell 4
 have y5 : W.cell? ⟨w.heap.size + 1, 4, none⟩ = some (.bool po) := r0.out.cell 4
 have lt1 : Hid (x.bs.length = tn) := hx.sch.len
 have lt2 : Hid (y.bs.length = ptn) := hy.sch.len
 have lm1 : Hid (x.marks.length = mn) := hx.marks.len
 have lm2 : Hid (y.marks.length = pmn) := hy.marks.len
 have ktn := Nat.le_trans hx.sch.le hx.sch.cap
 have km : mn ≤ maxLen := by obtain ⟨vs, h, _, _⟩ := hx.marks; exact Nat.le_trans h.le h.cap
 unfold maxLen at ktn km
 have ho1 : Hid (o = x.over) := hx.over
 have ho2 : Hid (po = y.over) := hy.over
 have hx0 := Lib.hid (hx.below b0.out (Nat.le_refl _))
 have hy0 := Lib.hid (hy.below b0.out (Nat.le_refl _))
 clear hx hy hbx
 by_cases ht : tn = ptn
 case neg =>
  have d : ((tn : Int) != ptn) = true := by simp; omega
  have hf : Hid (serSame x y = false) := by show _ = _; unfold serSame; rw [sameG_ne eqBd (by rw [lt1.out, lt2.out]; exact ht)]; rfl
  clear ht
  go_enter Try.func23, Try.ntmps23
  go_wp2
  go_ret
  exact ⟨by rw [hf.out]; rfl, b0.out⟩
 subst ht
 by_cases hm : mn = pmn
 case neg =>
  have d : ((mn : Int) != pmn) = true := by simp; omega
  have hf : Hid (serSame x y = false) := by show _ = _; unfold serSame; rw [sameG_ne sameL (by rw [lm1.out, lm2.out]; exact hm)]; simp
  clear hm
  go_enter Try.func23, Try.ntmps23
  go_wp2
  go_ret
  exact ⟨by rw [hf.out]; rfl, b0.out⟩
 subst hm
 by_cases hoo : o = po
 case neg =>
  have hf : Hid (serSame x y = false) := by
   show _ = _; unfold serSame; rw [← ho1.out, ← ho2.out]
   rw [show (o == po) = false by cases o <;> cases po <;> simp at hoo ⊢]; simp
  have d : (o != po) = true := by cases o <;> cases po <;> simp at hoo ⊢
  clear hoo
  go_enter Try.func23, Try.ntmps23
  cases o <;> cases po <;> first | (exact absurd d (by decide)) | (go_wp2; go_ret; exact ⟨by rw [hf.out]; rfl, b0.out⟩)
 subst hoo
 have ho : Hid (serSame x y = (sameG eqBd x.bs y.bs && (sameL x.rows y.rows && (sameL x.begun y.begun && (sameG sameL x.marks y.marks))))) := by show _ = _; unfold serSame; rw [← ho1.out, ← ho2.out]; simp
 have hT : Hid ((∀ i a b, i < tn → x.bs[i]? = some a → y.bs[i]? = some b → eqBd a b = true) → sameG eqBd x.bs y.bs = true) := fun h => sameG_of eqBd lt1.out lt2.out h
 have hF : Hid (∀ i a b, x.bs[i]? = some a → y.bs[i]? = some b → eqBd a b = false → sameG eqBd x.bs y.bs = false) := fun i a b ha hb h => sameG_at eqBd ha hb h
 have hTm : Hid ((∀ i a b, i < mn → x.marks[i]? = some a → y.marks[i]? = some b → sameL a b = true) → sameG sameL x.marks y.marks = true) := fun h => sameG_of sameL lm1.out lm2.out h
 have hFm : Hid (∀ i a b, x.marks[i]? = some a → y.marks[i]? = some b → sameL a b = false → sameG sameL x.marks y.marks = false) := fun i a b ha hb h => sameG_at sameL ha hb h
 obtain ⟨E1, hE1⟩ : ∃ E, sameG eqBd x.bs y.bs = E := ⟨_, rfl⟩
 obtain ⟨E2, hE2⟩ : ∃ E, sameG sameL x.marks y.marks = E := ⟨_, rfl⟩
 rw [hE1] at hT hF ho
 rw [hE2] at hTm hFm ho
 clear hE1 hE2 ho1 ho2
 obtain ⟨E, hE⟩ : ∃ E, serSame x y = E := ⟨_, rfl⟩
 rw [hE] at ho ⊢
 clear hE
 have oo : (o != o) = false := by cases o <;> rfl
 go_enter Try.func23, Try.ntmps23
 cases o <;> go_wp2
 all_goals
  clear hW y0 y1 y2 y3 y4 y5 oo
  go_loopw [5] (fun v5 wr => ∃ k : Nat, k ≤ tn ∧ v5 = .int .i64 k ∧ Hid (Below W.heap.size W wr) ∧ Hid (∀ i a b, i < k → x.bs[i]? = some a → y.bs[i]? = some b → eqBd a b = true)) (fun v5 _ => tn - (Go.RowKit.intOf v5).toNat)
  case atStart => exact ⟨0, Nat.zero_le _, rfl, (show Below _ _ _ from Below.refl _ _), fun i a b hi => by omega⟩
  case round =>
   obtain ⟨k, hk, rfl, hb, hp⟩ := hrel
   have y0 : wr.cell? ⟨w.heap.size, 0, none⟩ = some (.slice tq tn tc) := (s0.out.below hb.out).cell 0
   have y1 : wr.cell? ⟨w.heap.size + 1, 0, none⟩ = some (.slice ptq tn ptc) := (r0.out.below hb.out).cell 0
   by_cases hlt : k < tn
   · obtain ⟨A, ⟨at_, ai⟩, hqA, hx, hcA⟩ := (hx0.out.sch.below hb.out (Nat.le_refl _)).at hlt
     obtain ⟨B, ⟨bt, bi⟩, hqB, hy, hcB⟩ := (hy0.out.sch.below hb.out (Nat.le_refl _)).at hlt
     have hqA : tq = some A := hqA
     have hqB : ptq = some B := hqB
     subst hqA
     subst hqB
     have p0 : wr.cell? (A.add (k * 2)) = some (.int .i64 at_) := by have h := hcA 0 _ rfl; rwa [add0] at h
     have p1 : wr.cell? ⟨(A.add (k * 2)).block, (A.add (k * 2)).off + 1, none⟩ = some (.int .i64 ai) := hcA 1 _ rfl
     have q0 : wr.cell? (B.add (k * 2)) = some (.int .i64 bt) := by have h := hcB 0 _ rfl; rwa [add0] at h
     have q1 : wr.cell? ⟨(B.add (k * 2)).block, (B.add (k * 2)).off + 1, none⟩ = some (.int .i64 bi) := hcB 1 _ rfl
     have hx' := Lib.hid hx
     have hy' := Lib.hid hy
     have i0 : (0 : Int) ≤ k := by omega
     have i1 : (k : Int) < tn := by omega
     clear hx hy hcA hcB
     have hne := fun u => neq_bd u at_ ai bt bi
     obtain ⟨b, hbv⟩ : ∃ b, eqBd ⟨at_, ai⟩ ⟨bt, bi⟩ = b := ⟨_, rfl⟩
     rw [hbv] at hne
     have hbv' := Lib.hid hbv
     clear hbv
     cases b with
     | true =>
       go_wp2
       go_quiet (fail)
       clear hne p0 p1 q0 q1 y0 y1
       go_wp2
       go_roundw
       case rel =>
        refine ⟨k + 1, by omega, by go_num, (show Below _ _ _ from hb.out.trans ((below_drewN _ _).mono hb.out.size)), fun i a b hi ha hb2 => ?_⟩
        rcases Nat.lt_or_ge i k with h | h
        · exact hp.out i a b h ha hb2
        · obtain rfl : i = k := by omega
          rw [hx'.out] at ha; rw [hy'.out] at hb2
          cases ha; cases hb2
          exact hbv'.out
       case measure => simp [Go.RowKit.intOf]; omega
     | false =>
       have hf : Hid (E = false) := by show _ = _; rw [ho.out, hF.out k _ _ hx'.out hy'.out hbv'.out]; rfl
       go_wp2
       go_quiet (fail)
       clear hne p0 p1 q0 q1 y0 y1
       go_wp2
       go_ret
       exact ⟨by rw [hf.out]; rfl, b0.out.trans ((hb.out.trans ((below_drewN _ _).mono hb.out.size)).mono b0.out.size)⟩
   · obtain rfl : k = tn := by omega
     have e1 : Hid (E1 = true) := hT.out hp.out
     go_wp2
     clear y0 y1 hT hF hp
     have hb1 := hb
     clear hb
     go_loopw [6] (fun v6 wr => ∃ j : Nat, j ≤ mn ∧ v6 = .int .i64 j ∧ Hid (Below W.heap.size W wr) ∧ Hid (∀ i a b, i < j → x.marks[i]? = some a → y.marks[i]? = some b → sameL a b = true)) (fun v6 _ => mn - (Go.RowKit.intOf v6).toNat)
     case atStart => exact ⟨0, Nat.zero_le _, rfl, hb1, fun i a b hi => by omega⟩
     case round =>
      clear hb1
      obtain ⟨j, hj, rfl, hb, hp⟩ := hrel
      have y0 : wr.cell? ⟨w.heap.size, 3, none⟩ = some (.slice mq mn mc) := (s0.out.below hb.out).cell 3
      have y1 : wr.cell? ⟨w.heap.size + 1, 3, none⟩ = some (.slice pmq mn pmc) := (r0.out.below hb.out).cell 3
      by_cases hlt : j < mn
      · obtain ⟨vs, hv1, hv2, hv3⟩ := hx0.out.marks.below hb.out (Nat.le_refl _)
        obtain ⟨us, hu1, hu2, hu3⟩ := hy0.out.marks.below hb.out (Nat.le_refl _)
        obtain ⟨A, ⟨aq, an, ac⟩, hqA, hxv, hcA⟩ := hv1.at hlt
        obtain ⟨B, ⟨bq', bn', bc'⟩, hqB, hyv, hcB⟩ := hu1.at hlt
        have hqA : mq = some A := hqA
        have hqB : pmq = some B := hqB
        subst hqA
        subst hqB
        obtain ⟨a, ha⟩ : ∃ a, x.marks[j]? = some a := ⟨_, List.getElem?_eq_getElem (by have := lm1.out; omega)⟩
        obtain ⟨b, hb2⟩ : ∃ b, y.marks[j]? = some b := ⟨_, List.getElem?_eq_getElem (by have := lm2.out; omega)⟩
        have ra := Lib.hid (hv3 _ _ a hxv ha)
        have rb := Lib.hid (hu3 _ _ b hyv hb2)
        have p0 : wr.cell? (A.add j) = some (.slice aq an ac) := by have h := hcA 0 _ rfl; rw [add0, show Cel.sz SlV = 1 from rfl, Nat.mul_one] at h; exact h
        have q0 : wr.cell? (B.add j) = some (.slice bq' bn' bc') := by have h := hcB 0 _ rfl; rw [add0, show Cel.sz SlV = 1 from rfl, Nat.mul_one] at h; exact h
        have ha' := Lib.hid ha
        have hb' := Lib.hid hb2
        have i0 : (0 : Int) ≤ j := by omega
        have i1 : (j : Int) < mn := by omega
        obtain ⟨C, hC⟩ : ∃ C, sameL a b = C := ⟨_, rfl⟩
        have hcs : Hid (∀ u, Below wr.heap.size wr u → Calls Try.prog 13 #[.slice aq an ac, .slice bq' bn' bc'] u (RqPost C u)) := fun u hu => by
         rw [← hC]
         exact refSame_any aq an ac a bq' bn' bc' b u (ra.out.below hu (Nat.le_refl _)) (rb.out.below hu (Nat.le_refl _))
        have hC' := Lib.hid hC
        clear hv1 hv2 hv3 hu1 hu2 hu3 hcA hcB hxv hyv ha hb2 hC ra rb
        go_wp2
        go_region_held3 (fun u => u.cell? ⟨w.heap.size, 3, none⟩ = some (.slice (some A) mn mc) ∧ u.cell? ⟨w.heap.size + 1, 3, none⟩ = some (.slice (some B) mn pmc) ∧ u.cell? (A.add j) = some (.slice aq an ac) ∧ u.cell? (B.add j) = some (.slice bq' bn' bc') ∧ Below wr.heap.size wr u)
         (first | exact ⟨y0, y1, p0, q0, below_drew _⟩ | (go_split_ands; exact ⟨cell_keeps hq0.out (Nat.le_refl _) (by assumption), cell_keeps hq0.out (Nat.le_refl _) (by assumption), cell_keeps hq0.out (Nat.le_refl _) (by assumption), cell_keeps hq0.out (Nat.le_refl _) (by assumption), below_step hq0.out (by assumption)⟩) | go_keep)
         (first | (go_at_call 13; refine (hcs.out _ (by go_split_ands; first | assumption | exact below_drew _)).mono ?_; rintro e z0 ⟨rfl, hb⟩; have hq0 := Lib.hid hb; clear hb))
        have hv : Hid (Below wr.heap.size wr z0) := by
         show Below _ _ _
         go_split_ands
         assumption
        clear y0 y1 p0 q0
        have b9 := Lib.hid (hb.out.trans (hv.out.mono hb.out.size))
        cases C with
        | true =>
          go_wp2
          go_roundw
          case rel =>
           refine ⟨j + 1, by omega, by go_num, b9, fun i a b hi ha hb2 => ?_⟩
           rcases Nat.lt_or_ge i j with h | h
           · exact hp.out i a b h ha hb2
           · obtain rfl : i = j := by omega
             rw [ha'.out] at ha; rw [hb'.out] at hb2
             cases ha; cases hb2
             exact hC'.out
          case measure => simp [Go.RowKit.intOf]; omega
        | false =>
          have hf : Hid (E = false) := by show _ = _; rw [ho.out, hFm.out j _ _ ha'.out hb'.out hC'.out]; simp
          go_wp2
          go_ret
          exact ⟨by rw [hf.out]; rfl, b0.out.trans (b9.out.mono b0.out.size)⟩
      · obtain rfl : j = mn := by omega
        have e2 : Hid (E2 = true) := hTm.out hp.out
        have b3 := Lib.hid (b0.out.trans (hb.out.mono b0.out.size))
        have s3 := Lib.hid (s0.out.below hb.out)
        have r3 := Lib.hid (r0.out.below hb.out)
        have hx3 := Lib.hid (hx0.out.below hb.out (Nat.le_refl _))
        have hy3 := Lib.hid (hy0.out.below hb.out (Nat.le_refl _))
        have y2 : wr.cell? ⟨w.heap.size, 1, none⟩ = some (.slice rq rn rc) := s3.out.cell 1
        have y3 : wr.cell? ⟨w.heap.size + 1, 1, none⟩ = some (.slice prq prn prc) := r3.out.cell 1
        clear hp hTm hFm hb s0 r0 hx0 hy0 b0 lt1 lt2 lm1 lm2
        go_wp2_with fail
        clear y0 y1 y2 y3
        refine (refSame_any rq rn rc x.rows prq prn prc y.rows wr hx3.out.rows hy3.out.rows).mono ?_
        rintro e u4 ⟨rfl, hb⟩
        have s4 := Lib.hid (s3.out.below hb)
        have r4 := Lib.hid (r3.out.below hb)
        have hx4 := Lib.hid (hx3.out.below hb (Nat.le_refl _))
        have hy4 := Lib.hid (hy3.out.below hb (Nat.le_refl _))
        have b4 := Lib.hid (b3.out.trans (hb.mono b3.out.size))
        clear hb s3 r3 hx3 hy3 b3
        obtain ⟨C, hC⟩ : ∃ C, sameL x.rows y.rows = C := ⟨_, rfl⟩
        rw [hC]
        rw [hC] at ho
        clear hC
        cases C with
        | false =>
          have hf : Hid (E = false) := by show _ = _; rw [ho.out, e1.out]; rfl
          go_wp2
          go_ret
          exact ⟨by rw [hf.out]; rfl, b4.out⟩
        | true =>
          have y0 : u4.cell? ⟨w.heap.size, 2, none⟩ = some (.slice bq bn bc) := s4.out.cell 2
          have y1 : u4.cell? ⟨w.heap.size + 1, 2, none⟩ = some (.slice pbq pbn pbc) := r4.out.cell 2
          go_wp2_with fail
          clear y0 y1
          refine (refSame_any bq bn bc x.begun pbq pbn pbc y.begun u4 hx4.out.begun hy4.out.begun).mono ?_
          rintro e u5 ⟨rfl, hb⟩
          have b5 := Lib.hid (b4.out.trans (hb.mono b4.out.size))
          clear hb
          have hf : Hid (E = sameL x.begun y.begun) := by show _ = _; rw [ho.out, e1.out, e2.out]; simp
          go_wp2
          go_ret
          exact ⟨by rw [hf.out]; rfl, b5.out⟩
end Go.Proofs.Ytkdkncbccofpdaa
namespace Go.Proofs.Ytkdkncbccofpdaa
open Go.ChangeShapes Go.WideShapes Go.ChangeAt Go.RowKit Go.Deep Go.Joins
set_option maxRecDepth 100000
theorem stp_of {x : SerD} {q : ReqD} (h : serB x = true) (ho : x.over = false) (hr : reqB x.bs q = true) : stpM x q = stepW x q := by
 unfold stpM
 rw [if_neg (by rw [h]; simp), if_neg (by rw [ho]; simp), if_neg (by rw [hr]; simp)]
def LwPost (w : World) (e : Ending) (w' : World) : Prop := e = .returned (.bool true) ∧ Below w.heap.size w w'
end Go.Proofs.Ytkdkncbccofpdaa
