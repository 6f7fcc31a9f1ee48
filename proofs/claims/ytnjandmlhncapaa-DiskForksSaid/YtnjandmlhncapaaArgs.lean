/- The laws' arguments, opened to their cells: operations, lists of them, lists of bools and of numbers; and the last step of every law's proof. -/
import Derived.Test.YtnjandmlhncapaaDiskC
import Derived.ProofKit
import Derived.Deep.Slices
import Derived.Deep.Fields
import Derived.Deep.Grids
import Derived.ChangeSame
import Derived.Lib.SmallJoins
namespace Go.Proofs.Ytnjandmlhncapaa
open Go.ChangeShapes Go.WideShapes Go.ChangeAt Go.RowKit Go.Deep Go.Joins

theorem own : ownKnob Try.prog.godebug = none := by kernel_rfl
theorem laidOut : laidOutB Try.prog = true := by kernel_rfl
theorem cellsInt : Try.prog.cellsOf 3 = 1 := by kernel_rfl
theorem cellsBool : Try.prog.cellsOf 4 = 1 := by kernel_rfl
theorem cellsOp : Try.prog.cellsOf 35 = 5 := by kernel_rfl

section
variable {H : Type} {enc : TypeId × Value → H} {P : Program}

theorem trodAll_below (hl : laidOutB P = true) {W W' : World} (hb : Below W.heap.size W W') : ∀ (ts : List TypeId) (vs : List Value) (ds : List (DataW H)) (ps : List MemPlace),
    (∀ t ∈ ts, P.readableRec t = true ∧ t < P.types.size) → DataW.TrodAll enc P W 0 (fun _ => true) true ts vs ds ps → (∀ x ∈ ps, x.block < W.heap.size) →
    DataW.TrodAll enc P W' 0 (fun b => decide (b < W.heap.size)) true ts vs ds ps
  | [], [], [], _, _, h, _ => h
  | t :: ts, v :: vs, d :: ds, ps, hr, h, hlt => by
    obtain ⟨p, q, h1, h2, rfl⟩ := h
    have ht := hr t (List.mem_cons_self ..)
    exact ⟨p, q, Below.trod hl ht.1 ht.2 h1 hb (fun x hx => hlt x (List.mem_append.2 (.inl hx))),
      trodAll_below hl hb ts vs ds q (fun t h => hr t (List.mem_cons_of_mem _ h)) h2 (fun x hx => hlt x (List.mem_append.2 (.inr hx))), rfl⟩
  | [], _ :: _, _, _, _, h, _ => by cases h
  | [], [], _ :: _, _, _, h, _ => by cases h
  | _ :: _, [], _, _, _, h, _ => by cases h
  | _ :: _, _ :: _, [], _, _, h, _ => by cases h

/-- THE LAST STEP OF A LAW: true came back, and below the heap's end nothing has turned. -/
theorem law_post {f : Func} {s : ChangeSpec} {W W' : World} {args : Array Value} {ds gs : List (DataW H)} {before : List MemPlace} {tb : TypeId}
    (hl : laidOutB P = true) (hts : ∀ t ∈ f.params.toList, P.readableRec t = true ∧ t < P.types.size) (hvars : s.vars = []) (hres : f.resultTypes = #[tb]) (hb4 : P.underlying tb = some .bool)
    (hW : DataW.Whole enc P f.params.toList s.vars false W args.toList ds gs before)
    (hfn : (s.fn H (ds ++ gs)).results = [.lit (.bool true)] ∧ (s.fn H (ds ++ gs)).args = ds ∧ (s.fn H (ds ++ gs)).vars = []) (hb : Below W.heap.size W W') :
    s.post enc P f false true false false W args (.bool true) W' := by
  have hlt : ∀ x ∈ before, x.block < W.heap.size := fun x hx => hW.lt x hx
  have hW' := hW
  obtain ⟨p, q, hA, hV, rfl, _, _⟩ := hW
  refine ⟨ds, gs, _, [], p, [], hW', ?_, ?_, ?_, hb.frame _, fun h => by cases h⟩
  · rw [hfn.1, hres]
    exact trodAll_mk1 (shut_bool hb4 true)
  · rw [hfn.2.1]
    exact trodAll_below hl hb _ _ _ _ hts hA (fun x hx => hlt x (List.mem_append.2 (.inl hx)))
  · rw [hfn.2.2, hvars]
    exact rfl
end

/-- a list of bools -/
def KeepV (w : World) (v : Value) (ks : List Bool) : Prop :=
  ∃ q c, v = .slice q ks.length c ∧ ks.length ≤ c ∧ c ≤ maxLen ∧ (q = none → ks = [] ∧ c = 0) ∧ ∀ a, q = some a → ∀ j x, ks[j]? = some x → w.cell? (a.add j) = some (.bool x)

structure OpV where
  kind : Int
  pos : Int
  num : Int
  byte : Int
  ks : List Bool
  kv : Value
def OpV.cells (o : OpV) : List Value := [.int .i64 o.kind, .int .i64 o.pos, .int .i64 o.num, .int .u8 o.byte, o.kv]

def I64 (x : Int) : Prop := -9223372036854775808 ≤ x ∧ x < 9223372036854775808
structure IsOp (w : World) (o : OpV) : Prop where
  kind : I64 o.kind
  pos : I64 o.pos
  num : I64 o.num
  byte : 0 ≤ o.byte ∧ o.byte < 256
  keep : KeepV w o.kv o.ks

/-- a list of operations -/
structure IsOps (w : World) (v : Value) (os : List OpV) : Prop where
  shape : ∃ q c, v = .slice q os.length c ∧ (q = none → os = []) ∧ ∀ a, q = some a → ∀ i o, os[i]? = some o → ∀ j x, o.cells[j]? = some x → w.cell? (a.add (i * 5 + j)) = some x
  each : ∀ o ∈ os, IsOp w o
  len : os.length ≤ maxLen

/-- a list of numbers -/
def IsInts (w : World) (v : Value) (zs : List Int) : Prop :=
  ∃ q c, v = .slice q zs.length c ∧ (q = none → zs = []) ∧ zs.length ≤ maxLen ∧ (∀ z ∈ zs, I64 z) ∧ ∀ a, q = some a → ∀ j x, zs[j]? = some x → w.cell? (a.add j) = some (.int .i64 x)

theorem cell_keeps {B : Nat} {w w' : World} (hb : Below B w w') (hB : w.heap.size ≤ B) {a : Addr} {v : Value} (h : w.cell? a = some v) : w'.cell? a = some v := by
  rw [World.cell?_of_block (w := w) (hb.block _ (Nat.lt_of_lt_of_le (cell_lt h) hB))]
  exact h

theorem KeepV.below {B : Nat} {w w' : World} {v : Value} {ks : List Bool} (h : KeepV w v ks) (hb : Below B w w') (hB : w.heap.size ≤ B) : KeepV w' v ks := by
  obtain ⟨q, c, hv, hc, hm, h0, h1⟩ := h
  exact ⟨q, c, hv, hc, hm, h0, fun a ha j x hx => cell_keeps hb hB (h1 a ha j x hx)⟩
theorem IsOp.below {B : Nat} {w w' : World} {o : OpV} (h : IsOp w o) (hb : Below B w w') (hB : w.heap.size ≤ B) : IsOp w' o := ⟨h.kind, h.pos, h.num, h.byte, h.keep.below hb hB⟩
theorem IsOps.below {B : Nat} {w w' : World} {v : Value} {os : List OpV} (h : IsOps w v os) (hb : Below B w w') (hB : w.heap.size ≤ B) : IsOps w' v os := by
  obtain ⟨⟨q, c, hv, h0, h1⟩, h2, h3⟩ := h
  exact ⟨⟨q, c, hv, h0, fun a ha i o ho j x hx => cell_keeps hb hB (h1 a ha i o ho j x hx)⟩, fun o ho => (h2 o ho).below hb hB, h3⟩

theorem i64_of_wf {x : Int} (h : (Lit.int .i64 x).wf = true) : I64 x := by
  have h1 : IntKind.i64.min = -9223372036854775808 := rfl
  have h2 : IntKind.i64.max = 9223372036854775807 := rfl
  simp only [Lit.wf, Bool.and_eq_true, decide_eq_true_eq] at h
  unfold I64; omega
theorem u8_of_wf {x : Int} (h : (Lit.int .u8 x).wf = true) : 0 ≤ x ∧ x < 256 := by
  have h1 : IntKind.u8.min = 0 := rfl
  have h2 : IntKind.u8.max = 255 := rfl
  simp only [Lit.wf, Bool.and_eq_true, decide_eq_true_eq] at h
  omega

section
variable {H : Type} {enc : TypeId × Value → H} {W : World}

theorem open_keep {fuel : Nat} {v : Value} {x : DataW H × List MemPlace} (h : DataW.trod enc Try.prog W 0 (fun _ => true) true fuel 33 [v] = some x) : ∃ ks, KeepV W v ks := by
  rcases open_bools Try.underlying33 Try.underlying4 cellsBool h with ⟨hc, _⟩ | ⟨a, len, cap, B, hc, _, hl, hm, _, hx⟩
  · simp at hc
    exact ⟨[], none, 0, hc, Nat.le_refl _, Nat.zero_le _, fun _ => ⟨rfl, rfl⟩, fun a ha => by cases ha⟩
  · simp at hc
    refine ⟨(List.range len).map B, some a, cap, by rw [hc]; simp, by simpa using hl, hm, (fun e => by cases e), fun a' ha j y hy => ?_⟩
    cases ha
    rw [List.getElem?_map] at hy
    obtain ⟨k, hk, rfl⟩ := Option.map_eq_some_iff.1 hy
    have hj := (List.getElem?_eq_some_iff.1 hk).1
    rw [List.length_range] at hj
    rw [List.getElem?_range hj] at hk
    cases hk
    exact hx j (by omega)

theorem open_keep0 {v : Value} {d : DataW H} {p : List MemPlace} (hv : ∃ q n c, v = .slice q n c) (h : DataW.Trod enc Try.prog W 0 (fun _ => true) true 33 v d p) : ∃ ks, KeepV W v ks := by
  obtain ⟨fuel, hf⟩ := h
  obtain ⟨q, n, c, rfl⟩ := hv
  exact open_keep (by simpa [Value.cells] using hf)

theorem open_nums {v : Value} {d : DataW H} {p : List MemPlace} (hv : ∃ q n c, v = .slice q n c) (h : DataW.Trod enc Try.prog W 0 (fun _ => true) true 50 v d p) : ∃ zs, IsInts W v zs := by
  obtain ⟨fuel, hf⟩ := h
  obtain ⟨q, n, c, rfl⟩ := hv
  rcases open_ints Try.underlying50 Try.underlying3 cellsInt hf with ⟨hc, _⟩ | ⟨a, len, cap, zs, hc, _, hl, hm, hz, _, hx, hw⟩
  · simp [Value.cells] at hc
    obtain ⟨rfl, rfl, rfl⟩ := hc
    exact ⟨[], none, 0, rfl, fun _ => rfl, Nat.zero_le _, (fun z hz => by cases hz), fun a ha => by cases ha⟩
  · simp [Value.cells] at hc
    obtain ⟨rfl, rfl, rfl⟩ := hc
    simp only [if_true] at hz
    have hle : (zs.take n).length = n := by rw [List.length_take]; omega
    refine ⟨zs.take n, some a, c, by rw [hle], (fun e => by cases e), by omega, fun z hz => i64_of_wf (hw z (List.mem_of_mem_take hz)), fun a' ha j y hy => ?_⟩
    cases ha
    have hj := (List.getElem?_eq_some_iff.1 hy).1
    rw [hle] at hj
    rw [List.getElem?_take_of_lt hj] at hy
    rw [hx j (by omega)]
    simp [List.getD, hy]

theorem open_slice_fields {t e : TypeId} {fs : Array Field} {fuel : Nat} {cs : List Value} {x : DataW H × List MemPlace} {P : Program} {base : Nat} {spare : Nat → Bool} {held : Bool} (ht : P.underlying t = some (.slice e)) (he : P.underlying e = some (.struct fs))
    (hone : oneCellFields P fs = true) (hC : P.cellsOf e = fs.size) (h : DataW.trod enc P W base spare held fuel t cs = some x) :
    (cs = [.slice none 0 0]) ∨
    ∃ (a : Addr) (len cap : Nat), cs = [.slice (some a) len cap] ∧ len ≤ cap ∧ cap ≤ maxLen ∧
      ∀ i, i < len → ∃ n : Nat, ∀ (j : Nat) (f : Field), fs[j]? = some f → ∃ (v : Value) (y : DataW H × List MemPlace), W.cell? (a.add (i * fs.size + j)) = some v ∧ DataW.trod enc P W base spare held n f.type [v] = some y := by
  rcases open_slice ht h with h0 | ⟨a, len, cap, m, n, D, Pl, hcs, hb, hl, hm, hmm, hx, hi⟩
  · exact .inl h0.1
  · refine .inr ⟨a, len, cap, hcs, hl, hm, fun i hin => ?_⟩
    have him : i < m := by rw [hmm]; split <;> omega
    obtain ⟨cs', hc, ht'⟩ := hi i him
    rw [hC] at hc
    obtain ⟨ys, n', _, hy, hlen, hyl, hf⟩ := DataW.trod_struct he ht'
    obtain ⟨_, hcl, hat⟩ := World.cells?_some hc
    refine ⟨n', fun j f hj => ?_⟩
    obtain ⟨ho, hk⟩ := hone_of hone j f hj
    have hjl : j < fs.size := (Array.getElem?_eq_some_iff.1 hj).1
    have h1 := hf j f hj
    have h2 : (cs'.drop j).take 1 = [cs'[j]'(by omega)] := by rw [List.drop_eq_getElem_cons (by omega)]; rfl
    rw [ho, hk, h2] at h1
    refine ⟨cs'[j]'(by omega), ys[j]'(by omega), ?_, ?_⟩
    · rw [← Go.Deep.add_add, hat j hjl, List.getElem?_eq_getElem (by omega)]
    · rw [List.getElem?_eq_getElem (by omega)] at h1
      simpa using h1

end

end Go.Proofs.Ytnjandmlhncapaa
