/- Maps whose keys are integers, by what they give: lookup, store, delete, clear, len as laws for the walk; nothing of a program is claimed here. -/
import Derived.Test.YtkdkncbccofpdaaRows
import Derived.WalkKit
import Derived.Lib.Hide
import Derived.ProofKit
import Derived.Maps.Own
import Derived.Lib.SlKeysI
namespace Go.Proofs.Ytkdkncbccofpdaa
open Go.RowKit Go.ChangeMaps

def keyInt (e : MapEntry) : Int := match e.key with | .int _ j => j | _ => 0
/-- all keys are integers of the kind q -/
def IntKeys (q : IntKind) (es : List MapEntry) : Prop := ∀ e ∈ es, e.key = .int q (keyInt e)

def fnd (k : Int) : List MapEntry → Nat → Option (Nat × Value)
  | [], _ => none
  | e :: es, i => if keyInt e = k then some (i, e.val) else fnd k es (i + 1)

theorem findNow_int (q : IntKind) (k : Int) : ∀ (es : List MapEntry) (i : Nat), IntKeys q es → Instr.findNow (.int q) (.int q k) es i = some (fnd k es i)
  | [], _, _ => rfl
  | e :: es, i, h => by
    have he := h e (List.mem_cons_self ..)
    have ih := findNow_int q k es (i + 1) (fun e' h' => h e' (List.mem_cons_of_mem _ h'))
    unfold Instr.findNow fnd
    rw [he]
    by_cases hk : keyInt e = k
    · simp [Instr.sameNow, hk]
    · have hb : (k == keyInt e) = false := by simpa using fun h => hk h.symm
      simp [Instr.sameNow, hk, hb, ih]

/-- what a map gives -/
def gives (es : List MapEntry) (k : Int) : Option Value := (fnd k es 0).map (·.2)

theorem fnd_shift (k : Int) : ∀ (es : List MapEntry) (i : Nat), fnd k es i = (fnd k es 0).map fun x => (x.1 + i, x.2)
  | [], _ => rfl
  | e :: es, i => by
    unfold fnd
    by_cases hk : keyInt e = k
    · simp [hk]
    · rw [if_neg hk, if_neg hk, fnd_shift k es (i + 1), fnd_shift k es (0 + 1)]
      cases fnd k es 0 <;> simp
      omega

theorem gives_nil (k : Int) : gives [] k = none := rfl
theorem gives_cons (e : MapEntry) (es : List MapEntry) (k : Int) : gives (e :: es) k = if keyInt e = k then some e.val else gives es k := by
  unfold gives
  rw [fnd]
  by_cases hk : keyInt e = k
  · simp [hk]
  · rw [if_neg hk, if_neg hk, fnd_shift]
    cases fnd k es 0 <;> simp

theorem gives_append (es : List MapEntry) (e : MapEntry) (k : Int) : gives (es ++ [e]) k = if gives es k = none ∧ keyInt e = k then some e.val else gives es k := by
  induction es with
  | nil => simp [gives_cons, gives_nil]
  | cons x es ih =>
    rw [List.cons_append, gives_cons, gives_cons, ih]
    by_cases hk : keyInt x = k
    · simp [hk]
    · simp [hk]

/-- at the place where a key was found its element is turned -/
theorem gives_modify (k : Int) (v : Value) (g : MapEntry → MapEntry) (hg : ∀ e, keyInt e = k → keyInt (g e) = k ∧ (g e).val = v) : ∀ (es : List MapEntry) (i : Nat) (x : Value), fnd k es 0 = some (i, x) →
    ∀ j, gives (es.modify i g) j = if j = k then some v else gives es j
  | [], _, _, h, _ => by cases h
  | e :: es, i, x, h, j => by
    rw [fnd] at h
    by_cases hk : keyInt e = k
    · rw [if_pos hk] at h
      cases h
      have h1 := hg e hk
      rw [List.modify_zero_cons, gives_cons, gives_cons, h1.1, h1.2, hk]
      by_cases hj : j = k
      · subst hj; simp
      · have : ¬ k = j := fun h => hj h.symm
        simp [hj, this]
    · rw [if_neg hk, fnd_shift] at h
      cases hf : fnd k es 0 with
      | none => rw [hf] at h; cases h
      | some y =>
        rw [hf] at h
        simp only [Option.map_some, Option.some.injEq, Prod.mk.injEq] at h
        obtain ⟨h1, h2⟩ := h
        have ih := gives_modify k v g hg es y.1 y.2 (by rw [hf]) j
        rw [← h1]
        show gives (List.modify (e :: es) (y.1 + 1) g) j = _
        rw [List.modify_succ_cons, gives_cons, gives_cons, ih]
        by_cases hj : j = k
        · subst hj; simp [hk]
        · simp [hj]

/-- no key stands twice -/
def Once (es : List MapEntry) : Prop := (es.map keyInt).Nodup

theorem gives_mem {es : List MapEntry} {k : Int} : gives es k = none ↔ k ∉ es.map keyInt := by
  induction es with
  | nil => simp [gives_nil]
  | cons e es ih =>
    rw [gives_cons]
    by_cases hk : keyInt e = k
    · simp [hk]
    · have : ¬ k = keyInt e := fun h => hk h.symm
      simp [hk, this, ih]

/-- Block b is a map of n entries whose keys are integers of the kind q; it gives f. -/
def IMap (q : IntKind) (w : World) (b n : Nat) (f : Int → Option Value) : Prop :=
  ∃ es clock, w.heap[b]? = some (.map es clock) ∧ IntKeys q es.toList ∧ Once es.toList ∧ es.size = n ∧ (∀ k, gives es.toList k = f k) ∧ MapKept.Stamped es clock

theorem IMap.made (q : IntKind) (w : World) : IMap q (w.alloc (.map #[] 0)) w.heap.size 0 (fun _ => none) :=
  ⟨#[], 0, heap_alloc_new _ _, fun e h => by simp at h, by simp [Once], rfl, fun k => rfl, MapKept.stamped_empty 0⟩

theorem IMap.block {q : IntKind} {w w' : World} {b n : Nat} {f : Int → Option Value} (h : IMap q w b n f) (hb : w'.heap[b]? = w.heap[b]?) : IMap q w' b n f := by
  obtain ⟨es, c, h1, h2⟩ := h
  exact ⟨es, c, by rw [hb, h1], h2⟩

theorem IMap.lt {q : IntKind} {w : World} {b n : Nat} {f : Int → Option Value} (h : IMap q w b n f) : b < w.heap.size := by
  obtain ⟨es, c, h1, _⟩ := h
  exact (Array.getElem?_eq_some_iff.1 h1).1

section
variable {P : Program} {w : World} {q : IntKind} {t kt et : TypeId}

theorem run_findKey (hk : P.underlying kt = some (.int q)) (k : Int) (es : List MapEntry) (h : IntKeys q es) : (Instr.findKey kt (.int q k) es).run P w = .ok (fnd k es 0) w := by
  simp [Instr.findKey, run_underlying hk, findNow_int q k es 0 h]

theorem run_checkKey (hk : P.underlying kt = some (.int q)) (k : Int) (b : Bool) : (Instr.checkKey b 10000 kt (.int q k)).run P w = .ok () w := by
  unfold Instr.checkKey
  simp [run_underlying hk]

/-- 'v, ok := m[k]' and 'm[k]' -/
theorem run_lookup_i {b n : Nat} {f : Int → Option Value} (h : IMap q w b n f) (ht : P.underlying t = some (.map kt et)) (hk : P.underlying kt = some (.int q)) (k : Int) {z : Value} (hz : (zeroValue et).run P w = .ok z w) :
    (Instr.lookup t (.map (some b)) (.int q k) true).run P w = .ok (.tuple #[(f k).getD z, .bool (f k).isSome]) w ∧ (Instr.lookup t (.map (some b)) (.int q k) false).run P w = .ok ((f k).getD z) w := by
  obtain ⟨es, c, h1, h2, h3, h4, h5, h6⟩ := h
  have hf := h5 k
  unfold gives at hf
  have hfk := run_findKey (P := P) (w := w) hk k es.toList h2
  have hck := run_checkKey (P := P) (w := w) hk k es.isEmpty
  rw [← hf]
  cases hx : fnd k es.toList 0 with
  | none =>
    rw [hx] at hfk
    constructor <;> simp [Instr.lookup, run_underlying ht, h1, hfk, hck, hz, Result.andThen, getObj, Sem.run]
  | some y =>
    rw [hx] at hfk
    constructor <;> simp [Instr.lookup, run_underlying ht, h1, hfk, hck, Result.andThen, getObj, Sem.run]

theorem sameBits_int (j k : IntKind) (a b : Int) : Instr.sameBits 10000 (.int j a) (.int k b) = (j == k && a == b) := rfl

theorem fnd_at (k : Int) : ∀ (es : List MapEntry) (i : Nat) (v : Value), fnd k es 0 = some (i, v) → ∃ e, es[i]? = some e ∧ keyInt e = k ∧ e.val = v
  | [], _, _, h => by cases h
  | e :: es, i, v, h => by
    rw [fnd] at h
    by_cases hk : keyInt e = k
    · rw [if_pos hk] at h
      cases h
      exact ⟨e, rfl, hk, rfl⟩
    · rw [if_neg hk, fnd_shift] at h
      cases hf : fnd k es 0 with
      | none => rw [hf] at h; cases h
      | some y =>
        rw [hf] at h
        simp only [Option.map_some, Option.some.injEq, Prod.mk.injEq] at h
        obtain ⟨rfl, h2⟩ := h
        obtain ⟨e', h3, h4, h5⟩ := fnd_at k es y.1 y.2 (by rw [hf])
        exact ⟨e', by simpa using h3, h4, h5.trans h2⟩

theorem keys_modify (g : MapEntry → MapEntry) : ∀ (es : List MapEntry) (i : Nat), (∀ e, es[i]? = some e → keyInt (g e) = keyInt e) → (es.modify i g).map keyInt = es.map keyInt
  | [], i, _ => by cases i <;> simp
  | e :: es, 0, h => by
    rw [List.modify_zero_cons, List.map_cons, List.map_cons, h e rfl]
  | e :: es, i + 1, h => by
    rw [List.modify_succ_cons, List.map_cons, List.map_cons, keys_modify g es i (fun e' he => h e' (by simpa using he))]

theorem intKeys_modify (q : IntKind) (g : MapEntry → MapEntry) (hg : ∀ e, (g e).key = .int q (keyInt (g e))) : ∀ (es : List MapEntry) (i : Nat), IntKeys q es → IntKeys q (es.modify i g)
  | [], i, h => by cases i <;> simpa using h
  | e :: es, 0, h => by
    rw [List.modify_zero_cons]
    intro e' he
    rcases List.mem_cons.1 he with rfl | he
    · exact hg e
    · exact h e' (List.mem_cons_of_mem _ he)
  | e :: es, i + 1, h => by
    rw [List.modify_succ_cons]
    intro e' he
    rcases List.mem_cons.1 he with rfl | he
    · exact h _ (List.mem_cons_self ..)
    · exact intKeys_modify q g hg es i (fun x hx => h x (List.mem_cons_of_mem _ hx)) e' he

/-- 'm[k] = v' -/
theorem run_update_i {b n : Nat} {f : Int → Option Value} (h : IMap q w b n f) (ht : P.underlying t = some (.map kt et)) (hk : P.underlying kt = some (.int q)) (k : Int) (v : Value) :
    ∃ w', (Instr.mapUpdate t (.map (some b)) (.int q k) v).run P w = .ok () w' ∧ IMap q w' b (if (f k).isSome then n else n + 1) (fun j => if j = k then some v else f j) ∧ w.grownBy w' (some b) := by
  obtain ⟨es, c, h1, h2, h3, h4, h5, h6⟩ := h
  have hf := h5 k
  have hlt := (Array.getElem?_eq_some_iff.1 h1).1
  have hfk := run_findKey (P := P) (w := w) hk k es.toList h2
  have hck := run_checkKey (P := P) (w := w) hk k false
  cases hx : fnd k es.toList 0 with
  | none =>
    have hg : gives es.toList k = none := by unfold gives; rw [hx]; rfl
    rw [hg] at hf
    rw [hx] at hfk
    refine ⟨setBlock w b (.map (es.push { key := .int q k, val := v, born := c }) (c + 1)), ?_, ⟨_, _, heap_setBlock_same h1 _, ?_, ?_, ?_, fun j => ?_, ?st⟩, ⟨rfl, rfl, rfl, by simp [setBlock], fun i _ hi => heap_setBlock_other h1 _ (fun e => hi (by rw [e]))⟩⟩
    case st => exact MapKept.stamped_push h6 (fun x hx e => gives_mem.1 hg (List.mem_map.2 ⟨x, hx, by simp [keyInt, e]⟩))
    · simp [Instr.mapUpdate, run_underlying ht, MapKept.run_getObj_map h1, hck, hfk, MapKept.run_setObj_map _ h1, Result.andThen, setBlock]
    · intro e he
      rw [Array.toList_push, List.mem_append, List.mem_singleton] at he
      rcases he with he | rfl
      · exact h2 e he
      · rfl
    · unfold Once
      rw [Array.toList_push, List.map_append, List.nodup_append]
      refine ⟨h3, by simp, ?_⟩
      intro a ha b' hb'
      simp only [List.map_cons, List.map_nil, List.mem_singleton] at hb'
      rw [hb']
      intro e
      exact gives_mem.1 hg (by rw [e] at ha; exact ha)
    · rw [← hf]; simp [h4]
    · rw [Array.toList_push, gives_append, h5]
      by_cases hj : j = k
      · subst hj; simp [← hf, keyInt]
      · have : ¬ k = j := fun e => hj e.symm
        simp [hj, keyInt, this]
  | some y =>
    obtain ⟨i, x⟩ := y
    have hg : gives es.toList k = some x := by unfold gives; rw [hx]; rfl
    rw [hg] at hf
    rw [hx] at hfk
    obtain ⟨e0, he0, hk0, hv0⟩ := fnd_at k es.toList i x hx
    have hi : i < es.size := by have := (List.getElem?_eq_some_iff.1 he0).1; simpa using this
    have hkey : e0.key = .int q k := by rw [h2 e0 (List.mem_of_getElem? he0), hk0]
    have hkk : ((es[i]?).map (·.key)).getD (.int q k) = .int q k := by
      have : es[i]? = some e0 := by simpa using he0
      rw [this]; simp [hkey]
    refine ⟨setBlock w b (.map (es.modify i fun e => { e with key := .int q k, val := v }) c), ?_, ⟨_, _, heap_setBlock_same h1 _, ?_, ?_, ?_, fun j => ?_, ?st⟩, ⟨rfl, rfl, rfl, by simp [setBlock], fun i _ hi => heap_setBlock_other h1 _ (fun e => hi (by rw [e]))⟩⟩
    case st =>
      refine MapKept.stamped_modify h6 i _ (fun _ _ => rfl) (fun e _ hei => ?_)
      have he1 : es[i]? = some e0 := by simpa using he0
      rw [he1] at hei
      cases hei
      exact hkey.symm
    · simp [Instr.mapUpdate, run_underlying ht, MapKept.run_getObj_map h1, hck, hfk, hkk, Instr.keyThatStays, sameBits_int, MapKept.run_setObj_map _ h1, Result.andThen, setBlock]
    · rw [Array.toList_modify]
      exact intKeys_modify q _ (fun e => rfl) es.toList i h2
    · unfold Once
      rw [Array.toList_modify, keys_modify _ es.toList i (fun e he => by
        rw [he0] at he
        cases he
        rw [hk0]; rfl)]
      exact h3
    · rw [← hf]; simp [h4]
    · rw [Array.toList_modify, gives_modify k v _ (fun e he => ⟨rfl, rfl⟩) es.toList i x hx j, h5]

/-- 'clear(m)' -/
theorem run_clear_i {b n : Nat} {f : Int → Option Value} (h : IMap q w b n f) (ht : P.underlying t = some (.map kt et)) (ty : TypeId) :
    ∃ w', (Builtin.clear_ #[t] ty #[.map (some b)]).run P w = .ok (.tuple #[]) w' ∧ IMap q w' b 0 (fun _ => none) ∧ w.grownBy w' (some b) := by
  obtain ⟨es, c, h1, h2, h3, h4, h5, h6⟩ := h
  refine ⟨setBlock w b (.map #[] c), ?_, ⟨_, _, heap_setBlock_same h1 _, fun e he => by simp at he, by simp [Once], rfl, fun k => rfl, MapKept.stamped_empty c⟩, ⟨rfl, rfl, rfl, by simp [setBlock], fun i _ hi => heap_setBlock_other h1 _ (fun e => hi (by rw [e]))⟩⟩
  simp [Builtin.clear_, run_underlying ht, MapKept.run_getObj_map h1, MapKept.run_setObj_map _ h1, Result.andThen, setBlock]

theorem gives_eraseIdx (k : Int) : ∀ (es : List MapEntry) (i : Nat) (x : Value), fnd k es 0 = some (i, x) → Once es → ∀ j, gives (es.eraseIdx i) j = if j = k then none else gives es j
  | [], _, _, h, _, _ => by cases h
  | e :: es, i, x, h, ho, j => by
    rw [fnd] at h
    unfold Once at ho
    rw [List.map_cons, List.nodup_cons] at ho
    by_cases hk : keyInt e = k
    · rw [if_pos hk] at h
      cases h
      rw [List.eraseIdx_cons_zero, gives_cons, hk]
      by_cases hj : j = k
      · subst hj
        rw [if_pos rfl, gives_mem, ← hk]
        exact ho.1
      · have : ¬ k = j := fun h => hj h.symm
        simp [hj, this]
    · rw [if_neg hk, fnd_shift] at h
      cases hf : fnd k es 0 with
      | none => rw [hf] at h; cases h
      | some y =>
        rw [hf] at h
        simp only [Option.map_some, Option.some.injEq, Prod.mk.injEq] at h
        obtain ⟨h1, h2⟩ := h
        have ih := gives_eraseIdx k es y.1 y.2 (by rw [hf]) ho.2 j
        rw [← h1]
        show gives (List.eraseIdx (e :: es) (y.1 + 1)) j = _
        rw [List.eraseIdx_cons_succ, gives_cons, gives_cons, ih]
        by_cases hj : j = k
        · subst hj; simp [hk]
        · simp [hj]

/-- 'delete(m, k)' -/
theorem run_delete_i {b n : Nat} {f : Int → Option Value} (h : IMap q w b n f) (ht : P.underlying t = some (.map kt et)) (hk : P.underlying kt = some (.int q)) (k : Int) (ty : TypeId) :
    ∃ w', (Builtin.delete_ #[t, kt] ty #[.map (some b), .int q k]).run P w = .ok (.tuple #[]) w' ∧ IMap q w' b (if (f k).isSome then n - 1 else n) (fun j => if j = k then none else f j) ∧ w.grownBy w' (some b) := by
  obtain ⟨es, c, h1, h2, h3, h4, h5, h6⟩ := h
  have hf := h5 k
  have hfk := run_findKey (P := P) (w := w) hk k es.toList h2
  have hck := run_checkKey (P := P) (w := w) hk k es.isEmpty
  cases hx : fnd k es.toList 0 with
  | none =>
    have hg : gives es.toList k = none := by unfold gives; rw [hx]; rfl
    rw [hg] at hf
    rw [hx] at hfk
    refine ⟨setBlock w b (.map es c), ?_, ⟨_, _, heap_setBlock_same h1 _, h2, h3, by rw [← hf]; simpa using h4, fun j => ?_, h6⟩, ⟨rfl, rfl, rfl, by simp [setBlock], fun i _ hi => heap_setBlock_other h1 _ (fun e => hi (by rw [e]))⟩⟩
    · simp [Builtin.delete_, run_underlying ht, MapKept.run_getObj_map h1, hck, hfk, MapKept.run_setObj_map _ h1, Result.andThen, setBlock]
    · rw [h5]
      by_cases hj : j = k
      · subst hj; simp [← hf]
      · simp [hj]
  | some y =>
    obtain ⟨i, x⟩ := y
    have hg : gives es.toList k = some x := by unfold gives; rw [hx]; rfl
    rw [hg] at hf
    rw [hx] at hfk
    obtain ⟨e0, he0, _, _⟩ := fnd_at k es.toList i x hx
    have hi : i < es.size := by have := (List.getElem?_eq_some_iff.1 he0).1; simpa using this
    have hl : (es.eraseIdxIfInBounds i).toList = es.toList.eraseIdx i := by simp [Array.eraseIdxIfInBounds, hi]
    refine ⟨setBlock w b (.map (es.eraseIdxIfInBounds i) c), ?_, ⟨_, _, heap_setBlock_same h1 _, ?_, ?_, ?_, fun j => ?_, MapKept.stamped_erase h6 i⟩, ⟨rfl, rfl, rfl, by simp [setBlock], fun i _ hi => heap_setBlock_other h1 _ (fun e => hi (by rw [e]))⟩⟩
    · simp [Builtin.delete_, run_underlying ht, MapKept.run_getObj_map h1, hck, hfk, MapKept.run_setObj_map _ h1, Result.andThen, setBlock]
    · rw [hl]
      exact fun e he => h2 e (List.mem_of_mem_eraseIdx he)
    · unfold Once
      rw [hl]
      exact h3.sublist ((List.eraseIdx_sublist ..).map _)
    · rw [← hf, ← h4]; simp [Array.eraseIdxIfInBounds, hi]
    · rw [hl, gives_eraseIdx k es.toList i x hx h3 j, h5]

/-- 'len(m)' -/
theorem run_len_i {b n : Nat} {f : Int → Option Value} (h : IMap q w b n f) (ht : P.underlying t = some (.map kt et)) (ty : TypeId) : (Builtin.len_ #[t] ty #[.map (some b)]).run P w = .ok (goInt n) w := by
  obtain ⟨es, c, h1, h2, h3, h4, h5, h6⟩ := h
  subst h4
  simp [Builtin.len_, run_underlying ht, MapKept.run_getObj_map h1, Result.andThen]

variable {ops : Array Oper} {rest : List Oper} {o : Oper} {a : Act} {Q : Exit → Act → World → Prop}

/-- 'm[k]' at the operation -/
theorem wpList_lookup_i (hgd : o.guard = none) (m x : Operand) (t : TypeId) (hop : o.op = Op.lookup t m x false) {kt et : TypeId} (ht : P.underlying t = some (.map kt et)) (hk : P.underlying kt = some (.int q)) {b n : Nat} {f : Int → Option Value} {k : Int} {z : Value}
    (hz : (zeroValue et).run P w = .ok z w) (hm : a.eval m = .map (some b)) (hx : a.eval x = .int q k) (h : IMap q w b n f) (hK : wpList P ops Q rest (a.put o.dst ((f k).getD z)) w) : wpList P ops Q (o :: rest) a w := by
  refine wpList_plain hgd fun K' hK' => ?_
  have hrun := (run_lookup_i h ht hk k hz).2
  unfold Oper.wp
  simp [execOp, hop, hm, hx, hrun, Result.andThen]
  exact hK' _ _ hK

/-- 'v, ok := m[k]' at the operation -/
theorem wpList_lookup_ok_i (hgd : o.guard = none) (m x : Operand) (t : TypeId) (hop : o.op = Op.lookup t m x true) {kt et : TypeId} (ht : P.underlying t = some (.map kt et)) (hk : P.underlying kt = some (.int q)) {b n : Nat} {f : Int → Option Value} {k : Int} {z : Value}
    (hz : (zeroValue et).run P w = .ok z w) (hm : a.eval m = .map (some b)) (hx : a.eval x = .int q k) (h : IMap q w b n f) (hK : wpList P ops Q rest (a.put o.dst (.tuple #[(f k).getD z, .bool (f k).isSome])) w) : wpList P ops Q (o :: rest) a w := by
  refine wpList_plain hgd fun K' hK' => ?_
  have hrun := (run_lookup_i h ht hk k hz).1
  unfold Oper.wp
  simp [execOp, hop, hm, hx, hrun, Result.andThen]
  exact hK' _ _ hK

/-- 'm[k] = v' at the operation -/
theorem wpList_update_i (hgd : o.guard = none) (m x v : Operand) (t : TypeId) (hop : o.op = Op.mapUpdate t m x v) {kt et : TypeId} (ht : P.underlying t = some (.map kt et)) (hk : P.underlying kt = some (.int q)) {b n : Nat} {f : Int → Option Value} {k : Int} {val : Value}
    (hm : a.eval m = .map (some b)) (hx : a.eval x = .int q k) (hv : a.eval v = val) (h : IMap q w b n f)
    (hK : ∀ w', IMap q w' b (if (f k).isSome then n else n + 1) (fun j => if j = k then some val else f j) → w.grownBy w' (some b) → wpList P ops Q rest (a.put o.dst undef) w') : wpList P ops Q (o :: rest) a w := by
  refine wpList_plain hgd fun K' hK' => ?_
  obtain ⟨w', hrun, r1, r2⟩ := run_update_i h ht hk k val
  unfold Oper.wp
  simp [execOp, hop, hm, hx, hv, hrun, Result.andThen]
  exact hK' _ _ (hK w' r1 r2)

/-- 'clear(m)' at the operation -/
theorem wpList_clear_i (hgd : o.guard = none) (m : Operand) (t : TypeId) (hop : o.op = Op.call { callee := Callee.builtin Builtin.clear, args := #[m], argTypes := #[t] }) {kt et : TypeId} (ht : P.underlying t = some (.map kt et)) {b n : Nat} {f : Int → Option Value}
    (hm : a.eval m = .map (some b)) (h : IMap q w b n f) (hK : ∀ w', IMap q w' b 0 (fun _ => none) → w.grownBy w' (some b) → wpList P ops Q rest (a.put o.dst (.tuple #[])) w') : wpList P ops Q (o :: rest) a w := by
  refine wpList_plain hgd fun K' hK' => ?_
  obtain ⟨w', hrun, r1, r2⟩ := run_clear_i h ht o.type
  unfold Oper.wp
  simp [execOp, hop, hm, resolve, invoke, builtin, hrun, Result.andThen]
  exact hK' _ _ (hK w' r1 r2)

/-- 'delete(m, k)' at the operation -/
theorem wpList_delete_i (hgd : o.guard = none) (m x : Operand) (t kt : TypeId) (hop : o.op = Op.call { callee := Callee.builtin Builtin.delete, args := #[m, x], argTypes := #[t, kt] }) {et : TypeId} (ht : P.underlying t = some (.map kt et)) (hk : P.underlying kt = some (.int q)) {b n : Nat} {f : Int → Option Value} {k : Int}
    (hm : a.eval m = .map (some b)) (hx : a.eval x = .int q k) (h : IMap q w b n f) (hK : ∀ w', IMap q w' b (if (f k).isSome then n - 1 else n) (fun j => if j = k then none else f j) → w.grownBy w' (some b) → wpList P ops Q rest (a.put o.dst (.tuple #[])) w') : wpList P ops Q (o :: rest) a w := by
  refine wpList_plain hgd fun K' hK' => ?_
  obtain ⟨w', hrun, r1, r2⟩ := run_delete_i h ht hk k o.type
  unfold Oper.wp
  simp [execOp, hop, hm, hx, resolve, invoke, builtin, hrun, Result.andThen]
  exact hK' _ _ (hK w' r1 r2)
end

end Go.Proofs.Ytkdkncbccofpdaa
