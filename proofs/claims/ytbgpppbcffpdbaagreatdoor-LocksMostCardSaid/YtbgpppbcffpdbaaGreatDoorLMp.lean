/- Right and Same of the document, wakes, the arguments opened, a drawn region with two calls and two allocs (merged of several texts). -/
import Derived.Test.YtbgpppbcffpdbaaGreatDoorRows
import Derived.WalkKit
import Derived.Lib.Hide
import Derived.ProofKit
import Derived.Maps.Own
import Derived.Lib.SlKeysI
import Derived.Test.YtbgpppbcffpdbaaGreatDoorLVb
import Derived.Test.YtbgpppbcffpdbaaGreatDoorLMu
import Derived.Test.YtbgpppbcffpdbaaGreatDoorLBk
import Derived.Test.YtbgpppbcffpdbaaGreatDoorMLaid
import Derived.Test.YtbgpppbcffpdbaaGreatDoorLRu
import Derived.Deep.Slices
import Derived.Deep.Fields
import Derived.ChangeSame
import Derived.Lib.SmallJoins
import Derived.Test.YtbgpppbcffpdbaaGreatDoorLSx
import Derived.Test.YtbgpppbcffpdbaaGreatDoorHeld
import Derived.Test.YtbgpppbcffpdbaaGreatDoorLVa
import Derived.Test.YtbgpppbcffpdbaaGreatDoorLGm

/-! Maps whose keys are integers, by what they give: lookup, store, delete, clear, len as laws for the walk; nothing of a program is claimed here. -/
namespace Go.Proofs.YtbgpppbcffpdbaaGreatDoor
open Go.RowKit Go.ChangeMaps

def keyInt (e : MapEntry) : Int := match e.key with | .int _ j => j | _ => 0
/-- all keys are integers of the kind q -/
def IntKeys (q : IntKind) (es : List MapEntry) : Prop := ∀ e ∈ es, e.key = .int q (keyInt e)

def fnd (k : Int) : List MapEntry → Nat → Option (Nat × Value)
  | [], _ => none
  | e :: es, i => if keyInt e = k then some (i, e.val) else fnd k es (i + 1)

theorem findNow_int (q : IntKind) (k : Int) : ∀ (es : List MapEntry) (i : Nat), IntKeys q es → Instr.findNow (.int q) (.int q k) es i = some (fnd k es i)
  | [], _, _ => rfl
  | e :: es, i, h => by
    have he := h e (List.mem_cons_self ..)
    have ih := findNow_int q k es (i + 1) (fun e' h' => h e' (List.mem_cons_of_mem _ h'))
    unfold Instr.findNow fnd
    rw [he]
    by_cases hk : keyInt e = k
    · simp [Instr.sameNow, hk]
    · have hb : (k == keyInt e) = false := by simpa using fun h => hk h.symm
      simp [Instr.sameNow, hk, hb, ih]

/-- what a map gives -/
def gives (es : List MapEntry) (k : Int) : Option Value := (fnd k es 0).map (·.2)

theorem fnd_shift (k : Int) : ∀ (es : List MapEntry) (i : Nat), fnd k es i = (fnd k es 0).map fun x => (x.1 + i, x.2)
  | [], _ => rfl
  | e :: es, i => by
    unfold fnd
    by_cases hk : keyInt e = k
    · simp [hk]
    · rw [if_neg hk, if_neg hk, fnd_shift k es (i + 1), fnd_shift k es (0 + 1)]
      cases fnd k es 0 <;> simp
      omega

theorem gives_nil (k : Int) : gives [] k = none := rfl
theorem gives_cons (e : MapEntry) (es : List MapEntry) (k : Int) : gives (e :: es) k = if keyInt e = k then some e.val else gives es k := by
  unfold gives
  rw [fnd]
  by_cases hk : keyInt e = k
  · simp [hk]
  · rw [if_neg hk, if_neg hk, fnd_shift]
    cases fnd k es 0 <;> simp

theorem gives_append (es : List MapEntry) (e : MapEntry) (k : Int) : gives (es ++ [e]) k = if gives es k = none ∧ keyInt e = k then some e.val else gives es k := by
  induction es with
  | nil => simp [gives_cons, gives_nil]
  | cons x es ih =>
    rw [List.cons_append, gives_cons, gives_cons, ih]
    by_cases hk : keyInt x = k
    · simp [hk]
    · simp [hk]

/-- at the place where a key was found its element is turned -/
theorem gives_modify (k : Int) (v : Value) (g : MapEntry → MapEntry) (hg : ∀ e, keyInt e = k → keyInt (g e) = k ∧ (g e).val = v) : ∀ (es : List MapEntry) (i : Nat) (x : Value), fnd k es 0 = some (i, x) →
    ∀ j, gives (es.modify i g) j = if j = k then some v else gives es j
  | [], _, _, h, _ => by cases h
  | e :: es, i, x, h, j => by
    rw [fnd] at h
    by_cases hk : keyInt e = k
    · rw [if_pos hk] at h
      cases h
      have h1 := hg e hk
      rw [List.modify_zero_cons, gives_cons, gives_cons, h1.1, h1.2, hk]
      by_cases hj : j = k
      · subst hj; simp
      · have : ¬ k = j := fun h => hj h.symm
        simp [hj, this]
    · rw [if_neg hk, fnd_shift] at h
      cases hf : fnd k es 0 with
      | none => rw [hf] at h; cases h
      | some y =>
        rw [hf] at h
        simp only [Option.map_some, Option.some.injEq, Prod.mk.injEq] at h
        obtain ⟨h1, h2⟩ := h
        have ih := gives_modify k v g hg es y.1 y.2 (by rw [hf]) j
        rw [← h1]
        show gives (List.modify (e :: es) (y.1 + 1) g) j = _
        rw [List.modify_succ_cons, gives_cons, gives_cons, ih]
        by_cases hj : j = k
        · subst hj; simp [hk]
        · simp [hj]

/-- no key stands twice -/
def Once (es : List MapEntry) : Prop := (es.map keyInt).Nodup

theorem gives_mem {es : List MapEntry} {k : Int} : gives es k = none ↔ k ∉ es.map keyInt := by
  induction es with
  | nil => simp [gives_nil]
  | cons e es ih =>
    rw [gives_cons]
    by_cases hk : keyInt e = k
    · simp [hk]
    · have : ¬ k = keyInt e := fun h => hk h.symm
      simp [hk, this, ih]

/-- Block b is a map of n entries whose keys are integers of the kind q; it gives f. -/
def IMap (q : IntKind) (w : World) (b n : Nat) (f : Int → Option Value) : Prop :=
  ∃ es clock, w.heap[b]? = some (.map es clock) ∧ IntKeys q es.toList ∧ Once es.toList ∧ es.size = n ∧ (∀ k, gives es.toList k = f k) ∧ MapKept.Stamped es clock

theorem IMap.made (q : IntKind) (w : World) : IMap q (w.alloc (.map #[] 0)) w.heap.size 0 (fun _ => none) :=
  ⟨#[], 0, heap_alloc_new _ _, fun e h => by simp at h, by simp [Once], rfl, fun k => rfl, MapKept.stamped_empty 0⟩

theorem IMap.block {q : IntKind} {w w' : World} {b n : Nat} {f : Int → Option Value} (h : IMap q w b n f) (hb : w'.heap[b]? = w.heap[b]?) : IMap q w' b n f := by
  obtain ⟨es, c, h1, h2⟩ := h
  exact ⟨es, c, by rw [hb, h1], h2⟩

theorem IMap.lt {q : IntKind} {w : World} {b n : Nat} {f : Int → Option Value} (h : IMap q w b n f) : b < w.heap.size := by
  obtain ⟨es, c, h1, _⟩ := h
  exact (Array.getElem?_eq_some_iff.1 h1).1

section
variable {P : Program} {w : World} {q : IntKind} {t kt et : TypeId}

theorem run_findKey (hk : P.underlying kt = some (.int q)) (k : Int) (es : List MapEntry) (h : IntKeys q es) : (Instr.findKey kt (.int q k) es).run P w = .ok (fnd k es 0) w := by
  simp [Instr.findKey, run_underlying hk, findNow_int q k es 0 h]

theorem run_checkKey (hk : P.underlying kt = some (.int q)) (k : Int) (b : Bool) : (Instr.checkKey b 10000 kt (.int q k)).run P w = .ok () w := by
  unfold Instr.checkKey
  simp [run_underlying hk]

/-- 'v, ok := m[k]' and 'm[k]' -/
theorem run_lookup_i {b n : Nat} {f : Int → Option Value} (h : IMap q w b n f) (ht : P.underlying t = some (.map kt et)) (hk : P.underlying kt = some (.int q)) (k : Int) {z : Value} (hz : (zeroValue et).run P w = .ok z w) :
    (Instr.lookup t (.map (some b)) (.int q k) true).run P w = .ok (.tuple #[(f k).getD z, .bool (f k).isSome]) w ∧ (Instr.lookup t (.map (some b)) (.int q k) false).run P w = .ok ((f k).getD z) w := by
  obtain ⟨es, c, h1, h2, h3, h4, h5, h6⟩ := h
  have hf := h5 k
  unfold gives at hf
  have hfk := run_findKey (P := P) (w := w) hk k es.toList h2
  have hck := run_checkKey (P := P) (w := w) hk k es.isEmpty
  rw [← hf]
  cases hx : fnd k es.toList 0 with
  | none =>
    rw [hx] at hfk
    constructor <;> simp [Instr.lookup, run_underlying ht, h1, hfk, hck, hz, Result.andThen, getObj, Sem.run]
  | some y =>
    rw [hx] at hfk
    constructor <;> simp [Instr.lookup, run_underlying ht, h1, hfk, hck, Result.andThen, getObj, Sem.run]

theorem sameBits_int (j k : IntKind) (a b : Int) : Instr.sameBits 10000 (.int j a) (.int k b) = (j == k && a == b) := rfl

theorem fnd_at (k : Int) : ∀ (es : List MapEntry) (i : Nat) (v : Value), fnd k es 0 = some (i, v) → ∃ e, es[i]? = some e ∧ keyInt e = k ∧ e.val = v
  | [], _, _, h => by cases h
  | e :: es, i, v, h => by
    rw [fnd] at h
    by_cases hk : keyInt e = k
    · rw [if_pos hk] at h
      cases h
      exact ⟨e, rfl, hk, rfl⟩
    · rw [if_neg hk, fnd_shift] at h
      cases hf : fnd k es 0 with
      | none => rw [hf] at h; cases h
      | some y =>
        rw [hf] at h
        simp only [Option.map_some, Option.some.injEq, Prod.mk.injEq] at h
        obtain ⟨rfl, h2⟩ := h
        obtain ⟨e', h3, h4, h5⟩ := fnd_at k es y.1 y.2 (by rw [hf])
        exact ⟨e', by simpa using h3, h4, h5.trans h2⟩

theorem keys_modify (g : MapEntry → MapEntry) : ∀ (es : List MapEntry) (i : Nat), (∀ e, es[i]? = some e → keyInt (g e) = keyInt e) → (es.modify i g).map keyInt = es.map keyInt
  | [], i, _ => by cases i <;> simp
  | e :: es, 0, h => by
    rw [List.modify_zero_cons, List.map_cons, List.map_cons, h e rfl]
  | e :: es, i + 1, h => by
    rw [List.modify_succ_cons, List.map_cons, List.map_cons, keys_modify g es i (fun e' he => h e' (by simpa using he))]

theorem intKeys_modify (q : IntKind) (g : MapEntry → MapEntry) (hg : ∀ e, (g e).key = .int q (keyInt (g e))) : ∀ (es : List MapEntry) (i : Nat), IntKeys q es → IntKeys q (es.modify i g)
  | [], i, h => by cases i <;> simpa using h
  | e :: es, 0, h => by
    rw [List.modify_zero_cons]
    intro e' he
    rcases List.mem_cons.1 he with rfl | he
    · exact hg e
    · exact h e' (List.mem_cons_of_mem _ he)
  | e :: es, i + 1, h => by
    rw [List.modify_succ_cons]
    intro e' he
    rcases List.mem_cons.1 he with rfl | he
    · exact h _ (List.mem_cons_self ..)
    · exact intKeys_modify q g hg es i (fun x hx => h x (List.mem_cons_of_mem _ hx)) e' he

/-- 'm[k] = v' -/
theorem run_update_i {b n : Nat} {f : Int → Option Value} (h : IMap q w b n f) (ht : P.underlying t = some (.map kt et)) (hk : P.underlying kt = some (.int q)) (k : Int) (v : Value) :
    ∃ w', (Instr.mapUpdate t (.map (some b)) (.int q k) v).run P w = .ok () w' ∧ IMap q w' b (if (f k).isSome then n else n + 1) (fun j => if j = k then some v else f j) ∧ w.grownBy w' (some b) := by
  obtain ⟨es, c, h1, h2, h3, h4, h5, h6⟩ := h
  have hf := h5 k
  have hlt := (Array.getElem?_eq_some_iff.1 h1).1
  have hfk := run_findKey (P := P) (w := w) hk k es.toList h2
  have hck := run_checkKey (P := P) (w := w) hk k false
  cases hx : fnd k es.toList 0 with
  | none =>
    have hg : gives es.toList k = none := by unfold gives; rw [hx]; rfl
    rw [hg] at hf
    rw [hx] at hfk
    refine ⟨setBlock w b (.map (es.push { key := .int q k, val := v, born := c }) (c + 1)), ?_, ⟨_, _, heap_setBlock_same h1 _, ?_, ?_, ?_, fun j => ?_, ?st⟩, ⟨rfl, rfl, rfl, by simp [setBlock], fun i _ hi => heap_setBlock_other h1 _ (fun e => hi (by rw [e]))⟩⟩
    case st => exact MapKept.stamped_push h6 (fun x hx e => gives_mem.1 hg (List.mem_map.2 ⟨x, hx, by simp [keyInt, e]⟩))
    · simp [Instr.mapUpdate, run_underlying ht, MapKept.run_getObj_map h1, hck, hfk, MapKept.run_setObj_map _ h1, Result.andThen, setBlock]
    · intro e he
      rw [Array.toList_push, List.mem_append, List.mem_singleton] at he
      rcases he with he | rfl
      · exact h2 e he
      · rfl
    · unfold Once
      rw [Array.toList_push, List.map_append, List.nodup_append]
      refine ⟨h3, by simp, ?_⟩
      intro a ha b' hb'
      simp only [List.map_cons, List.map_nil, List.mem_singleton] at hb'
      rw [hb']
      intro e
      exact gives_mem.1 hg (by rw [e] at ha; exact ha)
    · rw [← hf]; simp [h4]
    · rw [Array.toList_push, gives_append, h5]
      by_cases hj : j = k
      · subst hj; simp [← hf, keyInt]
      · have : ¬ k = j := fun e => hj e.symm
        simp [hj, keyInt, this]
  | some y =>
    obtain ⟨i, x⟩ := y
    have hg : gives es.toList k = some x := by unfold gives; rw [hx]; rfl
    rw [hg] at hf
    rw [hx] at hfk
    obtain ⟨e0, he0, hk0, hv0⟩ := fnd_at k es.toList i x hx
    have hi : i < es.size := by have := (List.getElem?_eq_some_iff.1 he0).1; simpa using this
    have hkey : e0.key = .int q k := by rw [h2 e0 (List.mem_of_getElem? he0), hk0]
    have hkk : ((es[i]?).map (·.key)).getD (.int q k) = .int q k := by
      have : es[i]? = some e0 := by simpa using he0
      rw [this]; simp [hkey]
    refine ⟨setBlock w b (.map (es.modify i fun e => { e with key := .int q k, val := v }) c), ?_, ⟨_, _, heap_setBlock_same h1 _, ?_, ?_, ?_, fun j => ?_, ?st⟩, ⟨rfl, rfl, rfl, by simp [setBlock], fun i _ hi => heap_setBlock_other h1 _ (fun e => hi (by rw [e]))⟩⟩
    case st =>
      refine MapKept.stamped_modify h6 i _ (fun _ _ => rfl) (fun e _ hei => ?_)
      have he1 : es[i]? = some e0 := by simpa using he0
      rw [he1] at hei
      cases hei
      exact hkey.symm
    · simp [Instr.mapUpdate, run_underlying ht, MapKept.run_getObj_map h1, hck, hfk, hkk, Instr.keyThatStays, sameBits_int, MapKept.run_setObj_map _ h1, Result.andThen, setBlock]
    · rw [Array.toList_modify]
      exact intKeys_modify q _ (fun e => rfl) es.toList i h2
    · unfold Once
      rw [Array.toList_modify, keys_modify _ es.toList i (fun e he => by
        rw [he0] at he
        cases he
        rw [hk0]; rfl)]
      exact h3
    · rw [← hf]; simp [h4]
    · rw [Array.toList_modify, gives_modify k v _ (fun e he => ⟨rfl, rfl⟩) es.toList i x hx j, h5]

variable {ops : Array Oper} {rest : List Oper} {o : Oper} {a : Act} {Q : Exit → Act → World → Prop}

/-- 'm[k]' at the operation -/
theorem wpList_lookup_i (hgd : o.guard = none) (m x : Operand) (t : TypeId) (hop : o.op = Op.lookup t m x false) {kt et : TypeId} (ht : P.underlying t = some (.map kt et)) (hk : P.underlying kt = some (.int q)) {b n : Nat} {f : Int → Option Value} {k : Int} {z : Value}
    (hz : (zeroValue et).run P w = .ok z w) (hm : a.eval m = .map (some b)) (hx : a.eval x = .int q k) (h : IMap q w b n f) (hK : wpList P ops Q rest (a.put o.dst ((f k).getD z)) w) : wpList P ops Q (o :: rest) a w := by
  refine wpList_plain hgd fun K' hK' => ?_
  have hrun := (run_lookup_i h ht hk k hz).2
  unfold Oper.wp
  simp [execOp, hop, hm, hx, hrun, Result.andThen]
  exact hK' _ _ hK

/-- 'm[k] = v' at the operation -/
theorem wpList_update_i (hgd : o.guard = none) (m x v : Operand) (t : TypeId) (hop : o.op = Op.mapUpdate t m x v) {kt et : TypeId} (ht : P.underlying t = some (.map kt et)) (hk : P.underlying kt = some (.int q)) {b n : Nat} {f : Int → Option Value} {k : Int} {val : Value}
    (hm : a.eval m = .map (some b)) (hx : a.eval x = .int q k) (hv : a.eval v = val) (h : IMap q w b n f)
    (hK : ∀ w', IMap q w' b (if (f k).isSome then n else n + 1) (fun j => if j = k then some val else f j) → w.grownBy w' (some b) → wpList P ops Q rest (a.put o.dst undef) w') : wpList P ops Q (o :: rest) a w := by
  refine wpList_plain hgd fun K' hK' => ?_
  obtain ⟨w', hrun, r1, r2⟩ := run_update_i h ht hk k val
  unfold Oper.wp
  simp [execOp, hop, hm, hx, hv, hrun, Result.andThen]
  exact hK' _ _ (hK w' r1 r2)

end

end Go.Proofs.YtbgpppbcffpdbaaGreatDoor

/-! Right of the document on locks: which locks may be. -/
namespace Go.Proofs.YtbgpppbcffpdbaaGreatDoor
open Go.RowKit

theorem zero_bool (w : World) : (zeroValue 4).run Tryz.prog w = .ok (.bool false) w := by kernel_rfl
/-- whom it has met -/
def metF (l : List Int) : Int → Option Value := fun k => if k ∈ l then some (.bool true) else none
theorem metF_in {l : List Int} {k : Int} (h : k ∈ l) : metF l k = some (.bool true) := if_pos h
theorem metF_out {l : List Int} {k : Int} (h : k ∉ l) : metF l k = none := if_neg h
theorem metF_snoc (l : List Int) (x : Int) : metF (l ++ [x]) = fun j => if j = x then some (.bool true) else metF l j := by
  funext j
  unfold metF
  by_cases h1 : j = x
  · simp [h1]
  · simp [h1]
theorem metF_nil : metF [] = fun _ => none := by funext j; simp [metF]
theorem take_map_next {ws : List WaitD} {p : Nat} {a : WaitD} (h : ws[p]? = some a) : (ws.take (p + 1)).map (·.x) = (ws.take p).map (·.x) ++ [a.x] := by
  rw [List.take_add_one, h]
  simp
theorem tx_twice {L : List QueD} (h : (txL L).Nodup) {K : Nat} {d : QueD} (hd : L[K]? = some d) {p : Nat} {a : WaitD} (ha : d.ws[p]? = some a) (hin : a.x ∈ txL (L.take K) ++ (d.ws.take p).map (·.x)) : False := by
  have h1 : (txL (L.take (K + 1))).Nodup := by
    refine List.Sublist.nodup ?_ h
    unfold txL
    conv => rhs; rw [← List.take_append_drop (K + 1) L]
    rw [List.flatMap_append]
    exact List.sublist_append_left _ _
  rw [txL_take hd] at h1
  have h2 : (txL (L.take K) ++ ((d.ws.take p).map (·.x) ++ [a.x])).Nodup := by
    refine List.Sublist.nodup (List.Sublist.append (List.Sublist.refl _) ?_) h1
    rw [← take_map_next ha]
    exact (List.take_sublist _ _).map _
  rw [← List.append_assoc] at h2
  exact (List.nodup_append.1 h2).2.2 _ hin _ (List.mem_singleton.2 rfl) rfl

theorem resB_t {r : ResD} (h : resB r = true) : 0 ≤ r.t ∧ r.t < 3 := by
  unfold resB at h
  simp only [Bool.and_eq_true, decide_eq_true_eq] at h
  exact h.1
set_option maxRecDepth 100000 in
set_option maxHeartbeats 8000000 in
theorem rright_any (q : Option Addr) (n c : Nat) (V : List QV) (L : List QueD) (b : Bool) (hb : b = true ↔ ChkOk L) (w : World) (h : LkOn w q n c V L) (hsm : Sm L) :
    Calls Tryz.prog 16 #[.agg #[.slice q n c]] w (fun e w' => e = .returned (.bool b) ∧ Below w.heap.size w w') := by
  obtain ⟨W, hW⟩ : ∃ W, w.alloc (.cells #[.slice q n c] 24) = W := ⟨_, rfl⟩
  have hbx := Lib.hid (one_box (xs := [.slice q n c]) hW)
  have hh := Lib.hid (h.below hbx.out.1 (Nat.le_refl _))
  have hll := Lib.hid h.len
  have hsm' := Lib.hid hsm
  have hb' := Lib.hid hb
  have c0 := hbx.out.2.1.cell 0 rfl
  clear h hb hsm
  by_cases hn : n ≤ 500
  case neg =>
    have hgt : (500 : Int) < n := by omega
    have hfin : Hid (b = false) := no_b hb'.out (fun f => hn (by have := f.len; have := hll.out; omega))
    go_enter Tryz.func16, Tryz.ntmps16
    go_wp2
    go_ret
    exact ⟨ret_b hfin.out.symm, hbx.out.1⟩
  case pos =>
  have hle : ¬ (500 : Int) < n := by omega
  have hmm := @run_makeMap Tryz.prog
  obtain ⟨W2, hW2⟩ : ∃ W2, W.alloc (.map #[] 0) = W2 := ⟨_, rfl⟩
  have hm0 : Hid (IMap .i64 W2 W.heap.size 0 (metF (txL (L.take 0)))) := by
    show IMap _ _ _ _ _
    rw [List.take_zero, show txL [] = [] from rfl, metF_nil, ← hW2]
    exact IMap.made _ _
  have hb2 : Hid (Below W.heap.size W W2) := by rw [← hW2]; exact (Below.refl _ _).alloc (Nat.le_refl _) _
  have c2 := (hbx.out.2.1.below hb2.out (Nat.le_refl _)).cell 0 rfl
  go_enter Tryz.func16, Tryz.ntmps16
  go_wp2
  clear hW hW2 c0 c2 hmm hle
  go_loopw [16] (fun v16 wr => ∃ K cn : Nat, K ≤ n ∧ v16 = .int .i64 K ∧ Hid (Below W.heap.size W wr) ∧ Hid (ChkR L K) ∧ Hid (IMap .i64 wr W.heap.size cn (metF (txL (L.take K)))) ∧ Hid ((txL (L.take K)).Nodup)) (fun v16 _ => n - (intOf v16).toNat)
  case atStart => exact ⟨0, 0, Nat.zero_le _, rfl, hb2.out, ⟨fun i d hi => by omega, fun j p a hj => by omega⟩, hm0.out, by rw [List.take_zero]; exact List.nodup_nil⟩
  case round =>
    obtain ⟨K, cn, hK, rfl, hbr, hr, hmap, hnd⟩ := hrel
    obtain ⟨wo, rfl⟩ : ∃ u, u = wr := ⟨_, rfl⟩
    by_cases hlt : K < n
    · obtain ⟨A, ⟨⟨at_, ak, ai⟩, hq, hn', hc, wq, wn, wc⟩, ⟨res, hs, ws⟩, hqA, hV, hLk, hon0, hcA0⟩ := hh.out.at hlt
      have hres : res = ⟨at_, ak, ai⟩ := hon0.res.symm
      subst hres
      subst hqA
      have hcell : Hid (∀ j' v, ([.int .i64 at_, .bool ak, .int .u16 ai, .slice hq hn' hc, .slice wq wn wc] : List Value)[j']? = some v → wo.cell? ((A.add (K * 5)).add j') = some v) := fun j x hj => cell_kept hbr.out (Nat.le_refl _) (hcA0 j x hj)
      have hs2 := sizeQue (.int .i64 at_) (.bool ak) (.int .u16 ai) (.slice hq hn' hc) (.slice wq wn wc)
      have hx' := Lib.hid hLk
      have hidx := Lib.hid hon0.ok
      have i0 : (0 : Int) ≤ K := by omega
      have i1 : (K : Int) < n := by omega
      obtain ⟨WA, hWA⟩ : ∃ W', wo.alloc (.cells #[.int .i64 at_, .bool ak, .int .u16 ai, .slice hq hn' hc, .slice wq wn wc] 43) = W' := ⟨_, rfl⟩
      have hbA := Lib.hid (one_box (xs := [.int .i64 at_, .bool ak, .int .u16 ai, .slice hq hn' hc, .slice wq wn wc]) hWA)
      have hBA := Lib.hid (below_step hbA.out.1 hbr.out)
      have hqx := Lib.hid (hbx.out.2.1.below hBA.out (Nat.le_refl _))
      obtain ⟨B, hB⟩ : ∃ B, wo.heap.size = B := ⟨_, rfl⟩
      have hbB : Hid (Boxed WA B [.int .i64 at_, .bool ak, .int .u16 ai, .slice hq hn' hc, .slice wq wn wc]) := by have h := hbA.out.2.1; rw [hB] at h; exact h
      obtain ⟨mb, hmb⟩ := bool_of (QuFit ⟨⟨at_, ak, ai⟩, hs, ws⟩ ∧ (ws.map (·.x)).Nodup)
      have hcm : Hid (∀ u, Below WA.heap.size WA u → Calls Tryz.prog 36 #[.agg #[.int .i64 at_, .bool ak, .int .u16 ai, .slice hq hn' hc, .slice wq wn wc]] u (fun e w' => e = .returned (.bool mb) ∧ Below u.heap.size u w')) := fun u hu =>
        rque_any ⟨⟨at_, ak, ai⟩, hq, hn', hc, wq, wn, wc⟩ ⟨⟨at_, ak, ai⟩, hs, ws⟩ mb hmb u (hon0.below (below_step hu hBA.out) (Nat.le_refl _)) (hsm'.out.at hLk)
      have hmb' := Lib.hid hmb
      have hwo : Hid (SlOn W wq wn wc ws) := hon0.ws
      have hwl : Hid (ws.length = wn) := hon0.ws.len
      have hwn : Hid (wn ≤ 9223372036854775807) := by show _ ≤ _; have h1 := hon0.ws.le; have h2 := hon0.ws.cap; simp only at h1 h2; unfold maxLen at h2; omega
      clear hcA0 hV hLk hon0 hmb
      go_wp2_with (first
        | (with_reducible refine wpList_load_at rfl 43 (.tmp 19) rfl Tryz.underlying43 rfl hs2 rfl hcell.out ?_))
      clear hWA hB
      cases mb with
      | false =>
        have hfin : Hid (b = false) := no_b hb'.out (fun f => by have h := hmb'.out.2 ⟨f.fit _ (List.mem_of_getElem? hx'.out), nd_of f (List.mem_of_getElem? hx'.out)⟩; cases h)
        have hD : Hid (∀ u, Below WA.heap.size WA u → u.cell? ⟨B, 0, none⟩ = some (.int .i64 at_) ∧ u.cell? ⟨B, 1, none⟩ = some (.bool ak) ∧ u.cell? ⟨B, 2, none⟩ = some (.int .u16 ai) ∧ u.cell? ⟨B, 3, none⟩ = some (.slice hq hn' hc) ∧ u.cell? ⟨B, 4, none⟩ = some (.slice wq wn wc)) := fun u hu => ⟨(hbB.out.below hu (Nat.le_refl _)).cell 0 rfl, (hbB.out.below hu (Nat.le_refl _)).cell 1 rfl, (hbB.out.below hu (Nat.le_refl _)).cell 2 rfl, (hbB.out.below hu (Nat.le_refl _)).cell 3 rfl, (hbB.out.below hu (Nat.le_refl _)).cell 4 rfl⟩
        refine wp_region_held (S := fun u => Below WA.heap.size WA u) (by kernel_rfl) ?_
        change wpAnyH _ _ _ _ _ _ _ _ (World.drew WA)
        have hS0 : Below WA.heap.size WA WA.drew := below_drew _
        refine held_tk (i := 0) (dst := some 21) (v := .agg #[.int .i64 at_, .bool ak, .int .u16 ai, .slice hq hn' hc, .slice wq wn wc]) rfl rfl (.inl ⟨rfl, fun u hu => by obtain ⟨e0, e1, e2, e3, e4⟩ := hD.out u hu; go_simp⟩) hS0 ?_
        go_frame
        refine held_call (i := 1) (dst := some 22) rfl rfl (by kernel_rfl) rfl (by go_simp) (hcm.out _ hS0) ?_
        rintro e u1 ⟨rfl, hb1⟩
        have hS1 := below_step hb1 hS0
        refine ⟨_, rfl, hS1, ?_⟩
        go_frame
        refine held_tk (i := 2) (dst := some 23) (v := .bool true) rfl rfl (.inl ⟨rfl, fun u hu => by obtain ⟨e0, e1, e2, e3, e4⟩ := hD.out u hu; go_simp⟩) hS1 ?_
        go_frame
        refine held_tk (i := 3) (dst := some 24) (v := .bool true) rfl rfl (y_move (.tmp 23) rfl rfl rfl) hS1 ?_
        go_frame
        refine held_tk (i := 4) (dst := some 25) (v := undef) rfl rfl (.inr ⟨rfl, rfl⟩) hS1 ?_
        go_frame
        refine held_tk (i := 5) (dst := some 26) (v := undef) rfl rfl (.inr ⟨rfl, rfl⟩) hS1 ?_
        go_frame
        refine held_tk (i := 6) (dst := some 27) (v := undef) rfl rfl (.inr ⟨rfl, rfl⟩) hS1 ?_
        go_frame
        refine held_tk (i := 7) (dst := some 28) (v := undef) rfl rfl (.inr ⟨rfl, rfl⟩) hS1 ?_
        go_frame
        refine held_tk (i := 8) (dst := some 29) (v := undef) rfl rfl (.inr ⟨rfl, rfl⟩) hS1 ?_
        go_frame
        refine held_tk (i := 9) (dst := some 30) (v := undef) rfl rfl (.inr ⟨rfl, rfl⟩) hS1 ?_
        go_frame
        refine held_tk (i := 10) (dst := some 31) (v := undef) rfl rfl (.inr ⟨rfl, rfl⟩) hS1 ?_
        go_frame
        refine held_tk (i := 11) (dst := some 32) (v := undef) rfl rfl (.inr ⟨rfl, rfl⟩) hS1 ?_
        go_frame
        refine held_tk (i := 12) (dst := some 33) (v := undef) rfl rfl (.inr ⟨rfl, rfl⟩) hS1 ?_
        go_frame
        refine held_tk (i := 13) (dst := some 34) (v := undef) rfl rfl (.inr ⟨rfl, rfl⟩) hS1 ?_
        go_frame
        refine held_tk (i := 14) (dst := some 35) (v := undef) rfl rfl (.inr ⟨rfl, rfl⟩) hS1 ?_
        go_frame
        refine held_tk (i := 15) (dst := some 36) (v := undef) rfl rfl (.inr ⟨rfl, rfl⟩) hS1 ?_
        go_frame
        refine held_tk (i := 16) (dst := some 37) (v := undef) rfl rfl (.inr ⟨rfl, rfl⟩) hS1 ?_
        go_frame
        refine held_tk (i := 17) (dst := some 38) (v := undef) rfl rfl (.inr ⟨rfl, rfl⟩) hS1 ?_
        go_frame
        refine held_tk (i := 18) (dst := some 39) (v := undef) rfl rfl (.inr ⟨rfl, rfl⟩) hS1 ?_
        go_frame
        refine held_tk (i := 19) (dst := some 40) (v := undef) rfl rfl (.inr ⟨rfl, rfl⟩) hS1 ?_
        go_frame
        refine held_tk (i := 20) (dst := some 41) (v := .bool true) rfl rfl (.inl ⟨rfl, fun u hu => by obtain ⟨e0, e1, e2, e3, e4⟩ := hD.out u hu; go_simp⟩) hS1 ?_
        go_frame
        refine wpAnyH_done (by kernel_rfl) ?_ _
        have hS9 := Lib.hid (below_step (below_step hS1 hBA.out) hbx.out.1)
        go_wp2
        go_ret
        exact ⟨ret_b hfin.out.symm, hS9.out⟩
      | true =>
        have hqf : Hid (QuFit ⟨⟨at_, ak, ai⟩, hs, ws⟩) := (hmb'.out.1 rfl).1
        clear hmb'
        rcases Nat.eq_zero_or_pos K with hk0 | hpos
        · have hKz := Lib.hid hk0
          clear hk0
          have hD : Hid (∀ u, Below WA.heap.size WA u → u.cell? ⟨B, 0, none⟩ = some (.int .i64 at_) ∧ u.cell? ⟨B, 1, none⟩ = some (.bool ak) ∧ u.cell? ⟨B, 2, none⟩ = some (.int .u16 ai) ∧ u.cell? ⟨B, 3, none⟩ = some (.slice hq hn' hc) ∧ u.cell? ⟨B, 4, none⟩ = some (.slice wq wn wc)) := fun u hu => ⟨(hbB.out.below hu (Nat.le_refl _)).cell 0 rfl, (hbB.out.below hu (Nat.le_refl _)).cell 1 rfl, (hbB.out.below hu (Nat.le_refl _)).cell 2 rfl, (hbB.out.below hu (Nat.le_refl _)).cell 3 rfl, (hbB.out.below hu (Nat.le_refl _)).cell 4 rfl⟩
          refine wp_region_held (S := fun u => Below WA.heap.size WA u) (by kernel_rfl) ?_
          change wpAnyH _ _ _ _ _ _ _ _ (World.drew WA)
          have hS0 : Below WA.heap.size WA WA.drew := below_drew _
          refine held_tk (i := 0) (dst := some 21) (v := .agg #[.int .i64 at_, .bool ak, .int .u16 ai, .slice hq hn' hc, .slice wq wn wc]) rfl rfl (.inl ⟨rfl, fun u hu => by obtain ⟨e0, e1, e2, e3, e4⟩ := hD.out u hu; go_simp⟩) hS0 ?_
          go_frame
          refine held_call (i := 1) (dst := some 22) rfl rfl (by kernel_rfl) rfl (by go_simp) (hcm.out _ hS0) ?_
          rintro e u1 ⟨rfl, hb1⟩
          have hS1 := below_step hb1 hS0
          refine ⟨_, rfl, hS1, ?_⟩
          go_frame
          refine held_tk (i := 2) (dst := some 23) (v := .bool false) rfl rfl (.inl ⟨rfl, fun u hu => by obtain ⟨e0, e1, e2, e3, e4⟩ := hD.out u hu; go_simp⟩) hS1 ?_
          go_frame
          refine held_tk (i := 3) (dst := some 24) (v := .bool false) rfl rfl (y_move (.tmp 23) rfl rfl rfl) hS1 ?_
          go_frame
          refine held_tk (i := 4) (dst := some 25) rfl rfl (y_move (.tmp 4) rfl rfl rfl) hS1 ?_
          go_frame
          refine held_tk (i := 5) (dst := some 26) (v := .bool false) rfl rfl (.inl ⟨rfl, fun u hu => by go_simp; exact hKz.out⟩) hS1 ?_
          go_frame
          refine held_tk (i := 6) (dst := some 27) (v := .bool false) rfl rfl (y_move (.tmp 26) rfl rfl rfl) hS1 ?_
          go_frame
          refine held_tk (i := 7) (dst := some 28) (v := undef) rfl rfl (.inr ⟨rfl, rfl⟩) hS1 ?_
          go_frame
          refine held_tk (i := 8) (dst := some 29) (v := undef) rfl rfl (.inr ⟨rfl, rfl⟩) hS1 ?_
          go_frame
          refine held_tk (i := 9) (dst := some 30) (v := undef) rfl rfl (.inr ⟨rfl, rfl⟩) hS1 ?_
          go_frame
          refine held_tk (i := 10) (dst := some 31) (v := undef) rfl rfl (.inr ⟨rfl, rfl⟩) hS1 ?_
          go_frame
          refine held_tk (i := 11) (dst := some 32) (v := undef) rfl rfl (.inr ⟨rfl, rfl⟩) hS1 ?_
          go_frame
          refine held_tk (i := 12) (dst := some 33) (v := undef) rfl rfl (.inr ⟨rfl, rfl⟩) hS1 ?_
          go_frame
          refine held_tk (i := 13) (dst := some 34) (v := undef) rfl rfl (.inr ⟨rfl, rfl⟩) hS1 ?_
          go_frame
          refine held_tk (i := 14) (dst := some 35) (v := undef) rfl rfl (.inr ⟨rfl, rfl⟩) hS1 ?_
          go_frame
          refine held_tk (i := 15) (dst := some 36) (v := undef) rfl rfl (.inr ⟨rfl, rfl⟩) hS1 ?_
          go_frame
          refine held_tk (i := 16) (dst := some 37) (v := undef) rfl rfl (.inr ⟨rfl, rfl⟩) hS1 ?_
          go_frame
          refine held_tk (i := 17) (dst := some 38) (v := undef) rfl rfl (.inr ⟨rfl, rfl⟩) hS1 ?_
          go_frame
          refine held_tk (i := 18) (dst := some 39) (v := undef) rfl rfl (.inr ⟨rfl, rfl⟩) hS1 ?_
          go_frame
          refine held_tk (i := 19) (dst := some 40) (v := .bool false) rfl rfl (.inl ⟨rfl, fun u hu => by obtain ⟨e0, e1, e2, e3, e4⟩ := hD.out u hu; go_simp⟩) hS1 ?_
          go_frame
          refine held_tk (i := 20) (dst := some 41) (v := .bool false) rfl rfl (.inl ⟨rfl, fun u hu => by obtain ⟨e0, e1, e2, e3, e4⟩ := hD.out u hu; go_simp⟩) hS1 ?_
          go_frame
          refine wpAnyH_done (by kernel_rfl) ?_ _
          have hS9 := Lib.hid (below_step hS1 hBA.out)
          have hst : Hid (ChkR L (K + 1)) := hr.out.step hx'.out hqf.out (fun j p hj => by have := hKz.out; omega)
          have hm9 := Lib.hid (hmap.out.block ((below_step hS1 hbA.out.1).block _ (hmap.out.lt)))
          have f4 := (hbB.out.below hS1 (Nat.le_refl _)).cell 4 rfl
          go_wp2
          clear f4
          have hwn' := hwn.out
          go_loopw [45] (fun v45 wr => ∃ (p cn : Nat), p ≤ wn ∧ v45 = .int .i64 p ∧ Hid (Below W.heap.size W wr) ∧ Hid (IMap .i64 wr W.heap.size cn (metF (txL (L.take K) ++ (ws.take p).map (·.x)))) ∧ Hid ((txL (L.take K) ++ (ws.take p).map (·.x)).Nodup)) (fun v45 _ => wn - (intOf v45).toNat)
          case atStart => exact ⟨0, cn, Nat.zero_le _, rfl, hS9.out, Lib.hid (by have h := hm9.out; simpa using h), Lib.hid (by have h := hnd.out; simpa using h)⟩
          case round =>
            obtain ⟨p, cp, hp, rfl, hr3, hmp, hnp⟩ := hrel
            obtain ⟨wi, rfl⟩ : ∃ u, u = wr := ⟨_, rfl⟩
            by_cases hlp : p < wn
            · obtain ⟨AW, ⟨yx, ym, yh⟩, hqY, hY, hcY⟩ := (hwo.out.below hr3.out (Nat.le_refl _)).at hlp
              subst hqY
              have hcellY : Hid (∀ j' v, ([.int .i64 yx, .int .i64 ym, .int .i64 yh] : List Value)[j']? = some v → wi.cell? ((AW.add (p * 3)).add j') = some v) := fun j' v hj => hcY j' v hj
              have sy := sizeWait (.int .i64 yx) (.int .i64 ym) (.int .i64 yh)
              have hY' := Lib.hid hY
              have p0' : (0 : Int) ≤ p := by omega
              have p1' : (p : Int) < wn := by omega
              obtain ⟨WY, hWY⟩ : ∃ W', wi.alloc (.cells #[.int .i64 yx, .int .i64 ym, .int .i64 yh] 47) = W' := ⟨_, rfl⟩
              have hbY := Lib.hid (one_box (xs := [.int .i64 yx, .int .i64 ym, .int .i64 yh]) hWY)
              have hbYW := Lib.hid (below_step hbY.out.1 hr3.out)
              have hmY := Lib.hid (hmp.out.block (hbY.out.1.block _ hmp.out.lt))
              have z0 := hbY.out.2.1.cell 0 rfl
              clear hY hcY
              by_cases hin : yx ∈ txL (L.take K) ++ (ws.take p).map (·.x)
              · have hfin : Hid (b = false) := no_b hb'.out (fun f => tx_twice f.nodup hx'.out hY'.out hin)
                have hmt := Lib.hid (metF_in hin)
                clear hin
                go_wp2_with (first
                  | (with_reducible refine wpList_load_at rfl 47 (.tmp 47) rfl Tryz.underlying47 rfl sy rfl hcellY.out ?_)
                  | ((with_reducible refine wpList_lookup_i rfl (.tmp 49) (.tmp 51) 73 rfl Tryz.underlying73 Tryz.underlying3 (zero_bool _) rfl rfl hmY.out ?_)
                     simp only [hmt.out, Option.getD_some]))
                go_ret
                exact ⟨ret_b hfin.out.symm, below_step hbYW.out hbx.out.1⟩
              · have hmt := Lib.hid (metF_out hin)
                have hnx : Hid ((txL (L.take K) ++ (ws.take (p + 1)).map (·.x)).Nodup) := by
                  show List.Nodup _
                  rw [take_map_next hY'.out, ← List.append_assoc]
                  exact List.nodup_append.2 ⟨hnp.out, by simp, fun a ha b hb => by rw [List.mem_singleton.1 hb]; exact fun e => hin (by have e2 : a = yx := e; rw [← e2]; exact ha)⟩
                clear hin
                go_wp2_with (first
                  | (with_reducible refine wpList_load_at rfl 47 (.tmp 47) rfl Tryz.underlying47 rfl sy rfl hcellY.out ?_)
                  | ((with_reducible refine wpList_lookup_i rfl (.tmp 49) (.tmp 51) 73 rfl Tryz.underlying73 Tryz.underlying3 (zero_bool _) rfl rfl hmY.out ?_)
                     simp only [hmt.out, Option.getD_none])
                  | ((with_reducible refine wpList_update_i rfl (.tmp 53) (.tmp 55) (.const (.bool true)) 73 rfl Tryz.underlying73 Tryz.underlying3 rfl rfl rfl hmY.out ?_)
                     intro w3 h3 hg3
                     have hm3 := Lib.hid h3
                     have hg3' := Lib.hid hg3
                     clear h3 hg3 z0))
                obtain ⟨cx, hmx⟩ : ∃ cx, Hid (IMap .i64 w3 W.heap.size cx (metF (txL (L.take K) ++ (ws.take (p + 1)).map (·.x)))) := ⟨_, Lib.hid (by
                  have h := hm3.out
                  rw [take_map_next hY'.out, ← List.append_assoc, metF_snoc]
                  exact h)⟩
                go_roundw
                case rel =>
                  refine ⟨_, _, _, _, _, _, _, _, _, _, _, _, _, _, ⟨p + 1, cx, by omega, by go_num, low_step hbYW.out hg3'.out (Nat.le_refl _), hmx.out, hnx.out⟩, rfl⟩
                case measure => simp [intOf]; omega
            · obtain rfl : wn = p := by omega
              have hall : Hid (txL (L.take K) ++ (ws.take wn).map (·.x) = txL (L.take (K + 1))) := by
                show _ = _
                rw [txL_take hx'.out, List.take_of_length_le (Nat.le_of_eq hwl.out)]
              have hmf := Lib.hid hmp.out
              rw [hall.out] at hmf hnp
              go_wp2
              go_roundw
              case rel => exact ⟨K + 1, _, by omega, by go_num, hr3.out, hst.out, hmf.out, hnp.out⟩
              case measure => simp [intOf]; omega
        · obtain ⟨m, rfl⟩ : ∃ m, K = m + 1 := ⟨K - 1, by omega⟩
          obtain ⟨A', ⟨⟨pt, pk, pi⟩, phq, phn, phc, pwq, pwn, pwc⟩, ⟨pres, phs, pws⟩, hqA', _, hLp, honp, hcp⟩ := (hh.out.below hBA.out (Nat.le_refl _)).at (show m < n by omega)
          cases hqA'
          have hresp : pres = ⟨pt, pk, pi⟩ := honp.res.symm
          subst hresp
          have hy' := Lib.hid hLp
          have hidp := Lib.hid honp.ok
          have p0 : WA.cell? (A.add (m * 5)) = some (.int .i64 pt) := by have h := hcp 0 _ rfl; rwa [add0] at h
          have p1 : WA.cell? ⟨(A.add (m * 5)).block, (A.add (m * 5)).off + 1, none⟩ = some (.bool pk) := hcp 1 _ rfl
          have p2 : WA.cell? ⟨(A.add (m * 5)).block, (A.add (m * 5)).off + 2, none⟩ = some (.int .u16 pi) := hcp 2 _ rfl
          have w0 : IntKind.i64.wrap ((m : Int) + 1 - 1) = m := by rw [Int.add_sub_cancel]; exact IntWalk.i64_in (m : Int) (by omega)
          have w1' : IntKind.i64.wrap (m : Int) = m := IntWalk.i64_in (m : Int) (by omega)
          have j0 : (0 : Int) ≤ m := by omega
          have j1 : (m : Int) < n := by omega
          have hpos' : (0 : Int) < (m : Int) + 1 := by omega
          have hpf := hr.out.fit m _ (by omega) hy'.out
          have r1 := resB_t hpf.res
          have r2 := resB_t hqf.out.res
          simp only at r1 r2
          obtain ⟨o1, ho1'⟩ : ∃ o1, ordI ⟨pt, pk, pi⟩ = o1 := ⟨_, rfl⟩
          obtain ⟨o2, ho2'⟩ : ∃ o2, ordI ⟨at_, ak, ai⟩ = o2 := ⟨_, rfl⟩
          have ho1 := Lib.hid (fun u => rorder_any pt pk pi u o1 ho1' r1.1 r1.2 hidp.out.1 hidp.out.2)
          have ho2 := Lib.hid (fun u => rorder_any at_ ak ai u o2 ho2' r2.1 r2.2 hidx.out.1 hidx.out.2)
          have hcmp : Hid (o1 < o2 ↔ cmpR ⟨pt, pk, pi⟩ ⟨at_, ak, ai⟩ < 0) := by rw [← ho1', ← ho2']; exact ordI_lt hidp.out hidx.out
          clear hcp hLp honp hpf r1 r2 ho1' ho2'
          by_cases hge : o1 ≥ o2
          · have hfin : Hid (b = false) := no_b hb'.out (fun f => by have h := hcmp.out.2 (f.ord m _ _ hy'.out hx'.out); omega)
            have hD : Hid (∀ u, Below WA.heap.size WA u → u.cell? ⟨B, 0, none⟩ = some (.int .i64 at_) ∧ u.cell? ⟨B, 1, none⟩ = some (.bool ak) ∧ u.cell? ⟨B, 2, none⟩ = some (.int .u16 ai) ∧ u.cell? ⟨B, 3, none⟩ = some (.slice hq hn' hc) ∧ u.cell? ⟨B, 4, none⟩ = some (.slice wq wn wc) ∧ u.cell? ⟨w.heap.size, 0, none⟩ = some (.slice (some A) n c) ∧ u.cell? (A.add (m * 5)) = some (.int .i64 pt) ∧ u.cell? ⟨(A.add (m * 5)).block, (A.add (m * 5)).off + 1, none⟩ = some (.bool pk) ∧ u.cell? ⟨(A.add (m * 5)).block, (A.add (m * 5)).off + 2, none⟩ = some (.int .u16 pi)) := fun u hu => ⟨(hbB.out.below hu (Nat.le_refl _)).cell 0 rfl, (hbB.out.below hu (Nat.le_refl _)).cell 1 rfl, (hbB.out.below hu (Nat.le_refl _)).cell 2 rfl, (hbB.out.below hu (Nat.le_refl _)).cell 3 rfl, (hbB.out.below hu (Nat.le_refl _)).cell 4 rfl, (hqx.out.below hu (Nat.le_refl _)).cell 0 rfl, cell_kept hu (Nat.le_refl _) p0, cell_kept hu (Nat.le_refl _) p1, cell_kept hu (Nat.le_refl _) p2⟩
            refine wp_region_held (S := fun u => Below WA.heap.size WA u) (by kernel_rfl) ?_
            change wpAnyH _ _ _ _ _ _ _ _ (World.drew WA)
            have hS0 : Below WA.heap.size WA WA.drew := below_drew _
            refine held_tk (i := 0) (dst := some 21) (v := .agg #[.int .i64 at_, .bool ak, .int .u16 ai, .slice hq hn' hc, .slice wq wn wc]) rfl rfl (.inl ⟨rfl, fun u hu => by obtain ⟨e0, e1, e2, e3, e4, b0, p0, p1, p2⟩ := hD.out u hu; go_simp⟩) hS0 ?_
            go_frame
            refine held_call (i := 1) (dst := some 22) rfl rfl (by kernel_rfl) rfl (by go_simp) (hcm.out _ hS0) ?_
            rintro e u1 ⟨rfl, hb1⟩
            have hS1 := below_step hb1 hS0
            refine ⟨_, rfl, hS1, ?_⟩
            go_frame
            refine held_tk (i := 2) (dst := some 23) (v := .bool false) rfl rfl (.inl ⟨rfl, fun u hu => by obtain ⟨e0, e1, e2, e3, e4, b0, p0, p1, p2⟩ := hD.out u hu; go_simp⟩) hS1 ?_
            go_frame
            refine held_tk (i := 3) (dst := some 24) (v := .bool false) rfl rfl (y_move (.tmp 23) rfl rfl rfl) hS1 ?_
            go_frame
            refine held_tk (i := 4) (dst := some 25) rfl rfl (y_move (.tmp 4) rfl rfl rfl) hS1 ?_
            go_frame
            refine held_tk (i := 5) (dst := some 26) (v := .bool true) rfl rfl (.inl ⟨rfl, fun u hu => by obtain ⟨e0, e1, e2, e3, e4, b0, p0, p1, p2⟩ := hD.out u hu; go_simp⟩) hS1 ?_
            go_frame
            refine held_tk (i := 6) (dst := some 27) (v := .bool true) rfl rfl (y_move (.tmp 26) rfl rfl rfl) hS1 ?_
            go_frame
            refine held_tk (i := 7) (dst := some 28) (v := .pointer (some ⟨w.heap.size, 0, none⟩)) rfl rfl (.inl ⟨rfl, fun u hu => by obtain ⟨e0, e1, e2, e3, e4, b0, p0, p1, p2⟩ := hD.out u hu; go_simp⟩) hS1 ?_
            go_frame
            refine held_tk (i := 8) (dst := some 29) (v := .slice (some A) n c) rfl rfl (.inl ⟨rfl, fun u hu => by obtain ⟨e0, e1, e2, e3, e4, b0, p0, p1, p2⟩ := hD.out u hu; go_simp⟩) hS1 ?_
            go_frame
            refine held_tk (i := 9) (dst := some 30) rfl rfl (y_move (.tmp 4) rfl rfl rfl) hS1 ?_
            go_frame
            refine held_tk (i := 10) (dst := some 31) (v := .int .i64 (m : Int)) rfl rfl (.inl ⟨rfl, fun u hu => by obtain ⟨e0, e1, e2, e3, e4, b0, p0, p1, p2⟩ := hD.out u hu; go_simp⟩) hS1 ?_
            go_frame
            refine held_tk (i := 11) (dst := some 32) (v := .pointer (some (A.add (m * 5)))) rfl rfl (.inl ⟨rfl, fun u hu => by obtain ⟨e0, e1, e2, e3, e4, b0, p0, p1, p2⟩ := hD.out u hu; go_simp⟩) hS1 ?_
            go_frame
            refine held_tk (i := 12) (dst := some 33) (v := .pointer (some (A.add (m * 5)))) rfl rfl (.inl ⟨rfl, fun u hu => by obtain ⟨e0, e1, e2, e3, e4, b0, p0, p1, p2⟩ := hD.out u hu; go_simp⟩) hS1 ?_
            go_frame
            refine held_tk (i := 13) (dst := some 34) (v := .agg #[.int .i64 pt, .bool pk, .int .u16 pi]) rfl rfl (.inl ⟨rfl, fun u hu => by obtain ⟨e0, e1, e2, e3, e4, b0, p0, p1, p2⟩ := hD.out u hu; go_simp⟩) hS1 ?_
            go_frame
            refine held_tk (i := 15) (dst := some 36) (v := .pointer (some ⟨B, 0, none⟩)) rfl rfl (.inl ⟨rfl, fun u hu => by obtain ⟨e0, e1, e2, e3, e4, b0, p0, p1, p2⟩ := hD.out u hu; go_simp⟩) hS1 ?_
            go_frame
            refine held_tk (i := 16) (dst := some 37) (v := .agg #[.int .i64 at_, .bool ak, .int .u16 ai]) rfl rfl (.inl ⟨rfl, fun u hu => by obtain ⟨e0, e1, e2, e3, e4, b0, p0, p1, p2⟩ := hD.out u hu; go_simp⟩) hS1 ?_
            go_frame
            refine held_call (i := 14) (dst := some 35) rfl rfl (by kernel_rfl) rfl (by go_simp) (ho1.out _) ?_
            rintro e u2 ⟨rfl, hb2⟩
            have hS2 := below_step hb2 hS1
            refine ⟨_, rfl, hS2, ?_⟩
            go_frame
            refine held_call (i := 17) (dst := some 38) rfl rfl (by kernel_rfl) rfl (by go_simp) (ho2.out _) ?_
            rintro e u3 ⟨rfl, hb3⟩
            have hS3 := below_step hb3 hS2
            refine ⟨_, rfl, hS3, ?_⟩
            go_frame
            refine held_tk (i := 18) (dst := some 39) (v := .bool true) rfl rfl (.inl ⟨rfl, fun u hu => by obtain ⟨e0, e1, e2, e3, e4, b0, p0, p1, p2⟩ := hD.out u hu; go_simp⟩) hS3 ?_
            go_frame
            refine held_tk (i := 19) (dst := some 40) (v := .bool true) rfl rfl (.inl ⟨rfl, fun u hu => by obtain ⟨e0, e1, e2, e3, e4, b0, p0, p1, p2⟩ := hD.out u hu; go_simp⟩) hS3 ?_
            go_frame
            refine held_tk (i := 20) (dst := some 41) (v := .bool true) rfl rfl (.inl ⟨rfl, fun u hu => by obtain ⟨e0, e1, e2, e3, e4, b0, p0, p1, p2⟩ := hD.out u hu; go_simp⟩) hS3 ?_
            go_frame
            refine wpAnyH_done (by kernel_rfl) ?_ _
            have hS9 := Lib.hid (below_step (below_step hS3 hBA.out) hbx.out.1)
            go_wp2
            go_ret
            exact ⟨ret_b hfin.out.symm, hS9.out⟩
          · have hlt' : ¬ o2 ≤ o1 := hge
            have hlc : Hid (cmpR ⟨pt, pk, pi⟩ ⟨at_, ak, ai⟩ < 0) := hcmp.out.1 (by omega)
            have hD : Hid (∀ u, Below WA.heap.size WA u → u.cell? ⟨B, 0, none⟩ = some (.int .i64 at_) ∧ u.cell? ⟨B, 1, none⟩ = some (.bool ak) ∧ u.cell? ⟨B, 2, none⟩ = some (.int .u16 ai) ∧ u.cell? ⟨B, 3, none⟩ = some (.slice hq hn' hc) ∧ u.cell? ⟨B, 4, none⟩ = some (.slice wq wn wc) ∧ u.cell? ⟨w.heap.size, 0, none⟩ = some (.slice (some A) n c) ∧ u.cell? (A.add (m * 5)) = some (.int .i64 pt) ∧ u.cell? ⟨(A.add (m * 5)).block, (A.add (m * 5)).off + 1, none⟩ = some (.bool pk) ∧ u.cell? ⟨(A.add (m * 5)).block, (A.add (m * 5)).off + 2, none⟩ = some (.int .u16 pi)) := fun u hu => ⟨(hbB.out.below hu (Nat.le_refl _)).cell 0 rfl, (hbB.out.below hu (Nat.le_refl _)).cell 1 rfl, (hbB.out.below hu (Nat.le_refl _)).cell 2 rfl, (hbB.out.below hu (Nat.le_refl _)).cell 3 rfl, (hbB.out.below hu (Nat.le_refl _)).cell 4 rfl, (hqx.out.below hu (Nat.le_refl _)).cell 0 rfl, cell_kept hu (Nat.le_refl _) p0, cell_kept hu (Nat.le_refl _) p1, cell_kept hu (Nat.le_refl _) p2⟩
            refine wp_region_held (S := fun u => Below WA.heap.size WA u) (by kernel_rfl) ?_
            change wpAnyH _ _ _ _ _ _ _ _ (World.drew WA)
            have hS0 : Below WA.heap.size WA WA.drew := below_drew _
            refine held_tk (i := 0) (dst := some 21) (v := .agg #[.int .i64 at_, .bool ak, .int .u16 ai, .slice hq hn' hc, .slice wq wn wc]) rfl rfl (.inl ⟨rfl, fun u hu => by obtain ⟨e0, e1, e2, e3, e4, b0, p0, p1, p2⟩ := hD.out u hu; go_simp⟩) hS0 ?_
            go_frame
            refine held_call (i := 1) (dst := some 22) rfl rfl (by kernel_rfl) rfl (by go_simp) (hcm.out _ hS0) ?_
            rintro e u1 ⟨rfl, hb1⟩
            have hS1 := below_step hb1 hS0
            refine ⟨_, rfl, hS1, ?_⟩
            go_frame
            refine held_tk (i := 2) (dst := some 23) (v := .bool false) rfl rfl (.inl ⟨rfl, fun u hu => by obtain ⟨e0, e1, e2, e3, e4, b0, p0, p1, p2⟩ := hD.out u hu; go_simp⟩) hS1 ?_
            go_frame
            refine held_tk (i := 3) (dst := some 24) (v := .bool false) rfl rfl (y_move (.tmp 23) rfl rfl rfl) hS1 ?_
            go_frame
            refine held_tk (i := 4) (dst := some 25) rfl rfl (y_move (.tmp 4) rfl rfl rfl) hS1 ?_
            go_frame
            refine held_tk (i := 5) (dst := some 26) (v := .bool true) rfl rfl (.inl ⟨rfl, fun u hu => by obtain ⟨e0, e1, e2, e3, e4, b0, p0, p1, p2⟩ := hD.out u hu; go_simp⟩) hS1 ?_
            go_frame
            refine held_tk (i := 6) (dst := some 27) (v := .bool true) rfl rfl (y_move (.tmp 26) rfl rfl rfl) hS1 ?_
            go_frame
            refine held_tk (i := 7) (dst := some 28) (v := .pointer (some ⟨w.heap.size, 0, none⟩)) rfl rfl (.inl ⟨rfl, fun u hu => by obtain ⟨e0, e1, e2, e3, e4, b0, p0, p1, p2⟩ := hD.out u hu; go_simp⟩) hS1 ?_
            go_frame
            refine held_tk (i := 8) (dst := some 29) (v := .slice (some A) n c) rfl rfl (.inl ⟨rfl, fun u hu => by obtain ⟨e0, e1, e2, e3, e4, b0, p0, p1, p2⟩ := hD.out u hu; go_simp⟩) hS1 ?_
            go_frame
            refine held_tk (i := 9) (dst := some 30) rfl rfl (y_move (.tmp 4) rfl rfl rfl) hS1 ?_
            go_frame
            refine held_tk (i := 10) (dst := some 31) (v := .int .i64 (m : Int)) rfl rfl (.inl ⟨rfl, fun u hu => by obtain ⟨e0, e1, e2, e3, e4, b0, p0, p1, p2⟩ := hD.out u hu; go_simp⟩) hS1 ?_
            go_frame
            refine held_tk (i := 11) (dst := some 32) (v := .pointer (some (A.add (m * 5)))) rfl rfl (.inl ⟨rfl, fun u hu => by obtain ⟨e0, e1, e2, e3, e4, b0, p0, p1, p2⟩ := hD.out u hu; go_simp⟩) hS1 ?_
            go_frame
            refine held_tk (i := 12) (dst := some 33) (v := .pointer (some (A.add (m * 5)))) rfl rfl (.inl ⟨rfl, fun u hu => by obtain ⟨e0, e1, e2, e3, e4, b0, p0, p1, p2⟩ := hD.out u hu; go_simp⟩) hS1 ?_
            go_frame
            refine held_tk (i := 13) (dst := some 34) (v := .agg #[.int .i64 pt, .bool pk, .int .u16 pi]) rfl rfl (.inl ⟨rfl, fun u hu => by obtain ⟨e0, e1, e2, e3, e4, b0, p0, p1, p2⟩ := hD.out u hu; go_simp⟩) hS1 ?_
            go_frame
            refine held_tk (i := 15) (dst := some 36) (v := .pointer (some ⟨B, 0, none⟩)) rfl rfl (.inl ⟨rfl, fun u hu => by obtain ⟨e0, e1, e2, e3, e4, b0, p0, p1, p2⟩ := hD.out u hu; go_simp⟩) hS1 ?_
            go_frame
            refine held_tk (i := 16) (dst := some 37) (v := .agg #[.int .i64 at_, .bool ak, .int .u16 ai]) rfl rfl (.inl ⟨rfl, fun u hu => by obtain ⟨e0, e1, e2, e3, e4, b0, p0, p1, p2⟩ := hD.out u hu; go_simp⟩) hS1 ?_
            go_frame
            refine held_call (i := 14) (dst := some 35) rfl rfl (by kernel_rfl) rfl (by go_simp) (ho1.out _) ?_
            rintro e u2 ⟨rfl, hb2⟩
            have hS2 := below_step hb2 hS1
            refine ⟨_, rfl, hS2, ?_⟩
            go_frame
            refine held_call (i := 17) (dst := some 38) rfl rfl (by kernel_rfl) rfl (by go_simp) (ho2.out _) ?_
            rintro e u3 ⟨rfl, hb3⟩
            have hS3 := below_step hb3 hS2
            refine ⟨_, rfl, hS3, ?_⟩
            go_frame
            refine held_tk (i := 18) (dst := some 39) (v := .bool false) rfl rfl (.inl ⟨rfl, fun u hu => by obtain ⟨e0, e1, e2, e3, e4, b0, p0, p1, p2⟩ := hD.out u hu; go_simp⟩) hS3 ?_
            go_frame
            refine held_tk (i := 19) (dst := some 40) (v := .bool false) rfl rfl (.inl ⟨rfl, fun u hu => by obtain ⟨e0, e1, e2, e3, e4, b0, p0, p1, p2⟩ := hD.out u hu; go_simp⟩) hS3 ?_
            go_frame
            refine held_tk (i := 20) (dst := some 41) (v := .bool false) rfl rfl (.inl ⟨rfl, fun u hu => by obtain ⟨e0, e1, e2, e3, e4, b0, p0, p1, p2⟩ := hD.out u hu; go_simp⟩) hS3 ?_
            go_frame
            refine wpAnyH_done (by kernel_rfl) ?_ _
            have hS9 := Lib.hid (below_step hS3 hBA.out)
            have hst : Hid (ChkR L ((m + 1) + 1)) := hr.out.step hx'.out hqf.out (fun j p hj hp => by
              obtain rfl : j = m := by omega
              rw [hy'.out] at hp
              cases hp
              exact hlc.out)
            have hm9 := Lib.hid (hmap.out.block ((below_step hS3 hbA.out.1).block _ (hmap.out.lt)))
            have f4 := (hbB.out.below hS3 (Nat.le_refl _)).cell 4 rfl
            clear w0 w1' p0 p1 p2
            go_wp2
            clear f4
            have hwn' := hwn.out
            go_loopw [45] (fun v45 wr => ∃ (p cn : Nat), p ≤ wn ∧ v45 = .int .i64 p ∧ Hid (Below W.heap.size W wr) ∧ Hid (IMap .i64 wr W.heap.size cn (metF (txL (L.take (m + 1)) ++ (ws.take p).map (·.x)))) ∧ Hid ((txL (L.take (m + 1)) ++ (ws.take p).map (·.x)).Nodup)) (fun v45 _ => wn - (intOf v45).toNat)
            case atStart => exact ⟨0, cn, Nat.zero_le _, rfl, hS9.out, Lib.hid (by have h := hm9.out; simpa using h), Lib.hid (by have h := hnd.out; simpa using h)⟩
            case round =>
              obtain ⟨p, cp, hp, rfl, hr3, hmp, hnp⟩ := hrel
              obtain ⟨wi, rfl⟩ : ∃ u, u = wr := ⟨_, rfl⟩
              by_cases hlp : p < wn
              · obtain ⟨AW, ⟨yx, ym, yh⟩, hqY, hY, hcY⟩ := (hwo.out.below hr3.out (Nat.le_refl _)).at hlp
                subst hqY
                have hcellY : Hid (∀ j' v, ([.int .i64 yx, .int .i64 ym, .int .i64 yh] : List Value)[j']? = some v → wi.cell? ((AW.add (p * 3)).add j') = some v) := fun j' v hj => hcY j' v hj
                have sy := sizeWait (.int .i64 yx) (.int .i64 ym) (.int .i64 yh)
                have hY' := Lib.hid hY
                have p0' : (0 : Int) ≤ p := by omega
                have p1' : (p : Int) < wn := by omega
                obtain ⟨WY, hWY⟩ : ∃ W', wi.alloc (.cells #[.int .i64 yx, .int .i64 ym, .int .i64 yh] 47) = W' := ⟨_, rfl⟩
                have hbY := Lib.hid (one_box (xs := [.int .i64 yx, .int .i64 ym, .int .i64 yh]) hWY)
                have hbYW := Lib.hid (below_step hbY.out.1 hr3.out)
                have hmY := Lib.hid (hmp.out.block (hbY.out.1.block _ hmp.out.lt))
                have z0 := hbY.out.2.1.cell 0 rfl
                clear hY hcY
                by_cases hin : yx ∈ txL (L.take (m + 1)) ++ (ws.take p).map (·.x)
                · have hfin : Hid (b = false) := no_b hb'.out (fun f => tx_twice f.nodup hx'.out hY'.out hin)
                  have hmt := Lib.hid (metF_in hin)
                  clear hin
                  go_wp2_with (first
                    | (with_reducible refine wpList_load_at rfl 47 (.tmp 47) rfl Tryz.underlying47 rfl sy rfl hcellY.out ?_)
                    | ((with_reducible refine wpList_lookup_i rfl (.tmp 49) (.tmp 51) 73 rfl Tryz.underlying73 Tryz.underlying3 (zero_bool _) rfl rfl hmY.out ?_)
                       simp only [hmt.out, Option.getD_some]))
                  go_ret
                  exact ⟨ret_b hfin.out.symm, below_step hbYW.out hbx.out.1⟩
                · have hmt := Lib.hid (metF_out hin)
                  have hnx : Hid ((txL (L.take (m + 1)) ++ (ws.take (p + 1)).map (·.x)).Nodup) := by
                    show List.Nodup _
                    rw [take_map_next hY'.out, ← List.append_assoc]
                    exact List.nodup_append.2 ⟨hnp.out, by simp, fun a ha b hb => by rw [List.mem_singleton.1 hb]; exact fun e => hin (by have e2 : a = yx := e; rw [← e2]; exact ha)⟩
                  clear hin
                  go_wp2_with (first
                    | (with_reducible refine wpList_load_at rfl 47 (.tmp 47) rfl Tryz.underlying47 rfl sy rfl hcellY.out ?_)
                    | ((with_reducible refine wpList_lookup_i rfl (.tmp 49) (.tmp 51) 73 rfl Tryz.underlying73 Tryz.underlying3 (zero_bool _) rfl rfl hmY.out ?_)
                       simp only [hmt.out, Option.getD_none])
                    | ((with_reducible refine wpList_update_i rfl (.tmp 53) (.tmp 55) (.const (.bool true)) 73 rfl Tryz.underlying73 Tryz.underlying3 rfl rfl rfl hmY.out ?_)
                       intro w3 h3 hg3
                       have hm3 := Lib.hid h3
                       have hg3' := Lib.hid hg3
                       clear h3 hg3 z0))
                  obtain ⟨cx, hmx⟩ : ∃ cx, Hid (IMap .i64 w3 W.heap.size cx (metF (txL (L.take (m + 1)) ++ (ws.take (p + 1)).map (·.x)))) := ⟨_, Lib.hid (by
                    have h := hm3.out
                    rw [take_map_next hY'.out, ← List.append_assoc, metF_snoc]
                    exact h)⟩
                  go_roundw
                  case rel =>
                    refine ⟨p + 1, cx, by omega, by go_num, low_step hbYW.out hg3'.out (Nat.le_refl _), hmx.out, hnx.out⟩
                  case measure => simp [intOf]; omega
              · obtain rfl : wn = p := by omega
                have hall : Hid (txL (L.take (m + 1)) ++ (ws.take wn).map (·.x) = txL (L.take ((m + 1) + 1))) := by
                  show _ = _
                  rw [txL_take hx'.out, List.take_of_length_le (Nat.le_of_eq hwl.out)]
                have hmf := Lib.hid hmp.out
                rw [hall.out] at hmf hnp
                go_wp2
                go_roundw
                case rel => exact ⟨(m + 1) + 1, _, by omega, by go_num, hr3.out, hst.out, hmf.out, hnp.out⟩
                case measure => simp [intOf]; omega
    · obtain rfl : n = K := by omega
      have hfin : Hid (b = true) := hb'.out.2 (hr.out.done hll.out hn (by have h := hnd.out; rwa [List.take_of_length_le (Nat.le_of_eq hll.out)] at h))
      go_wp2
      go_ret
      exact ⟨ret_b hfin.out.symm, below_step hbr.out hbx.out.1⟩
end Go.Proofs.YtbgpppbcffpdbaaGreatDoor

/-! wakes of the laws on locks. -/
namespace Go.Proofs.YtbgpppbcffpdbaaGreatDoor
open Go.RowKit

def kK : ResD := ⟨0, true, 7⟩
def wL1 : List QueD := [⟨kK, [⟨1, 3⟩], []⟩]
def wL2 : List QueD := [⟨kK, [⟨1, 3⟩, ⟨2, 3⟩], []⟩]
def wL3 : List QueD := [⟨kK, [⟨1, 3⟩, ⟨2, 3⟩], [⟨1, 5, 3⟩]⟩]
def wL4 : List QueD := [⟨kK, [⟨1, 5⟩], []⟩]
theorem kK_ok : kK.ok := ⟨by decide, by decide⟩
theorem chk0 : ChkOk [] := ⟨by decide, by simp [txL], fun d hd => (by cases hd), fun j p a h => (by simp at h)⟩
theorem askE_of {L : List QueD} {x m : Int} (h : ChkOk L) (h1 : txnB x = true) (h2 : modB true m = true) (h3 : x ∉ txL L) : AskE L x kK m 0 := .inr ⟨.inr (.inr ⟨h, h1, rfl⟩), .inr (.inr ⟨rfl, h2, .inr ⟨nowait_iff.2 h3, rfl⟩⟩)⟩
theorem wE1 : AskE [] 1 kK 3 0 := askE_of chk0 (by decide) (by decide) (by simp [txL])
theorem wF1 : askF [] 1 kK 3 = (wL1, 2, 0) := by decide +kernel
theorem wA1 : AskOk [] 1 kK 3 wL1 2 := ask_ok wE1 (fun d hd => (by cases hd)) kK_ok wF1
theorem wE2 : AskE wL1 2 kK 3 0 := askE_of wA1.chk (by decide) (by decide) (by decide)
theorem wF2 : askF wL1 2 kK 3 = (wL2, 2, 0) := by decide +kernel
theorem wA2 : AskOk wL1 2 kK 3 wL2 2 := ask_ok wE2 wA1.ok kK_ok wF2
theorem wE3 : AskE wL2 1 kK 6 0 := askE_of wA2.chk (by decide) (by decide) (by decide)
theorem wF3 : askF wL2 1 kK 6 = (wL3, 3, 0) := by decide +kernel
theorem wA3 : AskOk wL2 1 kK 6 wL3 3 := ask_ok wE3 wA2.ok kK_ok wF3
theorem wE4 : AskE [] 1 kK 5 0 := askE_of chk0 (by decide) (by decide) (by simp [txL])
theorem wF4 : askF [] 1 kK 5 = (wL4, 2, 0) := by decide +kernel
theorem wA4 : AskOk [] 1 kK 5 wL4 2 := ask_ok wE4 (fun d hd => (by cases hd)) kK_ok wF4
theorem wB3 : BlockR wL3 1 [2] := .inr (.inr ⟨wA3.chk, ⟨kK, [⟨1, 3⟩, ⟨2, 3⟩], [⟨1, 5, 3⟩]⟩, by decide +kernel, by
  unfold blkOf
  have h : preB ⟨kK, [⟨1, 3⟩, ⟨2, 3⟩], [⟨1, 5, 3⟩]⟩ 1 = [2] := by decide +kernel
  rw [h, List.mergeSort_singleton]
  decide⟩)
theorem wR3 : RelR wL3 2 wL4 [1] 0 := .inr ⟨.inr (.inr ⟨wA3.chk, by decide, rfl⟩), rfl, by decide +kernel, by decide +kernel⟩
theorem wM4 : ModeE wL4 1 kK 5 := .inr ⟨wA4.chk, by decide +kernel⟩
theorem sm_of {L : List QueD} (h : ∀ d ∈ L, d.hs.length ≤ 9 ∧ d.ws.length ≤ 9) : Sm L := fun d hd => ⟨Nat.le_trans (h d hd).1 (by decide), Nat.le_trans (h d hd).2 (by decide)⟩
theorem own_one {w : World} {B n c : Nat} {q : Option Addr} {x : Int} (h : OwnS 3 w B (.slice q n c) [x]) : n = 1 ∧ ∃ g, q = some ⟨g, 0, none⟩ ∧ w.cell? ⟨g, 0, none⟩ = some (.int .i64 x) := by
  have hl := h.len
  refine ⟨hl, ?_⟩
  cases q with
  | none =>
    have h1 := h.nil_cap.1
    rw [hl] at h1
    cases h1
  | some a =>
    have hr := h.reads
    obtain ⟨g, cur, rfl, _⟩ := h.opened
    obtain ⟨a', r, e, h1, h2⟩ := hr.at (i := 0) (by rw [hl]; exact Nat.one_pos)
    cases e
    simp at h1
    subst h1
    exact ⟨g, rfl, h2 0 _ rfl⟩

set_option maxRecDepth 100000 in
set_option maxHeartbeats 4000000 in
theorem wakes_any (w : World) (hL : Lay w) : Calls Tryz.prog 9 #[] w (fun e w' => e = .returned (.bool true) ∧ Below w.heap.size w w') := by
  obtain ⟨W, hW⟩ : ∃ W, w.alloc (.cells #[.int .i64 0, .bool true, .int .u16 7] 30) = W := ⟨_, rfl⟩
  have hb0 := Lib.hid (one_box (xs := [.int .i64 0, .bool true, .int .u16 7]) hW)
  have hLa := Lib.hid hL
  have s3 := sizeRes (.int .i64 0) (.bool true) (.int .u16 7)
  have hS : Hid (∀ u, Below W.heap.size W u → Lay u) := fun u hu => ⟨hLa.out.goes (below_step hu hb0.out.1), hLa.out.cov (below_step hu hb0.out.1)⟩
  have hz0 : Hid (w.heap.size < W.heap.size) := by show _ < _; have := hb0.out.2.2; omega
  have ha1 := Lib.hid (ask_any none 0 0 [] [] 1 0 true 7 3 wL1 2 0 (.inr ⟨wE1, wF1⟩) W (hS.out _ (Below.refl _ _)) ⟨SlOn.none_ _, rfl, fun i v d h => (by simp at h)⟩ (sm_of (fun d hd => (by cases hd))) (by decide) (by decide) (by decide))
  clear hL
  go_enter Tryz.func9, Tryz.ntmps9
  go_wp2_with (first
    | (with_reducible refine wpList_load_at rfl 30 (.tmp 1) rfl Tryz.underlying30 rfl s3 rfl hb0.out.2.1.all ?_))
  refine ha1.out.mono ?_
  rintro e u1 ⟨q1, n1, c1, V1, rfl, k1, b1⟩
  have hk1 := Lib.hid k1
  have hb1 := Lib.hid b1
  obtain ⟨u2, hu2⟩ : ∃ u, u1.alloc (.cells #[.slice q1 n1 c1] 24) = u := ⟨_, rfl⟩
  have hx2 := Lib.hid (one_box (xs := [.slice q1 n1 c1]) hu2)
  have r2 : Hid (RowV 24 u2 u1.heap.size [.slice q1 n1 c1]) := RowV.made' (cs := [.slice q1 n1 c1]) hu2
  have hb2 := Lib.hid (below_step hx2.out.1 b1)
  have hk2 := Lib.hid (hk1.out.below hx2.out.1)
  have x2 := Lib.hid (hb0.out.2.1.below hb2.out (Nat.le_refl _))
  have t2 := sizeLks (.slice q1 n1 c1)
  have hs2 : Hid (u1.heap.size < u2.heap.size) := by show _ < _; have := hx2.out.2.2; omega
  have hlow1 : Hid (W.heap.size ≤ u1.heap.size) := b1.size
  have ha2 := Lib.hid (ask_any q1 n1 c1 V1 wL1 2 0 true 7 3 wL2 2 0 (.inr ⟨wE2, wF2⟩) u2 (hS.out _ hb2.out) hk2.out.lk (sm_of (by decide)) (by have := hk2.out.len; have h : wL1.length = 1 := rfl; omega) (by decide) (by decide))
  clear k1 b1 hW ha1
  go_wp2_with (first
    | (with_reducible refine wpList_load_at rfl 24 (.tmp 2) rfl Tryz.underlying24 rfl t2 rfl r2.out.boxed.all ?_)
    | (with_reducible refine wpList_load_at rfl 30 (.tmp 1) rfl Tryz.underlying30 rfl s3 rfl x2.out.all ?_))
  clear hu2
  refine ha2.out.mono ?_
  rintro e u3 ⟨q3, n3, c3, V3, rfl, k3, b3⟩
  have hk3 := Lib.hid k3
  have hb3 := Lib.hid (below_step b3 hb2.out)
  have r3 := Lib.hid (r2.out.below b3)
  have t3 := sizeLks (.slice q3 n3 c3)
  have one3 : ∀ y ∈ ([.slice q3 n3 c3] : List Value), y.oneCell' = true := fun y hy => by obtain rfl := List.mem_singleton.1 hy; rfl
  clear k3 b3 ha2
  go_wp2_with (first
    | ((with_reducible refine wpList_store_at rfl 24 (.tmp 2) (.tmp 24) rfl (o := 0) (vs := [.slice q3 n3 c3]) rfl rfl r3.out t3 (Nat.le_refl _) one3 ?_)
       intro u4 h4 hg4
       have r4 : Hid (RowV 24 u4 u1.heap.size [.slice q3 n3 c3]) := h4
       have hb4 : Hid (Below W.heap.size W u4) := low_step hb3.out hg4 hlow1.out
       have hk4 := Lib.hid (hk3.out.gr hg4 hs2.out)
       have hs4 : Hid (u1.heap.size < u4.heap.size) := r4.out.lt
       have x4 := Lib.hid (hb0.out.2.1.below hb4.out (Nat.le_refl _))
       have ha3 := Lib.hid (ask_any q3 n3 c3 V3 wL2 1 0 true 7 6 wL3 3 0 (.inr ⟨wE3, wF3⟩) u4 (hS.out _ hb4.out) hk4.out.lk (sm_of (by decide)) (by have := hk4.out.len; have h : wL2.length = 1 := rfl; omega) (by decide) (by decide))
       clear h4 hg4)
    | (with_reducible refine wpList_load_at rfl 24 (.tmp 2) rfl Tryz.underlying24 rfl t3 rfl r4.out.boxed.all ?_)
    | (with_reducible refine wpList_load_at rfl 30 (.tmp 1) rfl Tryz.underlying30 rfl s3 rfl x4.out.all ?_))
  refine ha3.out.mono ?_
  rintro e u5 ⟨q5, n5, c5, V5, rfl, k5, b5⟩
  have hk5 := Lib.hid k5
  have hb5 := Lib.hid (below_step b5 hb4.out)
  have r5 := Lib.hid (r4.out.below b5)
  have t5 := sizeLks (.slice q5 n5 c5)
  have one5 : ∀ y ∈ ([.slice q5 n5 c5] : List Value), y.oneCell' = true := fun y hy => by obtain rfl := List.mem_singleton.1 hy; rfl
  clear k5 b5 ha3
  go_wp2_with (first
    | ((with_reducible refine wpList_store_at rfl 24 (.tmp 2) (.tmp 31) rfl (o := 0) (vs := [.slice q5 n5 c5]) rfl rfl r5.out t5 (Nat.le_refl _) one5 ?_)
       intro u6 h6 hg6
       have r6 : Hid (RowV 24 u6 u1.heap.size [.slice q5 n5 c5]) := h6
       have hb6 : Hid (Below W.heap.size W u6) := low_step hb5.out hg6 hlow1.out
       have hk6 := Lib.hid (hk5.out.gr hg6 hs4.out)
       have hs6 : Hid (u1.heap.size < u6.heap.size) := r6.out.lt
       have hn5 : Hid (n5 = 1) := by show _ = _; have h := hk6.out.len; exact h.symm
       have ha4 := Lib.hid (blockers_any q5 n5 c5 V5 wL3 1 [2] wB3 u6 (hS.out _ hb6.out) hk6.out.lk (sm_of (by decide)) (by have := hn5.out; omega))
       clear h6 hg6)
    | (with_reducible refine wpList_load_at rfl 24 (.tmp 2) rfl Tryz.underlying24 rfl t5 rfl r6.out.boxed.all ?_))
  refine ha4.out.mono ?_
  rintro e u7 ⟨gq, gn, gc, rfl, g7, b7⟩
  obtain ⟨rfl, g, rfl, hcg⟩ := own_one g7
  have hg7 := Lib.hid g7
  have hb7 := Lib.hid (below_step b7 hb6.out)
  have r7 := Lib.hid (r6.out.below b7)
  have hk7 := Lib.hid (hk6.out.below b7)
  have hs7 : Hid (u1.heap.size < u7.heap.size ∧ u1.heap.size < g ∧ g < u7.heap.size) := ⟨r7.out.lt, by have h1 : u6.heap.size ≤ g := (g7.far _ rfl).1; have h2 := hs6.out; omega, (g7.far _ rfl).2⟩
  have ha5 := Lib.hid (release_any q5 n5 c5 V5 wL3 2 wL4 [1] 0 wR3 u7 (hS.out _ hb7.out) hk7.out.lk (sm_of (by decide)) (by have := hn5.out; omega))
  have hcg' := Lib.hid hcg
  clear g7 b7 ha4 hcg
  go_wp2_with (first
    | (with_reducible refine wpList_load_at rfl 24 (.tmp 2) rfl Tryz.underlying24 rfl t5 rfl r7.out.boxed.all ?_))
  refine ha5.out.mono ?_
  rintro e u8 ⟨q8, n8, c8, V8, fq, fn, fc, rfl, k8, f8, b8⟩
  have hk8 := Lib.hid k8
  have hf8 := Lib.hid f8
  have hb8 := Lib.hid (below_step b8 hb7.out)
  have r8 := Lib.hid (r7.out.below b8)
  have c8' : Hid (u8.cell? ⟨g, 0, none⟩ = some (.int .i64 2)) := cell_kept b8 (Nat.le_refl _) hcg'.out
  have t8 := sizeLks (.slice q8 n8 c8)
  have one8 : ∀ y ∈ ([.slice q8 n8 c8] : List Value), y.oneCell' = true := fun y hy => by obtain rfl := List.mem_singleton.1 hy; rfl
  clear k8 f8 b8 ha5
  go_wp2_with (first
    | ((with_reducible refine wpList_store_at rfl 24 (.tmp 2) (.tmp 39) rfl (o := 0) (vs := [.slice q8 n8 c8]) rfl rfl r8.out t8 (Nat.le_refl _) one8 ?_)
       intro u9 h9 hg9
       have r9 : Hid (RowV 24 u9 u1.heap.size [.slice q8 n8 c8]) := h9
       have hb9 : Hid (Below W.heap.size W u9) := low_step hb8.out hg9 hlow1.out
       have hk9 := Lib.hid (hk8.out.gr hg9 hs7.out.1)
       have hf9 := Lib.hid (hf8.out.gr hg9 hs7.out.1)
       obtain ⟨rfl, g', rfl, hcf⟩ := own_one hf9.out
       have hn8 : Hid (n8 = 1) := by show _ = _; have h := hk9.out.len; exact h.symm
       have hcg9 : u9.cell? ⟨g, 0, none⟩ = some (.int .i64 2) := cell_ne' hg9 (fun e => by
         have e2 : u1.heap.size = g := by simpa using e
         have := hs7.out.2.1
         omega) c8'.out
       have hbx := hb0.out.2.1.below hb9.out (Nat.le_refl _)
       have y0 := hbx.cell 0 rfl
       have y1 := hbx.cell 1 rfl
       have y2 := hbx.cell 2 rfl
       have z0 := r9.out.cell 0
       simp only [List.getElem?_cons_zero] at z0
       have ha6 := Lib.hid (mode_any q8 n8 c8 V8 wL4 1 0 true 7 5 wM4 u9 (hS.out _ hb9.out) hk9.out.lk (sm_of (by decide)) (by have := hn8.out; omega) (fun h => ⟨h.sort, h.sorts⟩) (by decide) (by decide))
       clear h9 hg9 hbx)
    | (go_at_call 26; refine ha6.out.mono ?_; rintro e u10 ⟨rfl, b10⟩; have hb10 := Lib.hid (below_step b10 hb9.out); clear b10))
  go_ret
  exact ⟨rfl, below_step hb10.out hb0.out.1⟩
end Go.Proofs.YtbgpppbcffpdbaaGreatDoor

/-! The laws' arguments, opened to their cells. -/
namespace Go.Proofs.YtbgpppbcffpdbaaGreatDoor
open Go.ChangeShapes Go.WideShapes Go.ChangeAt Go.RowKit Go.Deep Go.Joins

set_option maxRecDepth 1000000
section
variable {H : Type} {enc : TypeId × Value → H} {W : World}
end
end Go.Proofs.YtbgpppbcffpdbaaGreatDoor

/-! A region that draws its order: two calls in order, and two operations that give a value at any time. Nothing of a program is claimed here. -/
namespace Go.Proofs.YtbgpppbcffpdbaaGreatDoor
open Go.RowKit

section
variable {P : Program} {ops : Array Oper} {Q : Exit → Act → World → Prop} {md : Region.Mode} {S : World → Prop}
def lackO (x : Option Value) : Nat := match x with | none => 1 | some _ => 0
theorem held_four {L : Bool → Bool → Bool → Bool → Array Bool} {A : Option Value → Option Value → Option Value → Option Value → Act} {K : Option Value → Option Value → Option Value → Option Value → World → Prop} {fuel : Nat}
    {i j p q : Nat} {oi oj op oq : Oper} (hi : ops[i]? = some oi) (hj : ops[j]? = some oj) (hp : ops[p]? = some op) (hq : ops[q]? = some oq)
    (li : ∀ b c d, (L false b c d).setIfInBounds i true = L true b c d) (lj : ∀ b c d, (L b false c d).setIfInBounds j true = L b true c d) (lp : ∀ b c d, (L b c false d).setIfInBounds p true = L b c true d) (lq : ∀ b c d, (L b c d false).setIfInBounds q true = L b c d true)
    (ai : ∀ x y z v, (A none x y z).put oi.dst v = A (some v) x y z) (aj : ∀ x y z v, (A x none y z).put oj.dst v = A x (some v) y z) (ap : ∀ x y z v, (A x y none z).put op.dst v = A x y (some v) z) (aq : ∀ x y z v, (A x y z none).put oq.dst v = A x y z (some v))
    (wi : ∀ x y z u, Region.wanted oi (yielded ops (A x y z u).tmps) = true) (wj : ∀ x y z u, Region.wanted oj (yielded ops (A x y z u).tmps) = true) (wp : ∀ x y z u, Region.wanted op (yielded ops (A x y z u).tmps) = true) (wq : ∀ x y z u, Region.wanted oq (yielded ops (A x y z u).tmps) = true)
    (hr : ∀ bi bj bp bq : Bool, (bj = true → bi = true) → (bi && bj && bp && bq) = false → Region.ready md ops (L bi bj bp bq) = (if bi then (if bj then [] else [j]) else [i]) ++ ((if bp then [] else [p]) ++ (if bq then [] else [q])))
    (si : ∀ z u w, K none none z u w → ∃ f args R, (execOp (A none none z u).eval oi).run P w = .ok (.enter f args) w ∧ Calls P f args w R ∧ ∀ e w', R e w' → ∃ v, e = .returned v ∧ S w' ∧ K (some v) none z u w')
    (sj : ∀ x z u w, K (some x) none z u w → ∃ f args R, (execOp (A (some x) none z u).eval oj).run P w = .ok (.enter f args) w ∧ Calls P f args w R ∧ ∀ e w', R e w' → ∃ v, e = .returned v ∧ S w' ∧ K (some x) (some v) z u w')
    (sp : ∀ x y u w, K x y none u w → ∃ v w', (execOp (A x y none u).eval op).run P w = .ok (.value v) w' ∧ S w' ∧ K x y (some v) u w')
    (sq : ∀ x y z w, K x y z none w → ∃ v w', (execOp (A x y z none).eval oq).run P w = .ok (.value v) w' ∧ S w' ∧ K x y z (some v) w')
    (h : ∀ x y z u w, K (some x) (some y) (some z) (some u) w → wpAnyH P md ops Q S fuel (L true true true true) (A (some x) (some y) (some z) (some u)) w) :
    ∀ (n : Nat) (x y z u : Option Value) (w : World), (y.isSome = true → x.isSome = true) → lackO x + lackO y + lackO z + lackO u = n → K x y z u w → wpAnyH P md ops Q S (fuel + n) (L x.isSome y.isSome z.isSome u.isSome) (A x y z u) w := by
  intro n
  induction n with
  | zero =>
    intro x y z u w _ hn hk
    match x, y, z, u with
    | some x, some y, some z, some u => exact h x y z u w hk
    | none, _, _, _ => simp only [lackO] at hn; omega
    | some _, none, _, _ => simp only [lackO] at hn; omega
    | some _, some _, none, _ => simp only [lackO] at hn; omega
    | some _, some _, some _, none => simp only [lackO] at hn; omega
  | succ n ih =>
    intro x y z u w hxy hn hk
    have hnot : (x.isSome && y.isSome && z.isSome && u.isSome) = false := by
      cases x <;> cases y <;> cases z <;> cases u <;> first | rfl | (simp only [lackO] at hn; omega)
    refine wpAnyH_all (hr _ _ _ _ hxy hnot) ?_ (fun k hk2 => ?_)
    · cases x <;> cases y <;> cases z <;> cases u <;> simp at hnot ⊢
    · rcases List.mem_append.1 hk2 with hk2 | hk2
      · cases x with
        | none =>
          have hy : y = none := by
            cases y with
            | none => rfl
            | some y => exact absurd (hxy rfl) (by simp)
          subst hy
          rw [show k = i by simpa using hk2]
          obtain ⟨f, args, R, h1, h2, h3⟩ := si z u w hk
          unfold wpOp
          simp only [hi, wi, if_true]
          refine .inl ?_
          unfold Oper.wp
          rw [h1, Oper.upon_enter]
          refine h2.mono fun e w' he => ?_
          obtain ⟨v, rfl, h4, h5⟩ := h3 e w' he
          refine ⟨h4, ?_⟩
          rw [ai]
          have := ih (some v) none z u w' (fun e => rfl) (by simp only [lackO] at hn ⊢; omega) h5
          rw [show (none : Option Value).isSome = false from rfl, li]
          exact this
        | some x =>
          cases y with
          | none =>
            rw [show k = j by simpa using hk2]
            obtain ⟨f, args, R, h1, h2, h3⟩ := sj x z u w hk
            unfold wpOp
            simp only [hj, wj, if_true]
            refine .inl ?_
            unfold Oper.wp
            rw [h1, Oper.upon_enter]
            refine h2.mono fun e w' he => ?_
            obtain ⟨v, rfl, h4, h5⟩ := h3 e w' he
            refine ⟨h4, ?_⟩
            rw [aj]
            have := ih (some x) (some v) z u w' (fun e => rfl) (by simp only [lackO] at hn ⊢; omega) h5
            rw [show (none : Option Value).isSome = false from rfl, lj]
            exact this
          | some y => simp at hk2
      · rcases List.mem_append.1 hk2 with hk2 | hk2
        · cases z with
          | none =>
            rw [show k = p by simpa using hk2]
            obtain ⟨v, w', h1, h4, h5⟩ := sp x y u w hk
            unfold wpOp
            simp only [hp, wp, if_true]
            refine .inl ?_
            unfold Oper.wp
            rw [h1, Oper.upon_value]
            refine ⟨h4, ?_⟩
            rw [ap]
            have := ih x y (some v) u w' hxy (by simp only [lackO] at hn ⊢; omega) h5
            rw [show (none : Option Value).isSome = false from rfl, lp]
            exact this
          | some z => simp at hk2
        · cases u with
          | none =>
            rw [show k = q by simpa using hk2]
            obtain ⟨v, w', h1, h4, h5⟩ := sq x y z w hk
            unfold wpOp
            simp only [hq, wq, if_true]
            refine .inl ?_
            unfold Oper.wp
            rw [h1, Oper.upon_value]
            refine ⟨h4, ?_⟩
            rw [aq]
            have := ih x y z (some v) w' hxy (by simp only [lackO] at hn ⊢; omega) h5
            rw [show (none : Option Value).isSome = false from rfl, lq]
            exact this
          | some u => simp at hk2
/-- the same, where the act is the goal's -/
theorem held_calls2 (L : Bool → Bool → Bool → Bool → Array Bool) (K : Option Value → Option Value → Option Value → Option Value → World → Prop) {fuel : Nat} {l : Array Bool} {a : Act} {w : World}
    {i j p q di dj dp dq : Nat} {oi oj op oq : Oper} (hi : ops[i]? = some oi) (hj : ops[j]? = some oj) (hp : ops[p]? = some op) (hq : ops[q]? = some oq)
    (edi : oi.dst = some di) (edj : oj.dst = some dj) (edp : op.dst = some dp) (edq : oq.dst = some dq) (hne : di ≠ dj ∧ di ≠ dp ∧ di ≠ dq ∧ dj ≠ dp ∧ dj ≠ dq ∧ dp ≠ dq)
    (gi : oi.guard = none) (gj : oj.guard = none) (gp : op.guard = none) (gq : oq.guard = none) (hl : l = L false false false false)
    (li : ∀ b c d, (L false b c d).setIfInBounds i true = L true b c d) (lj : ∀ b c d, (L b false c d).setIfInBounds j true = L b true c d) (lp : ∀ b c d, (L b c false d).setIfInBounds p true = L b c true d) (lq : ∀ b c d, (L b c d false).setIfInBounds q true = L b c d true)
    (hr : ∀ bi bj bp bq : Bool, (bj = true → bi = true) → (bi && bj && bp && bq) = false → Region.ready md ops (L bi bj bp bq) = (if bi then (if bj then [] else [j]) else [i]) ++ ((if bp then [] else [p]) ++ (if bq then [] else [q])))
    (si : ∀ z u w, K none none z u w → ∃ f args R, (execOp (putX (some dq) u (putX (some dp) z a)).eval oi).run P w = .ok (.enter f args) w ∧ Calls P f args w R ∧ ∀ e w', R e w' → ∃ v, e = .returned v ∧ S w' ∧ K (some v) none z u w')
    (sj : ∀ x z u w, K (some x) none z u w → ∃ f args R, (execOp (putX (some dq) u (putX (some dp) z (a.put (some di) x))).eval oj).run P w = .ok (.enter f args) w ∧ Calls P f args w R ∧ ∀ e w', R e w' → ∃ v, e = .returned v ∧ S w' ∧ K (some x) (some v) z u w')
    (sp : ∀ (b : Act) x y u w, K x y none u w → ∃ v w', (execOp b.eval op).run P w = .ok (.value v) w' ∧ S w' ∧ K x y (some v) u w')
    (sq : ∀ (b : Act) x y z w, K x y z none w → ∃ v w', (execOp b.eval oq).run P w = .ok (.value v) w' ∧ S w' ∧ K x y z (some v) w')
    (h0 : K none none none none w)
    (h : ∀ x y z u w, K (some x) (some y) (some z) (some u) w → wpAnyH P md ops Q S fuel (L true true true true) ((((a.put (some di) x).put (some dj) y).put (some dp) z).put (some dq) u) w) :
    wpAnyH P md ops Q S (fuel + 4) l a w := by
  obtain ⟨n1, n2, n3, n4, n5, n6⟩ := hne
  subst hl
  have hw : ∀ {o : Oper} {ys : Nat → Option Bool}, o.guard = none → Region.wanted o ys = true := fun {o ys} hg => by
    unfold Region.wanted
    rw [hg]
  exact held_four (L := L) (K := K) (A := fun x y z u => putX (some dq) u (putX (some dp) z (putX (some dj) y (putX (some di) x a)))) hi hj hp hq li lj lp lq
    (fun x y z v => by show (putX (some dq) z (putX (some dp) y (putX (some dj) x a))).put oi.dst v = _; rw [edi, putX_put n3.symm, putX_put n2.symm, putX_put n1.symm]; rfl)
    (fun x y z v => by show (putX (some dq) z (putX (some dp) y (putX (some di) x a))).put oj.dst v = _; rw [edj, putX_put n5.symm, putX_put n4.symm]; rfl)
    (fun x y z v => by show (putX (some dq) z (putX (some dj) y (putX (some di) x a))).put op.dst v = _; rw [edp, putX_put n6.symm]; rfl)
    (fun x y z v => by show (putX (some dp) z (putX (some dj) y (putX (some di) x a))).put oq.dst v = _; rw [edq]; rfl)
    (fun _ _ _ _ => hw gi) (fun _ _ _ _ => hw gj) (fun _ _ _ _ => hw gp) (fun _ _ _ _ => hw gq) hr
    si sj (fun x y u w hk => sp _ x y u w hk) (fun x y z w hk => sq _ x y z w hk) h 4 none none none none w (fun e => by cases e) rfl h0
end
end Go.Proofs.YtbgpppbcffpdbaaGreatDoor

/-! Same of the document on locks, of two that read as the same. -/
namespace Go.Proofs.YtbgpppbcffpdbaaGreatDoor
open Go.RowKit

theorem neqRes0 (w : World) (a : Int) (b : Bool) (c : Int) : (binOp .neq 30 (.agg #[.int .i64 a, .bool b, .int .u16 c]) (.agg #[.int .i64 a, .bool b, .int .u16 c])).run Tryz.prog w = .ok (.bool false) w := by
  have hS : Tryz.prog.underlying 30 = some (.struct (Tryz.prog.fieldsOf 30)) := by kernel_rfl
  have hp : Tryz.prog.stoodInHeld 30 = false := by kernel_rfl
  have u3 := Tryz.underlying3
  have u4 := Tryz.underlying4
  have u5 := Tryz.underlying28
  have a3 := Tryz.isAgg3
  have a4 := Tryz.isAgg4
  have a5 := Tryz.isAgg28
  have z3 := Tryz.sizeOf3
  have z4 := Tryz.sizeOf4
  have z5 := Tryz.sizeOf28
  rw [run_neq_struct, show (10000 : Nat) = 9999 + 1 from rfl, run_equalIn_agg w 9999 30 _ _ hS hp]
  simp only [Program.fieldsOf, Tryz.underlying30]
  clear hS hp
  go_simp
theorem neqHold0 (w : World) (a b : Int) : (binOp .neq 45 (.agg #[.int .i64 a, .int .i64 b]) (.agg #[.int .i64 a, .int .i64 b])).run Tryz.prog w = .ok (.bool false) w := by
  have hS : Tryz.prog.underlying 45 = some (.struct (Tryz.prog.fieldsOf 45)) := by kernel_rfl
  have hp : Tryz.prog.stoodInHeld 45 = false := by kernel_rfl
  have u3 := Tryz.underlying3
  have a3 := Tryz.isAgg3
  have z3 := Tryz.sizeOf3
  rw [run_neq_struct, show (10000 : Nat) = 9999 + 1 from rfl, run_equalIn_agg w 9999 45 _ _ hS hp]
  simp only [Program.fieldsOf, Tryz.underlying45]
  clear hS hp
  go_simp
theorem neqWait0 (w : World) (a b c : Int) : (binOp .neq 47 (.agg #[.int .i64 a, .int .i64 b, .int .i64 c]) (.agg #[.int .i64 a, .int .i64 b, .int .i64 c])).run Tryz.prog w = .ok (.bool false) w := by
  have hS : Tryz.prog.underlying 47 = some (.struct (Tryz.prog.fieldsOf 47)) := by kernel_rfl
  have hp : Tryz.prog.stoodInHeld 47 = false := by kernel_rfl
  have u3 := Tryz.underlying3
  have a3 := Tryz.isAgg3
  have z3 := Tryz.sizeOf3
  rw [run_neq_struct, show (10000 : Nat) = 9999 + 1 from rfl, run_equalIn_agg w 9999 47 _ _ hS hp]
  simp only [Program.fieldsOf, Tryz.underlying47]
  clear hS hp
  go_simp

set_option maxRecDepth 100000 in
set_option maxHeartbeats 4000000 in
theorem rsame_any (q : Option Addr) (n c : Nat) (V : List QV) (q2 : Option Addr) (n2 c2 : Nat) (V2 : List QV) (L : List QueD) (w : World) (h1 : LkOn w q n c V L) (h2 : LkOn w q2 n2 c2 V2 L) :
    Calls Tryz.prog 15 #[.agg #[.slice q n c], .agg #[.slice q2 n2 c2]] w (fun e w' => e = .returned (.bool true) ∧ Below w.heap.size w w') := by
  obtain rfl : n = n2 := by have e1 := h1.len; have e2 := h2.len; omega
  obtain ⟨W0, hW0⟩ : ∃ W, w.alloc (.cells #[.slice q n c] 24) = W := ⟨_, rfl⟩
  have hb0 := Lib.hid (one_box (xs := [.slice q n c]) hW0)
  obtain ⟨W, hW⟩ : ∃ W, W0.alloc (.cells #[.slice q2 n c2] 24) = W := ⟨_, rfl⟩
  have hb1 := Lib.hid (one_box (xs := [.slice q2 n c2]) hW)
  have hbW := Lib.hid (below_step hb1.out.1 hb0.out.1)
  have hh1 := Lib.hid (h1.below hbW.out (Nat.le_refl _))
  have hh2 := Lib.hid (h2.below hbW.out (Nat.le_refl _))
  have x0 := Lib.hid (hb0.out.2.1.below hb1.out.1 (Nat.le_refl _))
  have hnb : Hid (n ≤ 9223372036854775807) := by show _ ≤ _; have e1 := h1.sl.le; have e2 := h1.sl.cap; unfold maxLen at e2; omega
  have hnb' := hnb.out
  have c0 := x0.out.cell 0 rfl
  have c1 := hb1.out.2.1.cell 0 rfl
  clear h1 h2
  go_enter Tryz.func15, Tryz.ntmps15
  go_wp2
  clear hW0 hW c0 c1
  go_loopw [20] (fun v20 wr => ∃ i : Nat, i ≤ n ∧ v20 = .int .i64 i ∧ Hid (Below W.heap.size W wr)) (fun v20 _ => n - (intOf v20).toNat)
  case atStart => exact ⟨0, Nat.zero_le _, rfl, Below.refl _ _⟩
  case round =>
    obtain ⟨i, hi, rfl, hr⟩ := hrel
    obtain ⟨wo, rfl⟩ : ∃ u, u = wr := ⟨_, rfl⟩
    by_cases hlt : i < n
    · obtain ⟨A, ⟨⟨rt, rk, ri⟩, hq, hn, hc, wq, wn, wd⟩, d, hqA, _, hd1, hond1, hcA⟩ := (hh1.out.below hr.out (Nat.le_refl _)).at hlt
      obtain ⟨A2, ⟨⟨rt', rk', ri'⟩, gq, hn', gc, vq, wn', vc⟩, d', hqA2, _, hd2, hond2, hcA2⟩ := (hh2.out.below hr.out (Nat.le_refl _)).at hlt
      rw [hd1] at hd2
      cases hd2
      have hres : (⟨rt', rk', ri'⟩ : ResD) = ⟨rt, rk, ri⟩ := hond2.res.trans hond1.res.symm
      obtain rfl : rt = rt' := by cases hres; rfl
      obtain rfl : rk = rk' := by cases hres; rfl
      obtain rfl : ri = ri' := by cases hres; rfl
      obtain rfl : hn = hn' := by have e1 := hond1.hs.len; have e2 := hond2.hs.len; simp only at e1 e2; omega
      obtain rfl : wn = wn' := by have e1 := hond1.ws.len; have e2 := hond2.ws.len; simp only at e1 e2; omega
      subst hqA
      subst hqA2
      have hcell : Hid (∀ j' v, ([.int .i64 rt, .bool rk, .int .u16 ri, .slice hq hn hc, .slice wq wn wd] : List Value)[j']? = some v → wo.cell? ((A.add (i * 5)).add j') = some v) := fun j' v hj => hcA j' v hj
      have s5 := sizeQue (.int .i64 rt) (.bool rk) (.int .u16 ri) (.slice hq hn hc) (.slice wq wn wd)
      have s6 := sizeQue (.int .i64 rt) (.bool rk) (.int .u16 ri) (.slice gq hn gc) (.slice vq wn vc)
      have sr := sizeRes (.int .i64 rt) (.bool rk) (.int .u16 ri)
      have i0 : (0 : Int) ≤ i := by omega
      have i1 : (i : Int) < n := by omega
      obtain ⟨WA, hWA⟩ : ∃ W', wo.alloc (.cells #[.int .i64 rt, .bool rk, .int .u16 ri, .slice hq hn hc, .slice wq wn wd] 43) = W' := ⟨_, rfl⟩
      have hbA := Lib.hid (one_box (xs := [.int .i64 rt, .bool rk, .int .u16 ri, .slice hq hn hc, .slice wq wn wd]) hWA)
      have hcell2 : Hid (∀ j' v, ([.int .i64 rt, .bool rk, .int .u16 ri, .slice gq hn gc, .slice vq wn vc] : List Value)[j']? = some v → WA.cell? ((A2.add (i * 5)).add j') = some v) := fun j' v hj => cell_kept hbA.out.1 (Nat.le_refl _) (hcA2 j' v hj)
      obtain ⟨WB, hWB⟩ : ∃ W', WA.alloc (.cells #[.int .i64 rt, .bool rk, .int .u16 ri, .slice gq hn gc, .slice vq wn vc] 43) = W' := ⟨_, rfl⟩
      have hbB := Lib.hid (one_box (xs := [.int .i64 rt, .bool rk, .int .u16 ri, .slice gq hn gc, .slice vq wn vc]) hWB)
      have hbAB := Lib.hid (below_step hbB.out.1 hbA.out.1)
      have hbWB := Lib.hid (below_step hbAB.out hr.out)
      have hond1 := Lib.hid hond1
      have hond2 := Lib.hid hond2
      have k1 := (hb1.out.2.1.below (below_step hbA.out.1 hr.out) (Nat.le_refl _)).cell 0 rfl
      have bx1 := Lib.hid (hbA.out.2.1.below hbB.out.1 (Nat.le_refl _))
      have r1 : Hid (∀ j v, ([.int .i64 rt, .bool rk, .int .u16 ri] : List Value)[j]? = some v → WB.cell? ((⟨wo.heap.size, 0, none⟩ : Addr).add j) = some v) := fun j v hj => bx1.out.part (o := 0) (ys := [.int .i64 rt, .bool rk, .int .u16 ri]) (fun j v hj => by match j, hj with | 0, h => exact h | 1, h => exact h | 2, h => exact h | j + 3, h => simp at h) j v hj
      have r2 : Hid (∀ j v, ([.int .i64 rt, .bool rk, .int .u16 ri] : List Value)[j]? = some v → WB.cell? ((⟨WA.heap.size, 0, none⟩ : Addr).add j) = some v) := fun j v hj => hbB.out.2.1.part (o := 0) (ys := [.int .i64 rt, .bool rk, .int .u16 ri]) (fun j v hj => by match j, hj with | 0, h => exact h | 1, h => exact h | 2, h => exact h | j + 3, h => simp at h) j v hj
      have hneq := fun u => neqRes0 u rt rk ri
      have k3 := bx1.out.cell 3 rfl
      have k4 := bx1.out.cell 4 rfl
      have k5 := hbB.out.2.1.cell 3 rfl
      have k6 := hbB.out.2.1.cell 4 rfl
      have hnl : Hid (hn ≤ 9223372036854775807 ∧ wn ≤ 9223372036854775807) := by
        have e1 := hond1.out.hs.le; have e2 := hond1.out.hs.cap; have e3 := hond1.out.ws.le; have e4 := hond1.out.ws.cap
        simp only at e1 e2 e3 e4; unfold maxLen at e2 e4; exact ⟨by omega, by omega⟩
      have hnl1 := hnl.out.1
      have hnl2 := hnl.out.2
      clear hcA hcA2 hres hd1
      go_wp2_with (first
        | (with_reducible refine wpList_load_at rfl 43 (.tmp 23) rfl Tryz.underlying43 rfl s5 rfl hcell.out ?_)
        | (with_reducible refine wpList_load_at rfl 43 (.tmp 28) rfl Tryz.underlying43 rfl s6 rfl hcell2.out ?_)
        | (with_reducible refine wpList_load_at rfl 30 (.tmp 30) rfl Tryz.underlying30 rfl sr rfl r1.out ?_)
        | (with_reducible refine wpList_load_at rfl 30 (.tmp 32) rfl Tryz.underlying30 rfl sr rfl r2.out ?_))
      clear hWA hWB hcell hcell2 k1 k3 k4 k5 k6 hneq
      go_loopw [56] (fun v56 wr => ∃ j : Nat, j ≤ hn ∧ v56 = .int .i64 j ∧ Hid (Below WB.heap.size WB wr)) (fun v56 _ => hn - (intOf v56).toNat)
      case atStart => exact ⟨0, Nat.zero_le _, rfl, Below.refl _ _⟩
      case round =>
        obtain ⟨j, hj, rfl, hr2⟩ := hrel
        obtain ⟨wj, rfl⟩ : ∃ u, u = wr := ⟨_, rfl⟩
        by_cases hlj : j < hn
        · obtain ⟨AH, ⟨hx, hm⟩, hq1, he1, hc1⟩ := (hond1.out.hs.below (below_step hr2.out hbAB.out) (Nat.le_refl _)).at hlj
          obtain ⟨AG, y2, hq2, he2, hc2⟩ := (hond2.out.hs.below (below_step hr2.out hbAB.out) (Nat.le_refl _)).at hlj
          rw [he1] at he2
          cases he2
          subst hq1
          subst hq2
          have hcell1 : Hid (∀ j' v, ([.int .i64 hx, .int .i64 hm] : List Value)[j']? = some v → wj.cell? ((AH.add (j * 2)).add j') = some v) := fun j' v hj => hc1 j' v hj
          have hcell2 : Hid (∀ j' v, ([.int .i64 hx, .int .i64 hm] : List Value)[j']? = some v → wj.cell? ((AG.add (j * 2)).add j') = some v) := fun j' v hj => hc2 j' v hj
          have se := sizeHold (.int .i64 hx) (.int .i64 hm)
          have j0 : (0 : Int) ≤ j := by omega
          have j1 : (j : Int) < hn := by omega
          have cA := (hbA.out.2.1.below (below_step hr2.out hbB.out.1) (Nat.le_refl _)).cell 3 rfl
          have cB := (hbB.out.2.1.below hr2.out (Nat.le_refl _)).cell 3 rfl
          clear hc1 hc2 he1
          go_upto_region 12 with fail
          refine wp_region_held (S := fun u => Below wj.heap.size wj u) (by kernel_rfl) ?_
          change wpAnyH _ _ _ _ _ _ _ _ (World.drew wj)
          have hS0 : Below wj.heap.size wj wj.drew := below_drew _
          generalize World.drew wj = u0 at hS0 ⊢
          refine held_tk (i := 0) (dst := some 59) (v := .pointer (some ⟨wo.heap.size, 3, none⟩)) rfl rfl (.inl ⟨rfl, fun u hu => by have e0 := cell_kept hu (Nat.le_refl _) cA; have e1 := cell_kept hu (Nat.le_refl _) cB; go_simp⟩) hS0 ?_
          go_frame
          refine held_tk (i := 1) (dst := some 60) (v := .slice (some AH) hn hc) rfl rfl (.inl ⟨rfl, fun u hu => by have e0 := cell_kept hu (Nat.le_refl _) cA; have e1 := cell_kept hu (Nat.le_refl _) cB; go_simp⟩) hS0 ?_
          go_frame
          refine held_tk (i := 2) (dst := some 61) (v := .int .i64 (j : Int)) rfl rfl (y_move (.tmp 8) rfl rfl rfl) hS0 ?_
          go_frame
          refine held_tk (i := 3) (dst := some 62) (v := .pointer (some (AH.add (j * 2)))) rfl rfl (.inl ⟨rfl, fun u hu => by have e0 := cell_kept hu (Nat.le_refl _) cA; have e1 := cell_kept hu (Nat.le_refl _) cB; go_simp⟩) hS0 ?_
          go_frame
          refine held_tk (i := 4) (dst := some 63) (v := .agg #[.int .i64 hx, .int .i64 hm]) rfl rfl (y_load_agg 45 (.tmp 62) rfl rfl rfl (fun u hu => run_loadVar_at Tryz.underlying45 rfl se _ (fun j' v hj' => cell_kept hu (Nat.le_refl _) (hcell1.out j' v hj')))) hS0 ?_
          go_frame
          refine held_tk (i := 5) (dst := some 64) (v := .pointer (some ⟨WA.heap.size, 3, none⟩)) rfl rfl (.inl ⟨rfl, fun u hu => by have e0 := cell_kept hu (Nat.le_refl _) cA; have e1 := cell_kept hu (Nat.le_refl _) cB; go_simp⟩) hS0 ?_
          go_frame
          refine held_tk (i := 6) (dst := some 65) (v := .slice (some AG) hn gc) rfl rfl (.inl ⟨rfl, fun u hu => by have e0 := cell_kept hu (Nat.le_refl _) cA; have e1 := cell_kept hu (Nat.le_refl _) cB; go_simp⟩) hS0 ?_
          go_frame
          refine held_tk (i := 7) (dst := some 66) (v := .int .i64 (j : Int)) rfl rfl (y_move (.tmp 8) rfl rfl rfl) hS0 ?_
          go_frame
          refine held_tk (i := 8) (dst := some 67) (v := .pointer (some (AG.add (j * 2)))) rfl rfl (.inl ⟨rfl, fun u hu => by have e0 := cell_kept hu (Nat.le_refl _) cA; have e1 := cell_kept hu (Nat.le_refl _) cB; go_simp⟩) hS0 ?_
          go_frame
          refine held_tk (i := 9) (dst := some 68) (v := .agg #[.int .i64 hx, .int .i64 hm]) rfl rfl (y_load_agg 45 (.tmp 67) rfl rfl rfl (fun u hu => run_loadVar_at Tryz.underlying45 rfl se _ (fun j' v hj' => cell_kept hu (Nat.le_refl _) (hcell2.out j' v hj')))) hS0 ?_
          go_frame
          refine held_tk (i := 10) (dst := some 69) (v := .bool false) rfl rfl (.inl ⟨rfl, fun u hu => by have hn := neqHold0 u hx hm; go_simp⟩) hS0 ?_
          go_frame
          refine wpAnyH_done (by kernel_rfl) ?_ _
          have hS9 := Lib.hid (below_step hS0 hr2.out)
          clear cA cB
          go_wp2
          go_roundw
          case rel => exact ⟨j + 1, by omega, by go_num, hS9.out⟩
          case measure => simp [intOf]; omega
        · obtain rfl : hn = j := by omega
          have hr3 := Lib.hid hr2.out
          have cW := (hbA.out.2.1.below (below_step hr2.out hbB.out.1) (Nat.le_refl _)).cell 4 rfl
          go_wp2
          clear cW
          go_loopw [74] (fun v74 wr => ∃ j : Nat, j ≤ wn ∧ v74 = .int .i64 j ∧ Hid (Below WB.heap.size WB wr)) (fun v74 _ => wn - (intOf v74).toNat)
          case atStart => exact ⟨0, Nat.zero_le _, rfl, hr3.out⟩
          case round =>
            obtain ⟨j, hj, rfl, hr2⟩ := hrel
            obtain ⟨wj, rfl⟩ : ∃ u, u = wr := ⟨_, rfl⟩
            by_cases hlj : j < wn
            · obtain ⟨AW, ⟨yx, ym, yh⟩, hq1, he1, hc1⟩ := (hond1.out.ws.below (below_step hr2.out hbAB.out) (Nat.le_refl _)).at hlj
              obtain ⟨AU, y2, hq2, he2, hc2⟩ := (hond2.out.ws.below (below_step hr2.out hbAB.out) (Nat.le_refl _)).at hlj
              rw [he1] at he2
              cases he2
              subst hq1
              subst hq2
              have hcell1 : Hid (∀ j' v, ([.int .i64 yx, .int .i64 ym, .int .i64 yh] : List Value)[j']? = some v → wj.cell? ((AW.add (j * 3)).add j') = some v) := fun j' v hj => hc1 j' v hj
              have hcell2 : Hid (∀ j' v, ([.int .i64 yx, .int .i64 ym, .int .i64 yh] : List Value)[j']? = some v → wj.cell? ((AU.add (j * 3)).add j') = some v) := fun j' v hj => hc2 j' v hj
              have se := sizeWait (.int .i64 yx) (.int .i64 ym) (.int .i64 yh)
              have j0 : (0 : Int) ≤ j := by omega
              have j1 : (j : Int) < wn := by omega
              have cA := (hbA.out.2.1.below (below_step hr2.out hbB.out.1) (Nat.le_refl _)).cell 4 rfl
              have cB := (hbB.out.2.1.below hr2.out (Nat.le_refl _)).cell 4 rfl
              clear hc1 hc2 he1
              go_upto_region 18 with fail
              refine wp_region_held (S := fun u => Below wj.heap.size wj u) (by kernel_rfl) ?_
              change wpAnyH _ _ _ _ _ _ _ _ (World.drew wj)
              have hS0 : Below wj.heap.size wj wj.drew := below_drew _
              generalize World.drew wj = u0 at hS0 ⊢
              refine held_tk (i := 0) (dst := some 77) (v := .pointer (some ⟨wo.heap.size, 4, none⟩)) rfl rfl (.inl ⟨rfl, fun u hu => by have e0 := cell_kept hu (Nat.le_refl _) cA; have e1 := cell_kept hu (Nat.le_refl _) cB; go_simp⟩) hS0 ?_
              go_frame
              refine held_tk (i := 1) (dst := some 78) (v := .slice (some AW) wn wd) rfl rfl (.inl ⟨rfl, fun u hu => by have e0 := cell_kept hu (Nat.le_refl _) cA; have e1 := cell_kept hu (Nat.le_refl _) cB; go_simp⟩) hS0 ?_
              go_frame
              refine held_tk (i := 2) (dst := some 79) (v := .int .i64 (j : Int)) rfl rfl (y_move (.tmp 9) rfl rfl rfl) hS0 ?_
              go_frame
              refine held_tk (i := 3) (dst := some 80) (v := .pointer (some (AW.add (j * 3)))) rfl rfl (.inl ⟨rfl, fun u hu => by have e0 := cell_kept hu (Nat.le_refl _) cA; have e1 := cell_kept hu (Nat.le_refl _) cB; go_simp⟩) hS0 ?_
              go_frame
              refine held_tk (i := 4) (dst := some 81) (v := .agg #[.int .i64 yx, .int .i64 ym, .int .i64 yh]) rfl rfl (y_load_agg 47 (.tmp 80) rfl rfl rfl (fun u hu => run_loadVar_at Tryz.underlying47 rfl se _ (fun j' v hj' => cell_kept hu (Nat.le_refl _) (hcell1.out j' v hj')))) hS0 ?_
              go_frame
              refine held_tk (i := 5) (dst := some 82) (v := .pointer (some ⟨WA.heap.size, 4, none⟩)) rfl rfl (.inl ⟨rfl, fun u hu => by have e0 := cell_kept hu (Nat.le_refl _) cA; have e1 := cell_kept hu (Nat.le_refl _) cB; go_simp⟩) hS0 ?_
              go_frame
              refine held_tk (i := 6) (dst := some 83) (v := .slice (some AU) wn vc) rfl rfl (.inl ⟨rfl, fun u hu => by have e0 := cell_kept hu (Nat.le_refl _) cA; have e1 := cell_kept hu (Nat.le_refl _) cB; go_simp⟩) hS0 ?_
              go_frame
              refine held_tk (i := 7) (dst := some 84) (v := .int .i64 (j : Int)) rfl rfl (y_move (.tmp 9) rfl rfl rfl) hS0 ?_
              go_frame
              refine held_tk (i := 8) (dst := some 85) (v := .pointer (some (AU.add (j * 3)))) rfl rfl (.inl ⟨rfl, fun u hu => by have e0 := cell_kept hu (Nat.le_refl _) cA; have e1 := cell_kept hu (Nat.le_refl _) cB; go_simp⟩) hS0 ?_
              go_frame
              refine held_tk (i := 9) (dst := some 86) (v := .agg #[.int .i64 yx, .int .i64 ym, .int .i64 yh]) rfl rfl (y_load_agg 47 (.tmp 85) rfl rfl rfl (fun u hu => run_loadVar_at Tryz.underlying47 rfl se _ (fun j' v hj' => cell_kept hu (Nat.le_refl _) (hcell2.out j' v hj')))) hS0 ?_
              go_frame
              refine held_tk (i := 10) (dst := some 87) (v := .bool false) rfl rfl (.inl ⟨rfl, fun u hu => by have hn := neqWait0 u yx ym yh; go_simp⟩) hS0 ?_
              go_frame
              refine wpAnyH_done (by kernel_rfl) ?_ _
              have hS9 := Lib.hid (below_step hS0 hr2.out)
              clear cA cB
              go_wp2
              go_roundw
              case rel => exact ⟨j + 1, by omega, by go_num, hS9.out⟩
              case measure => simp [intOf]; omega
            · obtain rfl : wn = j := by omega
              have hbf := Lib.hid (below_step hr2.out hbWB.out)
              go_wp2
              go_roundw
              case rel => exact ⟨i + 1, by omega, by go_num, hbf.out⟩
              case measure => simp [intOf]; omega
    · obtain rfl : n = i := by omega
      go_wp2
      go_ret
      exact ⟨rfl, below_step hr.out hbW.out⟩
end Go.Proofs.YtbgpppbcffpdbaaGreatDoor
