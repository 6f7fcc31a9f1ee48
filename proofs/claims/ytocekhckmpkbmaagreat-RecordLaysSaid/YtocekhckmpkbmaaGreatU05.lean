/- Parts of the proof: The reader of codec: what a content has, by its Kind; Maps whose keys are integers, by what they give: lookup, store, delete, clear, len as laws for the walk; nothing of a program is claimed here; The reader of codec: which reading belongs to which Kind; Which row may stand behind others, which kid; Which kid may stand behind others; kids compared -/
import Derived.Test.YtocekhckmpkbmaaGreatU04
import Derived.Test.YtocekhckmpkbmaaGreatU01
import Derived.Test.YtocekhckmpkbmaaGreatRows
import Derived.WalkKit
import Derived.Lib.Hide
import Derived.ProofKit
import Derived.Maps.Own
import Derived.Lib.SlKeysI
namespace Go.Proofs.YtocekhckmpkbmaaGreat
open Go.RowKit
structure ContD where
 kind : Int
 rows : List RowD
 kids : List KidD
/-- a content, by its kind and its two slices -/
structure ContOn (w : World) (k : Int) (rq : Option Addr) (rn rc : Nat) (kq : Option Addr) (kn kc : Nat) (c : ContD) : Prop where
 kind : k = c.kind
 rows : RowsOn w rq rn rc c.rows
 kids : KidsOn w kq kn kc c.kids
theorem ContOn.below {B : Nat} {w w' : World} {k : Int} {rq kq : Option Addr} {rn rc kn kc : Nat} {c : ContD} (h : ContOn w k rq rn rc kq kn kc c) (hb : Below B w w') (hB : w.heap.size ≤ B) : ContOn w' k rq rn rc kq kn kc c := ⟨h.kind, h.rows.below hb hB, h.kids.below hb hB⟩
theorem ContOn.gr {w w' : World} {k : Int} {rq kq : Option Addr} {rn rc kn kc g : Nat} {c : ContD} (h : ContOn w k rq rn rc kq kn kc c) (hg : w.grownBy w' (some g)) (h1 : ∀ a, rq = some a → a.block ≠ g) (h2 : ∀ a, kq = some a → a.block ≠ g) : ContOn w' k rq rn rc kq kn kc c := ⟨h.kind, h.rows.gr hg h1, h.kids.gr hg h2⟩
def zeroC : ContD := ⟨0, [], []⟩
/-- what lies in new memory, or nowhere -/
def Far (B : Nat) (q : Option Addr) : Prop := ∀ a, q = some a → B ≤ a.block
theorem Far.none_ (B : Nat) : Far B none := fun a h => by cases h
def freeP (s : St) : ContD × Int × St := (zeroC, 0, s)
def leafP (s : St) : ContD × Int × St := (⟨1, (listR s).1, []⟩, (listR s).2.1, (listR s).2.2)
def innerP (s : St) : ContD × Int × St := (⟨2, [], (listK s).1⟩, (listK s).2.1, (listK s).2.2)
end Go.Proofs.YtocekhckmpkbmaaGreat
namespace Go.Proofs.YtocekhckmpkbmaaGreat
open Go.RowKit Go.ChangeMaps
def keyInt (e : MapEntry) : Int := match e.key with | .int _ j => j | _ => 0
/-- all keys are integers of the kind q -/
def IntKeys (q : IntKind) (es : List MapEntry) : Prop := ∀ e ∈ es, e.key = .int q (keyInt e)
def fnd (k : Int) : List MapEntry → Nat → Option (Nat × Value)
 | [], _ => none
 | e :: es, i => if keyInt e = k then some (i, e.val) else fnd k es (i + 1)
theorem findNow_int (q : IntKind) (k : Int) : ∀ (es : List MapEntry) (i : Nat), IntKeys q es → Instr.findNow (.int q) (.int q k) es i = some (fnd k es i)
 | [], _, _ => rfl
 | e :: es, i, h => by
   have he := h e (List.mem_cons_self ..); have ih := findNow_int q k es (i + 1) (fun e' h' => h e' (List.mem_cons_of_mem _ h')); unfold Instr.findNow fnd; rw [he]
   by_cases hk : keyInt e = k
   · simp [Instr.sameNow, hk]
   · have hb : (k == keyInt e) = false := by simpa using fun h => hk h.symm
     simp [Instr.sameNow, hk, hb, ih]
/-- what a map gives -/
def gives (es : List MapEntry) (k : Int) : Option Value := (fnd k es 0).map (·.2)
theorem fnd_shift (k : Int) : ∀ (es : List MapEntry) (i : Nat), fnd k es i = (fnd k es 0).map fun x => (x.1 + i, x.2)
 | [], _ => rfl
 | e :: es, i => by
   unfold fnd
   by_cases hk : keyInt e = k
   · simp [hk]
   · rw [if_neg hk, if_neg hk, fnd_shift k es (i + 1), fnd_shift k es (0 + 1)]; cases fnd k es 0 <;> simp; omega
theorem gives_nil (k : Int) : gives [] k = none := rfl
theorem gives_cons (e : MapEntry) (es : List MapEntry) (k : Int) : gives (e :: es) k = if keyInt e = k then some e.val else gives es k := by
 unfold gives; rw [fnd]
 by_cases hk : keyInt e = k
 · simp [hk]
 · rw [if_neg hk, if_neg hk, fnd_shift]; cases fnd k es 0 <;> simp
theorem gives_append (es : List MapEntry) (e : MapEntry) (k : Int) : gives (es ++ [e]) k = if gives es k = none ∧ keyInt e = k then some e.val else gives es k := by
 induction es with
 | nil => simp [gives_cons, gives_nil]
 | cons x es ih =>
   rw [List.cons_append, gives_cons, gives_cons, ih]
   by_cases hk : keyInt x = k
   · simp [hk]
   · simp [hk]
/-- at the place where a key was found its element is turned -/
theorem gives_modify (k : Int) (v : Value) (g : MapEntry → MapEntry) (hg : ∀ e, keyInt e = k → keyInt (g e) = k ∧ (g e).val = v) : ∀ (es : List MapEntry) (i : Nat) (x : Value), fnd k es 0 = some (i, x) →
 ∀ j, gives (es.modify i g) j = if j = k then some v else gives es j
 | [], _, _, h, _ => by cases h
 | e :: es, i, x, h, j => by
   rw [fnd] at h
   by_cases hk : keyInt e = k
   · rw [if_pos hk] at h; cases h; have h1 := hg e hk; rw [List.modify_zero_cons, gives_cons, gives_cons, h1.1, h1.2, hk]
     by_cases hj : j = k
     · subst hj; simp
     · have : ¬ k = j := fun h => hj h.symm
       simp [hj, this]
   · rw [if_neg hk, fnd_shift] at h; cases hf : fnd k es 0 with
     | none => rw [hf] at h; cases h
     | some y =>
       rw [hf] at h; simp only [Option.map_some, Option.some.injEq, Prod.mk.injEq] at h; obtain ⟨h1, h2⟩ := h; have ih := gives_modify k v g hg es y.1 y.2 (by rw [hf]) j; rw [← h1]; show gives (List.modify (e :: es) (y.1 + 1) g) j = _; rw [List.modify_succ_cons, gives_cons, gives_cons, ih]
       by_cases hj : j = k
       · subst hj; simp [hk]
       · simp [hj]
/-- no key stands twice -/
def Once (es : List MapEntry) : Prop := (es.map keyInt).Nodup
theorem gives_mem {es : List MapEntry} {k : Int} : gives es k = none ↔ k ∉ es.map keyInt := by
 induction es with
 | nil => simp [gives_nil]
 | cons e es ih =>
   rw [gives_cons]
   by_cases hk : keyInt e = k
   · simp [hk]
   · have : ¬ k = keyInt e := fun h => hk h.symm
     simp [hk, this, ih]
/-- Block b is a map of n entries whose keys are integers of the kind q; it gives f. -/
def IMap (q : IntKind) (w : World) (b n : Nat) (f : Int → Option Value) : Prop :=
 ∃ es clock, w.heap[b]? = some (.map es clock) ∧ IntKeys q es.toList ∧ Once es.toList ∧ es.size = n ∧ (∀ k, gives es.toList k = f k) ∧ MapKept.Stamped es clock
theorem IMap.made (q : IntKind) (w : World) : IMap q (w.alloc (.map #[] 0)) w.heap.size 0 (fun _ => none) :=
 ⟨#[], 0, heap_alloc_new _ _, fun e h => by simp at h, by simp [Once], rfl, fun k => rfl, MapKept.stamped_empty 0⟩
theorem IMap.block {q : IntKind} {w w' : World} {b n : Nat} {f : Int → Option Value} (h : IMap q w b n f) (hb : w'.heap[b]? = w.heap[b]?) : IMap q w' b n f := by
 obtain ⟨es, c, h1, h2⟩ := h; exact ⟨es, c, by rw [hb, h1], h2⟩
theorem IMap.lt {q : IntKind} {w : World} {b n : Nat} {f : Int → Option Value} (h : IMap q w b n f) : b < w.heap.size := by
 obtain ⟨es, c, h1, _⟩ := h; exact (Array.getElem?_eq_some_iff.1 h1).1
section
variable {P : Program} {w : World} {q : IntKind} {t kt et : TypeId}
theorem run_findKey (hk : P.underlying kt = some (.int q)) (k : Int) (es : List MapEntry) (h : IntKeys q es) : (Instr.findKey kt (.int q k) es).run P w = .ok (fnd k es 0) w := by
 simp [Instr.findKey, run_underlying hk, findNow_int q k es 0 h]
theorem run_checkKey (hk : P.underlying kt = some (.int q)) (k : Int) (b : Bool) : (Instr.checkKey b 10000 kt (.int q k)).run P w = .ok () w := by
 unfold Instr.checkKey; simp [run_underlying hk]
/-- 'v, ok := m[k]' and 'm[k]' -/
theorem run_lookup_i {b n : Nat} {f : Int → Option Value} (h : IMap q w b n f) (ht : P.underlying t = some (.map kt et)) (hk : P.underlying kt = some (.int q)) (k : Int) {z : Value} (hz : (zeroValue et).run P w = .ok z w) :
 (Instr.lookup t (.map (some b)) (.int q k) true).run P w = .ok (.tuple #[(f k).getD z, .bool (f k).isSome]) w ∧ (Instr.lookup t (.map (some b)) (.int q k) false).run P w = .ok ((f k).getD z) w := by
 obtain ⟨es, c, h1, h2, h3, h4, h5, h6⟩ := h; have hf := h5 k; unfold gives at hf; have hfk := run_findKey (P := P) (w := w) hk k es.toList h2; have hck := run_checkKey (P := P) (w := w) hk k es.isEmpty; rw [← hf]; cases hx : fnd k es.toList 0 with
 | none => rw [hx] at hfk; constructor <;> simp [Instr.lookup, run_underlying ht, h1, hfk, hck, hz, Result.andThen, getObj, Sem.run]
 | some y => rw [hx] at hfk; constructor <;> simp [Instr.lookup, run_underlying ht, h1, hfk, hck, Result.andThen, getObj, Sem.run]
theorem sameBits_int (j k : IntKind) (a b : Int) : Instr.sameBits 10000 (.int j a) (.int k b) = (j == k && a == b) := rfl
theorem fnd_at (k : Int) : ∀ (es : List MapEntry) (i : Nat) (v : Value), fnd k es 0 = some (i, v) → ∃ e, es[i]? = some e ∧ keyInt e = k ∧ e.val = v
 | [], _, _, h => by cases h
 | e :: es, i, v, h => by
   rw [fnd] at h
   by_cases hk : keyInt e = k
   · rw [if_pos hk] at h; cases h; exact ⟨e, rfl, hk, rfl⟩
   · rw [if_neg hk, fnd_shift] at h; cases hf : fnd k es 0 with
     | none => rw [hf] at h; cases h
     | some y => rw [hf] at h; simp only [Option.map_some, Option.some.injEq, Prod.mk.injEq] at h; obtain ⟨rfl, h2⟩ := h; obtain ⟨e', h3, h4, h5⟩ := fnd_at k es y.1 y.2 (by rw [hf]); exact ⟨e', by simpa using h3, h4, h5.trans h2⟩
theorem keys_modify (g : MapEntry → MapEntry) : ∀ (es : List MapEntry) (i : Nat), (∀ e, es[i]? = some e → keyInt (g e) = keyInt e) → (es.modify i g).map keyInt = es.map keyInt
 | [], i, _ => by cases i <;> simp
 | e :: es, 0, h => by rw [List.modify_zero_cons, List.map_cons, List.map_cons, h e rfl]
 | e :: es, i + 1, h => by rw [List.modify_succ_cons, List.map_cons, List.map_cons, keys_modify g es i (fun e' he => h e' (by simpa using he))]
theorem intKeys_modify (q : IntKind) (g : MapEntry → MapEntry) (hg : ∀ e, (g e).key = .int q (keyInt (g e))) : ∀ (es : List MapEntry) (i : Nat), IntKeys q es → IntKeys q (es.modify i g)
 | [], i, h => by cases i <;> simpa using h
 | e :: es, 0, h => by
   rw [List.modify_zero_cons]; intro e' he; rcases List.mem_cons.1 he with rfl | he
   · exact hg e
   · exact h e' (List.mem_cons_of_mem _ he)
 | e :: es, i + 1, h => by
   rw [List.modify_succ_cons]; intro e' he; rcases List.mem_cons.1 he with rfl | he
   · exact h _ (List.mem_cons_self ..)
   · exact intKeys_modify q g hg es i (fun x hx => h x (List.mem_cons_of_mem _ hx)) e' he
/-- 'm[k] = v' -/
theorem run_update_i {b n : Nat} {f : Int → Option Value} (h : IMap q w b n f) (ht : P.underlying t = some (.map kt et)) (hk : P.underlying kt = some (.int q)) (k : Int) (v : Value) :
 ∃ w', (Instr.mapUpdate t (.map (some b)) (.int q k) v).run P w = .ok () w' ∧ IMap q w' b (if (f k).isSome then n else n + 1) (fun j => if j = k then some v else f j) ∧ w.grownBy w' (some b) := by
 obtain ⟨es, c, h1, h2, h3, h4, h5, h6⟩ := h; have hf := h5 k; have hlt := (Array.getElem?_eq_some_iff.1 h1).1; have hfk := run_findKey (P := P) (w := w) hk k es.toList h2; have hck := run_checkKey (P := P) (w := w) hk k false; cases hx : fnd k es.toList 0 with
 | none =>
   have hg : gives es.toList k = none := by unfold gives; rw [hx]; rfl
   rw [hg] at hf; rw [hx] at hfk; refine ⟨setBlock w b (.map (es.push { key := .int q k, val := v, born := c }) (c + 1)), ?_, ⟨_, _, heap_setBlock_same h1 _, ?_, ?_, ?_, fun j => ?_, ?st⟩, ⟨rfl, rfl, rfl, by simp [setBlock], fun i _ hi => heap_setBlock_other h1 _ (fun e => hi (by rw [e]))⟩⟩
   case st => exact MapKept.stamped_push h6 (fun x hx e => gives_mem.1 hg (List.mem_map.2 ⟨x, hx, by simp [keyInt, e]⟩))
   · simp [Instr.mapUpdate, run_underlying ht, MapKept.run_getObj_map h1, hck, hfk, MapKept.run_setObj_map _ h1, Result.andThen, setBlock]
   · intro e he; rw [Array.toList_push, List.mem_append, List.mem_singleton] at he; rcases he with he | rfl
     · exact h2 e he
     · rfl
   · unfold Once; rw [Array.toList_push, List.map_append, List.nodup_append]; refine ⟨h3, by simp, ?_⟩; intro a ha b' hb'; simp only [List.map_cons, List.map_nil, List.mem_singleton] at hb'; rw [hb']; intro e; exact gives_mem.1 hg (by rw [e] at ha; exact ha)
   · rw [← hf]; simp [h4]
   · rw [Array.toList_push, gives_append, h5]
     by_cases hj : j = k
     · subst hj; simp [← hf, keyInt]
     · have : ¬ k = j := fun e => hj e.symm
       simp [hj, keyInt, this]
 | some y =>
   obtain ⟨i, x⟩ := y; have hg : gives es.toList k = some x := by unfold gives; rw [hx]; rfl
   rw [hg] at hf; rw [hx] at hfk; obtain ⟨e0, he0, hk0, hv0⟩ := fnd_at k es.toList i x hx; have hi : i < es.size := by have := (List.getElem?_eq_some_iff.1 he0).1; simpa using this
   have hkey : e0.key = .int q k := by rw [h2 e0 (List.mem_of_getElem? he0), hk0]
   have hkk : ((es[i]?).map (·.key)).getD (.int q k) = .int q k := by
    have : es[i]? = some e0 := by simpa using he0
    rw [this]; simp [hkey]
   refine ⟨setBlock w b (.map (es.modify i fun e => { e with key := .int q k, val := v }) c), ?_, ⟨_, _, heap_setBlock_same h1 _, ?_, ?_, ?_, fun j => ?_, ?st⟩, ⟨rfl, rfl, rfl, by simp [setBlock], fun i _ hi => heap_setBlock_other h1 _ (fun e => hi (by rw [e]))⟩⟩
   case st =>
    refine MapKept.stamped_modify h6 i _ (fun _ _ => rfl) (fun e _ hei => ?_); have he1 : es[i]? = some e0 := by simpa using he0
    rw [he1] at hei; cases hei; exact hkey.symm
   · simp [Instr.mapUpdate, run_underlying ht, MapKept.run_getObj_map h1, hck, hfk, hkk, Instr.keyThatStays, sameBits_int, MapKept.run_setObj_map _ h1, Result.andThen, setBlock]
   · rw [Array.toList_modify]; exact intKeys_modify q _ (fun e => rfl) es.toList i h2
   · unfold Once
     rw [Array.toList_modify, keys_modify _ es.toList i (fun e he => by
      rw [he0] at he; cases he
      rw [hk0]; rfl)]
     exact h3
   · rw [← hf]; simp [h4]
   · rw [Array.toList_modify, gives_modify k v _ (fun e he => ⟨rfl, rfl⟩) es.toList i x hx j, h5]
variable {ops : Array Oper} {rest : List Oper} {o : Oper} {a : Act} {Q : Exit → Act → World → Prop}
end
end Go.Proofs.YtocekhckmpkbmaaGreat
namespace Go.Proofs.YtocekhckmpkbmaaGreat
open Go.RowKit Go.ChangeMaps
section
variable {P : Program} {w : World} {q : IntKind} {ops : Array Oper} {rest : List Oper} {o : Oper} {a : Act} {Q : Exit → Act → World → Prop}
/-- an entry of a map that is written out -/
theorem wpList_insert_i (hgd : o.guard = none) (m x v : Operand) (t : TypeId) (hop : o.op = Op.insert t m x v) {kt et : TypeId} (ht : P.underlying t = some (.map kt et)) (hk : P.underlying kt = some (.int q)) {b n : Nat} {f : Int → Option Value} {k : Int} {val : Value}
 (hm : a.eval m = .map (some b)) (hx : a.eval x = .int q k) (hv : a.eval v = val) (h : IMap q w b n f)
 (hK : ∀ w', IMap q w' b (if (f k).isSome then n else n + 1) (fun j => if j = k then some val else f j) → w.grownBy w' (some b) → wpList P ops Q rest (a.put o.dst undef) w') : wpList P ops Q (o :: rest) a w := by
 refine wpList_plain hgd fun K' hK' => ?_
 obtain ⟨w', hrun, r1, r2⟩ := run_update_i h ht hk k val; unfold Oper.wp; simp [execOp, hop, hm, hx, hv, hrun, Result.andThen]; exact hK' _ _ (hK w' r1 r2)
end
end Go.Proofs.YtocekhckmpkbmaaGreat
namespace Go.Proofs.YtocekhckmpkbmaaGreat
open Go.RowKit
theorem eq_key (w : World) (a b c d : Int) : (binOp .eql 66 (.agg #[.int .i64 a, .int .u16 b]) (.agg #[.int .i64 c, .int .u16 d])).run Tryz.prog w = .ok (.bool (eqK ⟨a, b⟩ ⟨c, d⟩)) w := by
 rw [run_eql_struct]; have hS : Tryz.prog.underlying 66 = some (.struct (Tryz.prog.fieldsOf 66)) := by kernel_rfl
 have hp : Tryz.prog.stoodInHeld 66 = false := by kernel_rfl
 have u3 := Tryz.underlying3; have u4 := Tryz.underlying64; have a3 := Tryz.isAgg3; have a4 := Tryz.isAgg64; have z3 := Tryz.sizeOf3; have z4 := Tryz.sizeOf64; rw [show (10000 : Nat) = 9999 + 1 from rfl, run_equalIn_agg w 9999 66 _ _ hS hp]; simp only [Program.fieldsOf, Tryz.underlying66]; clear hS hp; unfold eqK
 go_simp
 by_cases h1 : a = c <;> by_cases h2 : b = d <;> simp [h1, h2]
set_option maxRecDepth 100000 in
theorem slice_rows (p : Option Addr) (n c k : Nat) (hk : k ≤ n) (hn : n ≤ c) (u : World) :
 (Instr.slice 52 (.slice p n c) none (some (.int .i64 (k : Int))) none).run Tryz.prog u = .ok (.slice p k c) u := by
 have h := run_slice_h (P := Tryz.prog) u 52 p n c (by kernel_rfl) .i64 (k : Int) (by omega) (by omega); rw [h, show (sizeOf (Tryz.prog.elem 52)).run Tryz.prog u = .ok 4 u by kernel_rfl]; simp only [Result.andThen, sliced, Int.toNat_natCast, Nat.zero_mul, Nat.sub_zero]; congr 2
 split
 · rfl
 · cases p <;> simp [add_zero]
set_option maxRecDepth 100000 in
theorem slice_kids (p : Option Addr) (n c k : Nat) (hk : k ≤ n) (hn : n ≤ c) (u : World) :
 (Instr.slice 53 (.slice p n c) none (some (.int .i64 (k : Int))) none).run Tryz.prog u = .ok (.slice p k c) u := by
 have h := run_slice_h (P := Tryz.prog) u 53 p n c (by kernel_rfl) .i64 (k : Int) (by omega) (by omega); rw [h, show (sizeOf (Tryz.prog.elem 53)).run Tryz.prog u = .ok 3 u by kernel_rfl]; simp only [Result.andThen, sliced, Int.toNat_natCast, Nat.zero_mul, Nat.sub_zero]; congr 2
 split
 · rfl
 · cases p <;> simp [add_zero]
def lastR (L : List RowD) (r : RowD) : Bool := match L[L.length - 1]? with | none => true | some p => decide (cmpK p.key r.key < 0)
def fitsR (L : List RowD) (r : RowD) : Bool := decide (chkRowC r = 0) && lastR L r
theorem chkRowC_or (r : RowD) : chkRowC r = 0 ∨ chkRowC r = 151 := by
 unfold chkRowC
 split
 · exact .inl rfl
 · exact .inr rfl
set_option maxRecDepth 100000 in
set_option maxHeartbeats 4000000 in
theorem rowFits_any (q : Option Addr) (n c : Nat) (L : List RowD) (t id v : Int) (s : ByteArray) (w : World) (hr : RowsOn w q n c L) (hs : s.size ≤ maxLen) :
 Calls Tryz.prog 112 #[.slice q n c, .agg #[.int .i64 t, .int .u16 id, .int .i64 v, .string s]] w (fun e w' => e = .returned (.bool (fitsR L ⟨⟨t, id⟩, v, s⟩)) ∧ Below w.heap.size w w') := by
 obtain ⟨W, hW⟩ : ∃ W, w.alloc (.cells #[.int .i64 t, .int .u16 id, .int .i64 v, .string s] 68) = W := ⟨_, rfl⟩; have hbx := lh (one_box hW); have hs2 := sizeRow t id v s; have hrr := lh (hr.below hbx.out.1 (Nat.le_refl _)); have hlen := lh hr.len; have hm := Nat.le_trans hr.le hr.cap; unfold maxLen at hm; have hck := lh (checkRow_any t id v s W hs); obtain ⟨x, hx⟩ : ∃ x, chkRowC ⟨⟨t, id⟩, v, s⟩ = x := ⟨_, rfl⟩; rw [hx] at hck; have hx' := lh hx; have hor := chkRowC_or ⟨⟨t, id⟩, v, s⟩; rw [hx] at hor; clear hx hr hs; rcases hor with rfl | rfl
 · have hfit : Hid (fitsR L ⟨⟨t, id⟩, v, s⟩ = lastR L ⟨⟨t, id⟩, v, s⟩) := by show fitsR _ _ = _; unfold fitsR; rw [hx'.out]; rfl
   rw [hfit.out]; rcases Nat.eq_zero_or_pos n with hn0 | hn0
   · subst hn0; have hL := List.eq_nil_of_length_eq_zero hlen.out; subst hL
     go_enter Tryz.func112, Tryz.ntmps112
     go_wp2_with (first
      | (with_reducible refine wpList_load_at rfl 68 (.tmp 3) rfl Tryz.underlying68 rfl hs2 rfl hbx.out.2.1.all ?_))
     clear hW; refine hck.out.mono ?_; clear hck; rintro e w1 ⟨rfl, hb1⟩; have hd := lh (hbx.out.1.trans (hb1.mono hbx.out.1.size)); clear hb1; go_wp2
     go_quiet (fail)
     rename_i nq
     go_wp2; go_ret; exact ⟨rfl, hd.out.trans ((below_drewN _ _).mono hd.out.size)⟩
   · obtain ⟨m, rfl⟩ : ∃ m, n = m + 1 := ⟨n - 1, by omega⟩; obtain ⟨A, ⟨⟨pt, pid⟩, pv, ps⟩, hqA, hpx, _, hpc⟩ := hrr.out.at (show m < m + 1 by omega); subst hqA; have hlast : Hid (lastR L ⟨⟨t, id⟩, v, s⟩ = decide (cmpK ⟨pt, pid⟩ ⟨t, id⟩ < 0)) := by show lastR _ _ = _; unfold lastR; rw [show L.length - 1 = m by rw [hlen.out]; rfl, hpx]
     rw [hlast.out]; have hcmp := lh (fun u => compare_any ⟨pt, pid⟩ ⟨t, id⟩ u); obtain ⟨z, hz⟩ : ∃ z, cmpK ⟨pt, pid⟩ ⟨t, id⟩ = z := ⟨_, rfl⟩; rw [hz] at hcmp ⊢; have g0 : W.cell? (A.add (m * 4)) = some (.int .i64 pt) := by have h := hpc 0 _ rfl; rwa [add0] at h
     have g1 : W.cell? ⟨(A.add (m * 4)).block, (A.add (m * 4)).off + 1, none⟩ = some (.int .u16 pid) := hpc 1 _ rfl; have hg := lh (And.intro g0 g1); have w0 : IntKind.i64.wrap ((m : Int) + 1 - 1) = m := by rw [Int.add_sub_cancel]; exact IntWalk.i64_in (m : Int) (by omega)
     have w1' : IntKind.i64.wrap (m : Int) = m := IntWalk.i64_in (m : Int) (by omega); have j0 : (0 : Int) ≤ m := by omega
     have j1 : (m : Int) < (m : Int) + 1 := by omega
     clear hpx hpc g0 g1 hz
     go_enter Tryz.func112, Tryz.ntmps112
     go_wp2_with (first
      | (with_reducible refine wpList_load_at rfl 68 (.tmp 3) rfl Tryz.underlying68 rfl hs2 rfl hbx.out.2.1.all ?_))
     clear hW; refine hck.out.mono ?_; clear hck; rintro e w1 ⟨rfl, hb1⟩; have hd := lh (hbx.out.1.trans (hb1.mono hbx.out.1.size)); have p0 := (hbx.out.2.1.below hb1 (Nat.le_refl _)).cell 0 rfl; have p1 := (hbx.out.2.1.below hb1 (Nat.le_refl _)).cell 1 rfl; have g0 := cell_keeps hb1 (Nat.le_refl _) hg.out.1; have g1 := cell_keeps hb1 (Nat.le_refl _) hg.out.2; clear hb1; go_wp2
     go_region_held3 (fun u => u.cell? ⟨w.heap.size, 0, none⟩ = some (.int .i64 t) ∧ u.cell? ⟨w.heap.size, 1, none⟩ = some (.int .u16 id) ∧ u.cell? (A.add (m * 4)) = some (.int .i64 pt) ∧ u.cell? ⟨(A.add (m * 4)).block, (A.add (m * 4)).off + 1, none⟩ = some (.int .u16 pid) ∧ Below w1.heap.size w1 u)
      (first | exact ⟨p0, p1, g0, g1, below_drew _⟩ | (go_split_ands; exact ⟨cell_keeps hb6.out (Nat.le_refl _) (by assumption), cell_keeps hb6.out (Nat.le_refl _) (by assumption), cell_keeps hb6.out (Nat.le_refl _) (by assumption), cell_keeps hb6.out (Nat.le_refl _) (by assumption), below_step hb6.out (by assumption)⟩))
      (first
        | (go_at_call 129; refine (hcmp.out _).mono ?_; rintro e x5 ⟨rfl, hb6'⟩; have hb6 := lh hb6'; clear hb6'))
     have hv4 : Hid (Below w1.heap.size w1 x5) := by
      show Below _ _ _
      go_split_ands
      assumption
     clear p0 p1 g0 g1 w0 w1' hcmp; go_wp2; go_ret; exact ⟨rfl, hd.out.trans (hv4.out.mono hd.out.size)⟩
 · have hfit : Hid (fitsR L ⟨⟨t, id⟩, v, s⟩ = false) := by show fitsR _ _ = _; unfold fitsR; rw [hx'.out]; rfl
   rw [hfit.out]
   go_enter Tryz.func112, Tryz.ntmps112
   go_wp2_with (first
    | (with_reducible refine wpList_load_at rfl 68 (.tmp 3) rfl Tryz.underlying68 rfl hs2 rfl hbx.out.2.1.all ?_))
   clear hW; refine hck.out.mono ?_; clear hck; rintro e w1 ⟨rfl, hb1⟩; have hd := lh (hbx.out.1.trans (hb1.mono hbx.out.1.size)); clear hb1; go_wp2; go_ret; exact ⟨rfl, hd.out⟩
end Go.Proofs.YtocekhckmpkbmaaGreat
namespace Go.Proofs.YtocekhckmpkbmaaGreat
open Go.RowKit
def hasP (L : List KidD) (p : Int) : Bool := L.any fun x => x.page == p
theorem hasP_true {L : List KidD} {p : Int} {i : Nat} {x : KidD} (hx : L[i]? = some x) (h : x.page = p) : hasP L p = true := by
 unfold hasP; rw [List.any_eq_true]; exact ⟨x, List.mem_of_getElem? hx, by simpa using h⟩
theorem hasP_false {L : List KidD} {p : Int} (h : ∀ (i : Nat) (x : KidD), L[i]? = some x → x.page ≠ p) : hasP L p = false := by
 unfold hasP; rw [List.any_eq_false]; intro x hx; obtain ⟨i, hi⟩ := List.mem_iff_getElem?.1 hx; simpa using h i x hi
set_option maxRecDepth 100000 in
set_option maxHeartbeats 1000000 in
theorem taken_any (t id a p : Int) (b : Nat) (w : World) (hc : w.cell? ⟨b, 2, none⟩ = some (.int .i64 p)) :
 Calls Tryz.prog 131 #[.agg #[.int .i64 t, .int .u16 id, .int .i64 a], .pointer (some ⟨b, 0, none⟩)] w (fun e w' => e = .returned (.bool (a == p)) ∧ Below w.heap.size w w') := by
 have hb := cell_in hc; have hb2 : b < w.heap.size := hb; have hd : Hid (Below w.heap.size w (w.alloc (.cells #[.int .i64 t, .int .u16 id, .int .i64 a] 100))) := (Below.refl _ _).alloc (Nat.le_refl _) _; clear hb; obtain ⟨W, hW⟩ : ∃ W, w.alloc (.cells #[.int .i64 t, .int .u16 id, .int .i64 a] 100) = W := ⟨_, rfl⟩; have hbx := lh (one_box hW); have c2 := hbx.out.2.1.cell 2 rfl; have d2 := cell_keeps hbx.out.1 (Nat.le_refl _) hc; clear hc
 by_cases h : a = p
 · rw [show (a == p) = true by simpa using h]; subst h
   go_enter Tryz.func131, Tryz.ntmps131
   go_wp2; go_ret; exact ⟨rfl, hbx.out.1⟩
 · have h2 : (a == p) = false := by simpa using h
   rw [h2]
   go_enter Tryz.func131, Tryz.ntmps131
   go_wp2; go_ret; exact ⟨rfl, hbx.out.1⟩
def IdxPost (w : World) (b : Bool) (e : Ending) (w' : World) : Prop := ∃ z : Int, e = .returned (.int .i64 z) ∧ ((0 ≤ z ∧ b = true) ∨ (z = -1 ∧ b = false)) ∧ Below w.heap.size w w'
set_option maxRecDepth 100000 in
set_option maxHeartbeats 2000000 in
theorem index_any (q : Option Addr) (n c : Nat) (L : List KidD) (p : Int) (b : Nat) (w : World) (hr : KidsOn w q n c L) (hc : w.cell? ⟨b, 2, none⟩ = some (.int .i64 p)) :
 Calls Tryz.prog 144 #[.slice q n c, .func (.func 131) #[] #[.pointer (some ⟨b, 0, none⟩)]] w (IdxPost w (hasP L p)) := by
 have hrr := lh hr; have hm := Nat.le_trans hr.le hr.cap; unfold maxLen at hm; have hcc := lh hc; have hT : Hid (∀ (i : Nat) (x : KidD), L[i]? = some x → x.page = p → hasP L p = true) := fun i x hx h => hasP_true hx h
 have hF : Hid ((∀ (i : Nat) (x : KidD), L[i]? = some x → x.page ≠ p) → hasP L p = false) := fun h => hasP_false h
 obtain ⟨E, hE⟩ : ∃ E, hasP L p = E := ⟨_, rfl⟩; rw [hE] at hT hF ⊢; clear hr hc hE
 go_enter Tryz.func144, Tryz.ntmps144
 go_wp2
 go_loopw [8] (fun v8 wr => ∃ k : Nat, k ≤ n ∧ v8 = .int .i64 k ∧ Hid (Below w.heap.size w wr) ∧ Hid (∀ (i : Nat) (x : KidD), i < k → L[i]? = some x → x.page ≠ p)) (fun v8 _ => n - (RowKit.intOf v8).toNat)
 case atStart => exact ⟨0, Nat.zero_le _, rfl, (show Below _ _ _ from Below.refl _ _), fun i x hi => by omega⟩
 case round =>
  obtain ⟨k, hk, rfl, hb, hp⟩ := hrel
  by_cases hlt : k < n
  · obtain ⟨A, ⟨⟨pt, pid⟩, pp⟩, hqA, hx, hok, hcA⟩ := (hrr.out.below hb.out (Nat.le_refl _)).at hlt; subst hqA; have hcell : Hid (∀ j x, ([.int .i64 pt, .int .u16 pid, .int .i64 pp] : List Value)[j]? = some x → wr.cell? ((A.add (k * 3)).add j) = some x) := hcA; have hs2 := sizeKid pt pid pp; have hx' := lh hx; have htk := lh (taken_any pt pid pp p b wr (cell_keeps hb.out (Nat.le_refl _) hcc.out)); have i0 : (0 : Int) ≤ k := by omega
    have i1 : (k : Int) < n := by omega
    clear hx hok hcA
    by_cases h : pp = p
    · rw [show (pp == p) = true by simpa using h] at htk; have h' := lh h; clear h
      go_wp2_with (first
       | (with_reducible refine wpList_load_at rfl 100 (.tmp 14) rfl Tryz.underlying100 rfl hs2 rfl hcell.out ?_))
      refine htk.out.mono ?_; clear htk; rintro e w1 ⟨rfl, hb1⟩; have hd := lh (hb.out.trans (hb1.mono hb.out.size)); clear hb1; go_wp2; go_ret; exact ⟨_, rfl, .inl ⟨i0, hT.out k _ hx'.out h'.out⟩, hd.out⟩
    · rw [show (pp == p) = false by simpa using h] at htk; have h' := lh h; clear h
      go_wp2_with (first
       | (with_reducible refine wpList_load_at rfl 100 (.tmp 14) rfl Tryz.underlying100 rfl hs2 rfl hcell.out ?_))
      refine htk.out.mono ?_; clear htk; rintro e w1 ⟨rfl, hb1⟩; have hd := lh (hb.out.trans (hb1.mono hb.out.size)); clear hb1; go_wp2
      go_roundw
      case rel =>
       refine ⟨k + 1, by omega, by go_num, hd, fun i x hi hxi => ?_⟩; rcases Nat.lt_or_ge i k with h | h
       · exact hp.out i x h hxi
       · obtain rfl : i = k := by omega
         rw [hx'.out] at hxi; cases hxi; exact h'.out
      case measure => simp [RowKit.intOf]; omega
  · obtain rfl : n = k := by omega
    have hno := lh (hF.out fun i x hx => hp.out i x (by have := (List.getElem?_eq_some_iff.1 hx).1; rw [hrr.out.len] at this; exact this) hx); go_wp2; go_ret; exact ⟨-1, rfl, .inr ⟨rfl, hno.out⟩, hb.out⟩
set_option maxRecDepth 100000 in
set_option maxHeartbeats 1000000 in
theorem contains_any (q : Option Addr) (n c : Nat) (L : List KidD) (p : Int) (b : Nat) (w : World) (hr : KidsOn w q n c L) (hc : w.cell? ⟨b, 2, none⟩ = some (.int .i64 p)) :
 Calls Tryz.prog 132 #[.slice q n c, .func (.func 131) #[] #[.pointer (some ⟨b, 0, none⟩)]] w (fun e w' => e = .returned (.bool (hasP L p)) ∧ Below w.heap.size w w') := by
 have hi := index_any q n c L p b w hr hc; obtain ⟨E, hE⟩ : ∃ E, hasP L p = E := ⟨_, rfl⟩; rw [hE] at hi ⊢; have hi' := lh hi; clear hi hE hc hr
 go_enter Tryz.func132, Tryz.ntmps132
 go_wp2_with fail
 refine hi'.out.mono ?_; clear hi'; rintro e w1 ⟨z, rfl, hz, hb1⟩; have hb1' := lh hb1; clear hb1; rcases hz with ⟨h0, rfl⟩ | ⟨rfl, rfl⟩
 · go_wp2
   go_ret; exact ⟨rfl, hb1'.out⟩
 · go_wp2
   go_ret; exact ⟨rfl, hb1'.out⟩
def lastK (L : List KidD) (k : KidD) : Bool := match L[L.length - 1]? with | none => eqK k.least ⟨0, 0⟩ | some p => decide (cmpK p.least k.least < 0) && !hasP L k.page
def fitsK (L : List KidD) (k : KidD) : Bool := (tabB k.least.t && (decide (1 ≤ k.page) && decide (k.page < 64))) && lastK L k
set_option maxRecDepth 100000 in
set_option maxHeartbeats 4000000 in
theorem kidFits_any (q : Option Addr) (n c : Nat) (L : List KidD) (t id p : Int) (w : World) (hr : KidsOn w q n c L) :
 Calls Tryz.prog 113 #[.slice q n c, .agg #[.int .i64 t, .int .u16 id, .int .i64 p]] w (fun e w' => e = .returned (.bool (fitsK L ⟨⟨t, id⟩, p⟩)) ∧ Below w.heap.size w w') := by
 obtain ⟨W, hW⟩ : ∃ W, w.alloc (.cells #[.int .i64 t, .int .u16 id, .int .i64 p] 100) = W := ⟨_, rfl⟩; have hbx := lh (one_box hW); have hs3 := sizeKey t id
 have k0 : Hid (∀ j x, ([.int .i64 t, .int .u16 id] : List Value)[j]? = some x → W.cell? ((⟨w.heap.size, 0, none⟩ : Addr).add j) = some x) := fun j x hj => hbx.out.2.1 j x (by
  match j, hj with
  | 0, hj => exact hj
  | 1, hj => exact hj
  | j + 2, hj => simp at hj)
 have hrr := lh (hr.below hbx.out.1 (Nat.le_refl _)); have hlen := lh hr.len; have hm := Nat.le_trans hr.le hr.cap; unfold maxLen at hm; have htb := lh (tabled_any t id W); obtain ⟨b, hb⟩ : ∃ b, tabB t = b := ⟨_, rfl⟩; rw [hb] at htb; have hb' := lh hb; clear hb hr
 by_cases hok : b = true ∧ 1 ≤ p ∧ p < 64
 · obtain ⟨rfl, hp1, hp2⟩ := hok; have hp1' : ¬ p < 1 := by omega
   have hp2' : ¬ 64 ≤ p := by omega
   have hfit : Hid (fitsK L ⟨⟨t, id⟩, p⟩ = lastK L ⟨⟨t, id⟩, p⟩) := by show fitsK _ _ = _; unfold fitsK; rw [show tabB (⟨⟨t, id⟩, p⟩ : KidD).least.t = true from hb'.out, show decide (1 ≤ (⟨⟨t, id⟩, p⟩ : KidD).page) = true from decide_eq_true hp1, show decide ((⟨⟨t, id⟩, p⟩ : KidD).page < 64) = true from decide_eq_true hp2]; rfl
   rw [hfit.out]; rcases Nat.eq_zero_or_pos n with hn0 | hn0
   · subst hn0; have hL := List.eq_nil_of_length_eq_zero hlen.out; subst hL; show Calls _ _ _ _ (fun e w' => e = .returned (.bool (eqK ⟨t, id⟩ ⟨0, 0⟩)) ∧ Below w.heap.size w w'); have heq := fun u => eq_key u t id 0 0
     obtain ⟨E, hE⟩ : ∃ E, eqK ⟨t, id⟩ ⟨0, 0⟩ = E := ⟨_, rfl⟩; rw [hE] at heq ⊢; clear hE
     go_enter Tryz.func113, Tryz.ntmps113
     go_wp2_with (first
      | (with_reducible refine wpList_load_at rfl 66 (.tmp 6) rfl Tryz.underlying66 rfl hs3 rfl k0.out ?_)
      | (go_at_call 130; refine htb.out.mono ?_; rintro e w1 ⟨rfl, hb1⟩; have hd := lh (hbx.out.1.trans (hb1.mono hbx.out.1.size)); have c2 := (hbx.out.2.1.below hb1 (Nat.le_refl _)).cell 2 rfl; have c0 := (hbx.out.2.1.below hb1 (Nat.le_refl _)).cell 0 rfl; have c1 := (hbx.out.2.1.below hb1 (Nat.le_refl _)).cell 1 rfl; clear hb1))
     go_ret; exact ⟨rfl, hd.out⟩
   · obtain ⟨m, rfl⟩ : ∃ m, n = m + 1 := ⟨n - 1, by omega⟩; obtain ⟨A, ⟨⟨pt, pid⟩, pp⟩, hqA, hpx, _, hpc⟩ := hrr.out.at (show m < m + 1 by omega); subst hqA; have hlast : Hid (lastK L ⟨⟨t, id⟩, p⟩ = (decide (cmpK ⟨pt, pid⟩ ⟨t, id⟩ < 0) && !hasP L p)) := by show lastK _ _ = _; unfold lastK; rw [show L.length - 1 = m by rw [hlen.out]; rfl, hpx]
     rw [hlast.out]; have hcmp := lh (fun u => compare_any ⟨pt, pid⟩ ⟨t, id⟩ u); obtain ⟨z, hz⟩ : ∃ z, cmpK ⟨pt, pid⟩ ⟨t, id⟩ = z := ⟨_, rfl⟩; rw [hz] at hcmp ⊢; have hcon := lh (fun u (hu : Below W.heap.size W u) => contains_any (some A) (m + 1) c L p w.heap.size u (hrr.out.below hu (Nat.le_refl _)) ((hbx.out.2.1.below hu (Nat.le_refl _)).cell 2 rfl)); obtain ⟨H, hH⟩ : ∃ H, hasP L p = H := ⟨_, rfl⟩; rw [hH] at hcon ⊢; have g0 : W.cell? (A.add (m * 3)) = some (.int .i64 pt) := by have h := hpc 0 _ rfl; rwa [add0] at h
     have g1 : W.cell? ⟨(A.add (m * 3)).block, (A.add (m * 3)).off + 1, none⟩ = some (.int .u16 pid) := hpc 1 _ rfl; have hg := lh (And.intro g0 g1); have w0 : IntKind.i64.wrap ((m : Int) + 1 - 1) = m := by rw [Int.add_sub_cancel]; exact IntWalk.i64_in (m : Int) (by omega)
     have w1' : IntKind.i64.wrap (m : Int) = m := IntWalk.i64_in (m : Int) (by omega); have j0 : (0 : Int) ≤ m := by omega
     have j1 : (m : Int) < (m : Int) + 1 := by omega
     clear hpx hpc g0 g1 hz hH
     by_cases hz0 : z < 0
     all_goals
      try rw [show decide (z < 0) = true from decide_eq_true hz0]
      try rw [show decide (z < 0) = false from decide_eq_false hz0]
      try (have hz1 : decide (z < 0) = false := decide_eq_false hz0)
      go_enter Tryz.func113, Tryz.ntmps113
      go_wp2_with (first
       | (with_reducible refine wpList_load_at rfl 66 (.tmp 6) rfl Tryz.underlying66 rfl hs3 rfl k0.out ?_)
       | (go_at_call 130; refine htb.out.mono ?_; rintro e w1 ⟨rfl, hb1⟩; have hd0 := lh hb1; have hd := lh (hbx.out.1.trans (hb1.mono hbx.out.1.size)); have p0 := (hbx.out.2.1.below hb1 (Nat.le_refl _)).cell 0 rfl; have p1 := (hbx.out.2.1.below hb1 (Nat.le_refl _)).cell 1 rfl; have p2 := (hbx.out.2.1.below hb1 (Nat.le_refl _)).cell 2 rfl; have g0 := cell_keeps hb1 (Nat.le_refl _) hg.out.1; have g1 := cell_keeps hb1 (Nat.le_refl _) hg.out.2; clear hb1))
      clear p2
     · go_region_held3 (fun u => u.cell? ⟨w.heap.size, 0, none⟩ = some (.int .i64 t) ∧ u.cell? ⟨w.heap.size, 1, none⟩ = some (.int .u16 id) ∧ u.cell? (A.add (m * 3)) = some (.int .i64 pt) ∧ u.cell? ⟨(A.add (m * 3)).block, (A.add (m * 3)).off + 1, none⟩ = some (.int .u16 pid) ∧ Below W.heap.size W u)
        (first | exact ⟨p0, p1, g0, g1, hd0.out.trans ((below_drew _).mono hd0.out.size)⟩ | (go_split_ands; exact ⟨cell_keeps hb6.out (Nat.le_refl _) (by assumption), cell_keeps hb6.out (Nat.le_refl _) (by assumption), cell_keeps hb6.out (Nat.le_refl _) (by assumption), cell_keeps hb6.out (Nat.le_refl _) (by assumption), below_step hb6.out (by assumption)⟩))
        (first
          | (go_at_call 129; refine (hcmp.out _).mono ?_; rintro e x5 ⟨rfl, hb6'⟩; have hb6 := lh hb6'; clear hb6')
          | (go_at_call 132; refine (hcon.out _ (by go_split_ands; assumption)).mono ?_; rintro e x6 ⟨rfl, hb6'⟩; have hb6 := lh hb6'; clear hb6'))
       have hv4 : Hid (Below W.heap.size W x6) := by
        show Below _ _ _
        go_split_ands
        assumption
       clear p0 p1 g0 g1 w0 w1' hcmp hcon; go_wp2; go_ret; exact ⟨by simp, hbx.out.1.trans (hv4.out.mono hbx.out.1.size)⟩
     · have hpa : Hid (∀ j x, ([.int .i64 pt, .int .u16 pid] : List Value)[j]? = some x → w1.drew.cell? ((A.add (m * 3)).add j) = some x) := fun j x hj => by
        match j, hj with
        | 0, hj => rw [add0]; cases hj; exact g0
        | 1, hj => cases hj; exact g1
        | j + 2, hj => simp at hj
       have hka : Hid (∀ j x, ([.int .i64 t, .int .u16 id] : List Value)[j]? = some x → w1.drew.cell? ((⟨w.heap.size, 0, none⟩ : Addr).add j) = some x) := fun j x hj => cell_keeps hd0.out (Nat.le_refl _) (k0.out j x hj)
       have hs4 := sizeKey pt pid; have hS0 : Hid ((∀ j x, ([.int .i64 pt, .int .u16 pid] : List Value)[j]? = some x → w1.drew.cell? ((A.add (m * 3)).add j) = some x) ∧ (∀ j x, ([.int .i64 t, .int .u16 id] : List Value)[j]? = some x → w1.drew.cell? ((⟨w.heap.size, 0, none⟩ : Addr).add j) = some x)) := ⟨hpa.out, hka.out⟩; clear p0 p1 g0 g1; refine wp_region_held (S := fun u => (∀ j x, ([.int .i64 pt, .int .u16 pid] : List Value)[j]? = some x → u.cell? ((A.add (m * 3)).add j) = some x) ∧ (∀ j x, ([.int .i64 t, .int .u16 id] : List Value)[j]? = some x → u.cell? ((⟨w.heap.size, 0, none⟩ : Addr).add j) = some x)) (by kernel_rfl) ?_; change wpAnyH _ _ _ _ _ _ _ _ (World.drew w1); refine tg 0 28 (.slice (some A) (m + 1) c) hS0.out ?_; go_frame; refine tg 1 29 (.slice (some A) (m + 1) c) hS0.out ?_; go_frame; refine tg 2 30 (.int .i64 ((m : Int) + 1)) hS0.out ?_; go_frame; refine tg 3 31 (.int .i64 m) hS0.out ?_
       go_frame; refine tg 4 32 (.pointer (some (A.add (m * 3)))) hS0.out ?_; go_frame; refine tg 5 33 (.pointer (some (A.add (m * 3)))) hS0.out ?_; go_frame; refine held_tk (i := 6) (dst := some 34) rfl rfl (y_load_agg 66 (.tmp 33) rfl rfl rfl (fun W hW => run_loadVar_at Tryz.underlying66 rfl hs4 _ hW.1)) hS0.out ?_; go_frame; refine tg 7 35 (.pointer (some ⟨w.heap.size, 0, none⟩)) hS0.out ?_; go_frame; refine held_tk (i := 8) (dst := some 36) rfl rfl (y_load_agg 66 (.tmp 35) rfl rfl rfl (fun W hW => run_loadVar_at Tryz.underlying66 rfl hs3 _ hW.2)) hS0.out ?_; go_frame; refine held_call (i := 9) (dst := some 37) rfl rfl (by kernel_rfl) rfl (by go_simp) (hcmp.out _) ?_; rintro e x4 ⟨rfl, hb6⟩; have hb8 := lh ((below_drew w1).trans hb6); have hS1 : Hid ((∀ j x, ([.int .i64 pt, .int .u16 pid] : List Value)[j]? = some x → x4.cell? ((A.add (m * 3)).add j) = some x) ∧ (∀ j x, ([.int .i64 t, .int .u16 id] : List Value)[j]? = some x → x4.cell? ((⟨w.heap.size, 0, none⟩ : Addr).add j) = some x)) := ⟨fun j' x' h => cell_keeps hb6 (Nat.le_refl _) (hS0.out.1 j' x' h), fun j' x' h => cell_keeps hb6 (Nat.le_refl _) (hS0.out.2 j' x' h)⟩
       clear hb6; refine ⟨_, rfl, hS1.out, ?_⟩; go_frame; refine tg 10 38 (.bool false) hS1.out ?_; go_frame; refine tg 11 39 (.bool false) hS1.out ?_; go_frame; refine tu 12 40 hS1.out ?_; go_frame; refine tu 13 41 hS1.out ?_; go_frame; refine tu 14 42 hS1.out ?_; go_frame; refine tu 15 43 hS1.out ?_; go_frame; refine tg 16 44 (.bool false) hS1.out ?_; go_frame; refine tg 17 4 (.bool false) hS1.out ?_; go_frame; refine wpAnyH_done (by kernel_rfl) ?_ _; clear w0 w1' hcmp hcon hS0 hS1; go_wp2; go_ret; exact ⟨rfl, hd.out.trans (hb8.out.mono hd.out.size)⟩
 · have hfit : Hid (fitsK L ⟨⟨t, id⟩, p⟩ = false) := by
    show fitsK _ _ = _; unfold fitsK; rw [show tabB (⟨⟨t, id⟩, p⟩ : KidD).least.t = b from hb'.out]; show ((b && (decide (1 ≤ p) && decide (p < 64))) && _) = false
    by_cases h1 : b = true
    · by_cases h2 : 1 ≤ p
      · by_cases h3 : p < 64
        · exact absurd ⟨h1, h2, h3⟩ hok
        · simp [h3]
      · simp [h2]
    · simp [h1]
   rw [hfit.out]; cases b with
   | false =>
     go_enter Tryz.func113, Tryz.ntmps113
     go_wp2_with (first
      | (with_reducible refine wpList_load_at rfl 66 (.tmp 6) rfl Tryz.underlying66 rfl hs3 rfl k0.out ?_)
      | (go_at_call 130; refine htb.out.mono ?_; rintro e w1 ⟨rfl, hb1⟩; have hd := lh (hbx.out.1.trans (hb1.mono hbx.out.1.size)); clear hb1))
     go_ret; exact ⟨rfl, hd.out⟩
   | true =>
     by_cases h2 : p < 1
     · go_enter Tryz.func113, Tryz.ntmps113
       go_wp2_with (first
        | (with_reducible refine wpList_load_at rfl 66 (.tmp 6) rfl Tryz.underlying66 rfl hs3 rfl k0.out ?_)
        | (go_at_call 130; refine htb.out.mono ?_; rintro e w1 ⟨rfl, hb1⟩; have hd := lh (hbx.out.1.trans (hb1.mono hbx.out.1.size)); have p2 := (hbx.out.2.1.below hb1 (Nat.le_refl _)).cell 2 rfl; clear hb1))
       go_ret; exact ⟨rfl, hd.out⟩
     · have h3 : 64 ≤ p := by
        rcases Int.lt_or_le p 64 with h | h
        · exact absurd ⟨rfl, by omega, h⟩ hok
        · exact h
       clear hok
       go_enter Tryz.func113, Tryz.ntmps113
       go_wp2_with (first
        | (with_reducible refine wpList_load_at rfl 66 (.tmp 6) rfl Tryz.underlying66 rfl hs3 rfl k0.out ?_)
        | (go_at_call 130; refine htb.out.mono ?_; rintro e w1 ⟨rfl, hb1⟩; have hd := lh (hbx.out.1.trans (hb1.mono hbx.out.1.size)); have p2 := (hbx.out.2.1.below hb1 (Nat.le_refl _)).cell 2 rfl; clear hb1))
       go_ret; exact ⟨rfl, hd.out⟩
end Go.Proofs.YtocekhckmpkbmaaGreat
