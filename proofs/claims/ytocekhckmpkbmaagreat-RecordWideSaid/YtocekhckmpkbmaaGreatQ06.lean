/- Parts of the proof: The reader of codec: what a content has, by its Kind; Maps whose keys are integers, by what they give: lookup, store, delete, clear, len as laws for the walk; nothing of a program is claimed here; The reader of codec: which reading belongs to which Kind; Which row may stand behind others, which kid -/
import Derived.Test.YtocekhckmpkbmaaGreatQ05
import Derived.Test.YtocekhckmpkbmaaGreatRows
import Derived.WalkKit
import Derived.Lib.Hide
import Derived.ProofKit
import Derived.Maps.Own
import Derived.Lib.SlKeysI
namespace Go.Proofs.YtocekhckmpkbmaaGreat
open Go.RowKit
structure ContD where
 kind : Int
 rows : List RowD
 kids : List KidD
/-- a content, by its kind and its two slices -/
structure ContOn (w : World) (k : Int) (rq : Option Addr) (rn rc : Nat) (kq : Option Addr) (kn kc : Nat) (c : ContD) : Prop where
 kind : k = c.kind
 rows : RowsOn w rq rn rc c.rows
 kids : KidsOn w kq kn kc c.kids
theorem ContOn.below {B : Nat} {w w' : World} {k : Int} {rq kq : Option Addr} {rn rc kn kc : Nat} {c : ContD} (h : ContOn w k rq rn rc kq kn kc c) (hb : Below B w w') (hB : w.heap.size ≤ B) : ContOn w' k rq rn rc kq kn kc c := ⟨h.kind, h.rows.below hb hB, h.kids.below hb hB⟩
theorem ContOn.gr {w w' : World} {k : Int} {rq kq : Option Addr} {rn rc kn kc g : Nat} {c : ContD} (h : ContOn w k rq rn rc kq kn kc c) (hg : w.grownBy w' (some g)) (h1 : ∀ a, rq = some a → a.block ≠ g) (h2 : ∀ a, kq = some a → a.block ≠ g) : ContOn w' k rq rn rc kq kn kc c := ⟨h.kind, h.rows.gr hg h1, h.kids.gr hg h2⟩
def zeroC : ContD := ⟨0, [], []⟩
theorem cont_one (k : Int) (rq : Option Addr) (rn rc : Nat) (kq : Option Addr) (kn kc : Nat) : ∀ v ∈ ([.int .i64 k, .slice rq rn rc, .slice kq kn kc] : List Value), v.oneCell' = true := by
 intro v hv
 simp only [List.mem_cons, List.not_mem_nil, or_false] at hv
 rcases hv with rfl | rfl | rfl <;> rfl
/-- what lies in new memory, or nowhere -/
def Far (B : Nat) (q : Option Addr) : Prop := ∀ a, q = some a → B ≤ a.block
theorem Far.none_ (B : Nat) : Far B none := fun a h => by cases h
def freeP (s : St) : ContD × Int × St := (zeroC, 0, s)
def leafP (s : St) : ContD × Int × St := (⟨1, (listR s).1, []⟩, (listR s).2.1, (listR s).2.2)
def innerP (s : St) : ContD × Int × St := (⟨2, [], (listK s).1⟩, (listK s).2.1, (listK s).2.2)
def ContRd (p : ContD × Int × St) (w : World) (g : Nat) (d : Option Nat) (e : Ending) (w' : World) : Prop :=
 ∃ c er s' k rq rn rc kq kn kc, p = (c, er, s') ∧ e = .returned (.tuple #[.agg #[.int .i64 k, .slice rq rn rc, .slice kq kn kc], .int .i64 er]) ∧ ContOn w' k rq rn rc kq kn kc c ∧ Far w.heap.size rq ∧ Far w.heap.size kq ∧ w.grownBy w' (some g) ∧ RdrS w' g d s'
set_option maxRecDepth 100000 in
set_option maxHeartbeats 2000000 in
theorem free_rd (g : Nat) (d : Option Nat) (s : St) (w : World) (h : RdrS w g d s) :
 Calls Tryz.prog 160 #[.agg #[.pointer (some ⟨g, 0, none⟩)]] w (ContRd (freeP s) w g d) := by
 have hb : Hid (Below w.heap.size w ((w.alloc (.cells #[.pointer (some ⟨g, 0, none⟩)] 190)).alloc (.cells #[.int .i64 0, .slice none 0 0, .slice none 0 0] 55))) := ((Below.refl _ _).alloc (Nat.le_refl _) _).alloc (by simp) _
 have hr := Lib.hid (h.below hb.out)
 clear h
 go_enter Tryz.func160, Tryz.ntmps160
 go_wp2
 exact bodyPost_ret (v := .tuple #[.agg #[.int .i64 0, .slice none 0 0, .slice none 0 0], .int .i64 0]) (by simp [results, Tryz.results160, go_sem]) rfl ⟨zeroC, 0, s, 0, none, 0, 0, none, 0, 0, rfl, rfl, ⟨rfl, RowsOn.none_ _, KidsOn.none_ _⟩, Far.none_ _, Far.none_ _, below_grown hb.out _, hr.out⟩
set_option maxRecDepth 100000 in
set_option maxHeartbeats 2000000 in
theorem leaf_rd (g : Nat) (d : Option Nat) (s : St) (w : World) (h : RdrS w g d s) :
 Calls Tryz.prog 161 #[.agg #[.pointer (some ⟨g, 0, none⟩)]] w (ContRd (leafP s) w g d) := by
 obtain ⟨W, hW⟩ : ∃ W, (w.alloc (.cells #[.pointer (some ⟨g, 0, none⟩)] 190)).alloc (.cells #[.int .i64 0, .slice none 0 0, .slice none 0 0] 55) = W := ⟨_, rfl⟩
 have hbx := Lib.hid (two_boxes (xs := [.pointer (some ⟨g, 0, none⟩)]) (ys := [.int .i64 0, .slice none 0 0, .slice none 0 0]) hW)
 have hres : Hid (RowV 55 W (w.heap.size + 1) [.int .i64 0, .slice none 0 0, .slice none 0 0]) := by
  have h0 := RowV.made (T := 55) (w.alloc (.cells #[.pointer (some ⟨g, 0, none⟩)] 190)) [.int .i64 0, .slice none 0 0, .slice none 0 0]
  show RowV _ _ _ _
  rw [← hW]; simpa using h0
 have hg := h.lt
 have hsrc := Lib.hid h.src
 have hr := Lib.hid (h.below hbx.out.1)
 have hs1 := sizeRd (.pointer (some ⟨g, 0, none⟩))
 clear h
 go_enter Tryz.func161, Tryz.ntmps161
 go_wp2_with (first
  | (with_reducible refine wpList_load_at rfl 190 (.tmp 1) rfl Tryz.underlying190 rfl hs1 rfl hbx.out.2.1.all ?_))
 clear hW
 refine (listR_rd g d s W hr.out).mono ?_
 rintro e w1 ⟨L, er, s', q, n, c, hl, rfl, hon, hg1, hr1, hfar⟩
 have hl' := Lib.hid hl
 have hon' := Lib.hid hon
 have hgr := Lib.hid (Gr.after hbx.out.1 hg1)
 have hres1 := Lib.hid (hres.out.gr hg1 (by omega))
 have hr1' := Lib.hid hr1
 have hfar' := Lib.hid hfar
 clear hl hon hg1 hr1 hfar
 have hs2 := sizeCont (.int .i64 1) (.slice q n c) (.slice none 0 0)
 go_wp2_with (first
  | ((with_reducible refine wpList_store_at rfl 55 (.tmp 2) (.tmp 14) rfl (o := 0) (vs := [.int .i64 1, .slice q n c, .slice none 0 0]) rfl rfl hres1.out hs2 (Nat.le_refl _) (cont_one _ _ _ _ _ _ _) ?_)
     intro w9 h9 hg9
     have q9 := Lib.hid h9
     have hg9' := Lib.hid hg9
     clear h9 hg9))
 have s9 : RowV 55 w9 (w.heap.size + 1) [.int .i64 1, .slice q n c, .slice none 0 0] := q9.out
 have m0 := s9.cell 0
 have m1 := s9.cell 1
 have m2 := s9.cell 2
 simp only [List.getElem?_cons_zero, List.getElem?_cons_succ] at m0 m1 m2
 refine bodyPost_ret (v := .tuple #[.agg #[.int .i64 1, .slice q n c, .slice none 0 0], .int .i64 er]) (by simp [results, Tryz.results161, go_sem, m0, m1, m2]) rfl ?_
 have hne : Hid (∀ a, q = some a → a.block ≠ w.heap.size + 1) := fun a ha => by have := hfar'.out a ha; have := hbx.out.2.2.2; omega
 exact ⟨⟨1, L, []⟩, er, s', 1, q, n, c, none, 0, 0, by unfold leafP; rw [hl'.out], rfl, ⟨rfl, hon'.out.gr hg9'.out hne.out, KidsOn.none_ _⟩, (fun a ha => by have := hfar'.out a ha; have := hbx.out.1.size; omega), Far.none_ _, Gr.own hgr.out hg9'.out (by omega), hr1'.out.keep hg9'.out (by omega) (fun e => by have := hsrc.out _ e; omega)⟩
set_option maxRecDepth 100000 in
set_option maxHeartbeats 2000000 in
theorem inner_rd (g : Nat) (d : Option Nat) (s : St) (w : World) (h : RdrS w g d s) :
 Calls Tryz.prog 162 #[.agg #[.pointer (some ⟨g, 0, none⟩)]] w (ContRd (innerP s) w g d) := by
 obtain ⟨W, hW⟩ : ∃ W, (w.alloc (.cells #[.pointer (some ⟨g, 0, none⟩)] 190)).alloc (.cells #[.int .i64 0, .slice none 0 0, .slice none 0 0] 55) = W := ⟨_, rfl⟩
 have hbx := Lib.hid (two_boxes (xs := [.pointer (some ⟨g, 0, none⟩)]) (ys := [.int .i64 0, .slice none 0 0, .slice none 0 0]) hW)
 have hres : Hid (RowV 55 W (w.heap.size + 1) [.int .i64 0, .slice none 0 0, .slice none 0 0]) := by
  have h0 := RowV.made (T := 55) (w.alloc (.cells #[.pointer (some ⟨g, 0, none⟩)] 190)) [.int .i64 0, .slice none 0 0, .slice none 0 0]
  show RowV _ _ _ _
  rw [← hW]; simpa using h0
 have hg := h.lt
 have hsrc := Lib.hid h.src
 have hr := Lib.hid (h.below hbx.out.1)
 have hs1 := sizeRd (.pointer (some ⟨g, 0, none⟩))
 clear h
 go_enter Tryz.func162, Tryz.ntmps162
 go_wp2_with (first
  | (with_reducible refine wpList_load_at rfl 190 (.tmp 1) rfl Tryz.underlying190 rfl hs1 rfl hbx.out.2.1.all ?_))
 clear hW
 refine (listK_rd g d s W hr.out).mono ?_
 rintro e w1 ⟨L, er, s', q, n, c, hl, rfl, hon, hg1, hr1, hfar⟩
 have hl' := Lib.hid hl
 have hon' := Lib.hid hon
 have hgr := Lib.hid (Gr.after hbx.out.1 hg1)
 have hres1 := Lib.hid (hres.out.gr hg1 (by omega))
 have hr1' := Lib.hid hr1
 have hfar' := Lib.hid hfar
 clear hl hon hg1 hr1 hfar
 have hs2 := sizeCont (.int .i64 2) (.slice none 0 0) (.slice q n c)
 go_wp2_with (first
  | ((with_reducible refine wpList_store_at rfl 55 (.tmp 2) (.tmp 14) rfl (o := 0) (vs := [.int .i64 2, .slice none 0 0, .slice q n c]) rfl rfl hres1.out hs2 (Nat.le_refl _) (cont_one _ _ _ _ _ _ _) ?_)
     intro w9 h9 hg9
     have q9 := Lib.hid h9
     have hg9' := Lib.hid hg9
     clear h9 hg9))
 have s9 : RowV 55 w9 (w.heap.size + 1) [.int .i64 2, .slice none 0 0, .slice q n c] := q9.out
 have m0 := s9.cell 0
 have m1 := s9.cell 1
 have m2 := s9.cell 2
 simp only [List.getElem?_cons_zero, List.getElem?_cons_succ] at m0 m1 m2
 refine bodyPost_ret (v := .tuple #[.agg #[.int .i64 2, .slice none 0 0, .slice q n c], .int .i64 er]) (by simp [results, Tryz.results162, go_sem, m0, m1, m2]) rfl ?_
 have hne : Hid (∀ a, q = some a → a.block ≠ w.heap.size + 1) := fun a ha => by have := hfar'.out a ha; have := hbx.out.2.2.2; omega
 exact ⟨⟨2, [], L⟩, er, s', 2, none, 0, 0, q, n, c, by unfold innerP; rw [hl'.out], rfl, ⟨rfl, RowsOn.none_ _, hon'.out.gr hg9'.out hne.out⟩, Far.none_ _, (fun a ha => by have := hfar'.out a ha; have := hbx.out.1.size; omega), Gr.own hgr.out hg9'.out (by omega), hr1'.out.keep hg9'.out (by omega) (fun e => by have := hsrc.out _ e; omega)⟩
end Go.Proofs.YtocekhckmpkbmaaGreat
namespace Go.Proofs.YtocekhckmpkbmaaGreat
open Go.RowKit Go.ChangeMaps
def keyInt (e : MapEntry) : Int := match e.key with | .int _ j => j | _ => 0
/-- all keys are integers of the kind q -/
def IntKeys (q : IntKind) (es : List MapEntry) : Prop := ∀ e ∈ es, e.key = .int q (keyInt e)
def fnd (k : Int) : List MapEntry → Nat → Option (Nat × Value)
 | [], _ => none
 | e :: es, i => if keyInt e = k then some (i, e.val) else fnd k es (i + 1)
theorem findNow_int (q : IntKind) (k : Int) : ∀ (es : List MapEntry) (i : Nat), IntKeys q es → Instr.findNow (.int q) (.int q k) es i = some (fnd k es i)
 | [], _, _ => rfl
 | e :: es, i, h => by
   have he := h e (List.mem_cons_self ..)
   have ih := findNow_int q k es (i + 1) (fun e' h' => h e' (List.mem_cons_of_mem _ h'))
   unfold Instr.findNow fnd
   rw [he]
   by_cases hk : keyInt e = k
   · simp [Instr.sameNow, hk]
   · have hb : (k == keyInt e) = false := by simpa using fun h => hk h.symm
     simp [Instr.sameNow, hk, hb, ih]
/-- what a map gives -/
def gives (es : List MapEntry) (k : Int) : Option Value := (fnd k es 0).map (·.2)
theorem fnd_shift (k : Int) : ∀ (es : List MapEntry) (i : Nat), fnd k es i = (fnd k es 0).map fun x => (x.1 + i, x.2)
 | [], _ => rfl
 | e :: es, i => by
   unfold fnd
   by_cases hk : keyInt e = k
   · simp [hk]
   · rw [if_neg hk, if_neg hk, fnd_shift k es (i + 1), fnd_shift k es (0 + 1)]
     cases fnd k es 0 <;> simp
     omega
theorem gives_nil (k : Int) : gives [] k = none := rfl
theorem gives_cons (e : MapEntry) (es : List MapEntry) (k : Int) : gives (e :: es) k = if keyInt e = k then some e.val else gives es k := by
 unfold gives
 rw [fnd]
 by_cases hk : keyInt e = k
 · simp [hk]
 · rw [if_neg hk, if_neg hk, fnd_shift]
   cases fnd k es 0 <;> simp
theorem gives_append (es : List MapEntry) (e : MapEntry) (k : Int) : gives (es ++ [e]) k = if gives es k = none ∧ keyInt e = k then some e.val else gives es k := by
 induction es with
 | nil => simp [gives_cons, gives_nil]
 | cons x es ih =>
   rw [List.cons_append, gives_cons, gives_cons, ih]
   by_cases hk : keyInt x = k
   · simp [hk]
   · simp [hk]
/-- at the place where a key was found its element is turned -/
theorem gives_modify (k : Int) (v : Value) (g : MapEntry → MapEntry) (hg : ∀ e, keyInt e = k → keyInt (g e) = k ∧ (g e).val = v) : ∀ (es : List MapEntry) (i : Nat) (x : Value), fnd k es 0 = some (i, x) →
 ∀ j, gives (es.modify i g) j = if j = k then some v else gives es j
 | [], _, _, h, _ => by cases h
 | e :: es, i, x, h, j => by
   rw [fnd] at h
   by_cases hk : keyInt e = k
   · rw [if_pos hk] at h
     cases h
     have h1 := hg e hk
     rw [List.modify_zero_cons, gives_cons, gives_cons, h1.1, h1.2, hk]
     by_cases hj : j = k
     · subst hj; simp
     · have : ¬ k = j := fun h => hj h.symm
       simp [hj, this]
   · rw [if_neg hk, fnd_shift] at h
     cases hf : fnd k es 0 with
     | none => rw [hf] at h; cases h
     | some y =>
       rw [hf] at h
       simp only [Option.map_some, Option.some.injEq, Prod.mk.injEq] at h
       obtain ⟨h1, h2⟩ := h
       have ih := gives_modify k v g hg es y.1 y.2 (by rw [hf]) j
       rw [← h1]
       show gives (List.modify (e :: es) (y.1 + 1) g) j = _
       rw [List.modify_succ_cons, gives_cons, gives_cons, ih]
       by_cases hj : j = k
       · subst hj; simp [hk]
       · simp [hj]
/-- no key stands twice -/
def Once (es : List MapEntry) : Prop := (es.map keyInt).Nodup
theorem gives_mem {es : List MapEntry} {k : Int} : gives es k = none ↔ k ∉ es.map keyInt := by
 induction es with
 | nil => simp [gives_nil]
 | cons e es ih =>
   rw [gives_cons]
   by_cases hk : keyInt e = k
   · simp [hk]
   · have : ¬ k = keyInt e := fun h => hk h.symm
     simp [hk, this, ih]
/-- Block b is a map of n entries whose keys are integers of the kind q; it gives f. -/
def IMap (q : IntKind) (w : World) (b n : Nat) (f : Int → Option Value) : Prop :=
 ∃ es clock, w.heap[b]? = some (.map es clock) ∧ IntKeys q es.toList ∧ Once es.toList ∧ es.size = n ∧ (∀ k, gives es.toList k = f k) ∧ MapKept.Stamped es clock
theorem IMap.made (q : IntKind) (w : World) : IMap q (w.alloc (.map #[] 0)) w.heap.size 0 (fun _ => none) :=
 ⟨#[], 0, heap_alloc_new _ _, fun e h => by simp at h, by simp [Once], rfl, fun k => rfl, MapKept.stamped_empty 0⟩
theorem IMap.block {q : IntKind} {w w' : World} {b n : Nat} {f : Int → Option Value} (h : IMap q w b n f) (hb : w'.heap[b]? = w.heap[b]?) : IMap q w' b n f := by
 obtain ⟨es, c, h1, h2⟩ := h
 exact ⟨es, c, by rw [hb, h1], h2⟩
theorem IMap.lt {q : IntKind} {w : World} {b n : Nat} {f : Int → Option Value} (h : IMap q w b n f) : b < w.heap.size := by
 obtain ⟨es, c, h1, _⟩ := h
 exact (Array.getElem?_eq_some_iff.1 h1).1
section
variable {P : Program} {w : World} {q : IntKind} {t kt et : TypeId}
theorem run_findKey (hk : P.underlying kt = some (.int q)) (k : Int) (es : List MapEntry) (h : IntKeys q es) : (Instr.findKey kt (.int q k) es).run P w = .ok (fnd k es 0) w := by
 simp [Instr.findKey, run_underlying hk, findNow_int q k es 0 h]
theorem run_checkKey (hk : P.underlying kt = some (.int q)) (k : Int) (b : Bool) : (Instr.checkKey b 10000 kt (.int q k)).run P w = .ok () w := by
 unfold Instr.checkKey
 simp [run_underlying hk]
/-- 'v, ok := m[k]' and 'm[k]' -/
theorem run_lookup_i {b n : Nat} {f : Int → Option Value} (h : IMap q w b n f) (ht : P.underlying t = some (.map kt et)) (hk : P.underlying kt = some (.int q)) (k : Int) {z : Value} (hz : (zeroValue et).run P w = .ok z w) :
 (Instr.lookup t (.map (some b)) (.int q k) true).run P w = .ok (.tuple #[(f k).getD z, .bool (f k).isSome]) w ∧ (Instr.lookup t (.map (some b)) (.int q k) false).run P w = .ok ((f k).getD z) w := by
 obtain ⟨es, c, h1, h2, h3, h4, h5, h6⟩ := h
 have hf := h5 k
 unfold gives at hf
 have hfk := run_findKey (P := P) (w := w) hk k es.toList h2
 have hck := run_checkKey (P := P) (w := w) hk k es.isEmpty
 rw [← hf]
 cases hx : fnd k es.toList 0 with
 | none =>
   rw [hx] at hfk
   constructor <;> simp [Instr.lookup, run_underlying ht, h1, hfk, hck, hz, Result.andThen, getObj, Sem.run]
 | some y =>
   rw [hx] at hfk
   constructor <;> simp [Instr.lookup, run_underlying ht, h1, hfk, hck, Result.andThen, getObj, Sem.run]
theorem sameBits_int (j k : IntKind) (a b : Int) : Instr.sameBits 10000 (.int j a) (.int k b) = (j == k && a == b) := rfl
theorem fnd_at (k : Int) : ∀ (es : List MapEntry) (i : Nat) (v : Value), fnd k es 0 = some (i, v) → ∃ e, es[i]? = some e ∧ keyInt e = k ∧ e.val = v
 | [], _, _, h => by cases h
 | e :: es, i, v, h => by
   rw [fnd] at h
   by_cases hk : keyInt e = k
   · rw [if_pos hk] at h
     cases h
     exact ⟨e, rfl, hk, rfl⟩
   · rw [if_neg hk, fnd_shift] at h
     cases hf : fnd k es 0 with
     | none => rw [hf] at h; cases h
     | some y =>
       rw [hf] at h
       simp only [Option.map_some, Option.some.injEq, Prod.mk.injEq] at h
       obtain ⟨rfl, h2⟩ := h
       obtain ⟨e', h3, h4, h5⟩ := fnd_at k es y.1 y.2 (by rw [hf])
       exact ⟨e', by simpa using h3, h4, h5.trans h2⟩
theorem keys_modify (g : MapEntry → MapEntry) : ∀ (es : List MapEntry) (i : Nat), (∀ e, es[i]? = some e → keyInt (g e) = keyInt e) → (es.modify i g).map keyInt = es.map keyInt
 | [], i, _ => by cases i <;> simp
 | e :: es, 0, h => by
   rw [List.modify_zero_cons, List.map_cons, List.map_cons, h e rfl]
 | e :: es, i + 1, h => by
   rw [List.modify_succ_cons, List.map_cons, List.map_cons, keys_modify g es i (fun e' he => h e' (by simpa using he))]
theorem intKeys_modify (q : IntKind) (g : MapEntry → MapEntry) (hg : ∀ e, (g e).key = .int q (keyInt (g e))) : ∀ (es : List MapEntry) (i : Nat), IntKeys q es → IntKeys q (es.modify i g)
 | [], i, h => by cases i <;> simpa using h
 | e :: es, 0, h => by
   rw [List.modify_zero_cons]
   intro e' he
   rcases List.mem_cons.1 he with rfl | he
   · exact hg e
   · exact h e' (List.mem_cons_of_mem _ he)
 | e :: es, i + 1, h => by
   rw [List.modify_succ_cons]
   intro e' he
   rcases List.mem_cons.1 he with rfl | he
   · exact h _ (List.mem_cons_self ..)
   · exact intKeys_modify q g hg es i (fun x hx => h x (List.mem_cons_of_mem _ hx)) e' he
/-- 'm[k] = v' -/
theorem run_update_i {b n : Nat} {f : Int → Option Value} (h : IMap q w b n f) (ht : P.underlying t = some (.map kt et)) (hk : P.underlying kt = some (.int q)) (k : Int) (v : Value) :
 ∃ w', (Instr.mapUpdate t (.map (some b)) (.int q k) v).run P w = .ok () w' ∧ IMap q w' b (if (f k).isSome then n else n + 1) (fun j => if j = k then some v else f j) ∧ w.grownBy w' (some b) := by
 obtain ⟨es, c, h1, h2, h3, h4, h5, h6⟩ := h
 have hf := h5 k
 have hlt := (Array.getElem?_eq_some_iff.1 h1).1
 have hfk := run_findKey (P := P) (w := w) hk k es.toList h2
 have hck := run_checkKey (P := P) (w := w) hk k false
 cases hx : fnd k es.toList 0 with
 | none =>
   have hg : gives es.toList k = none := by unfold gives; rw [hx]; rfl
   rw [hg] at hf
   rw [hx] at hfk
   refine ⟨setBlock w b (.map (es.push { key := .int q k, val := v, born := c }) (c + 1)), ?_, ⟨_, _, heap_setBlock_same h1 _, ?_, ?_, ?_, fun j => ?_, ?st⟩, ⟨rfl, rfl, rfl, by simp [setBlock], fun i _ hi => heap_setBlock_other h1 _ (fun e => hi (by rw [e]))⟩⟩
   case st => exact MapKept.stamped_push h6 (fun x hx e => gives_mem.1 hg (List.mem_map.2 ⟨x, hx, by simp [keyInt, e]⟩))
   · simp [Instr.mapUpdate, run_underlying ht, MapKept.run_getObj_map h1, hck, hfk, MapKept.run_setObj_map _ h1, Result.andThen, setBlock]
   · intro e he
     rw [Array.toList_push, List.mem_append, List.mem_singleton] at he
     rcases he with he | rfl
     · exact h2 e he
     · rfl
   · unfold Once
     rw [Array.toList_push, List.map_append, List.nodup_append]
     refine ⟨h3, by simp, ?_⟩
     intro a ha b' hb'
     simp only [List.map_cons, List.map_nil, List.mem_singleton] at hb'
     rw [hb']
     intro e
     exact gives_mem.1 hg (by rw [e] at ha; exact ha)
   · rw [← hf]; simp [h4]
   · rw [Array.toList_push, gives_append, h5]
     by_cases hj : j = k
     · subst hj; simp [← hf, keyInt]
     · have : ¬ k = j := fun e => hj e.symm
       simp [hj, keyInt, this]
 | some y =>
   obtain ⟨i, x⟩ := y
   have hg : gives es.toList k = some x := by unfold gives; rw [hx]; rfl
   rw [hg] at hf
   rw [hx] at hfk
   obtain ⟨e0, he0, hk0, hv0⟩ := fnd_at k es.toList i x hx
   have hi : i < es.size := by have := (List.getElem?_eq_some_iff.1 he0).1; simpa using this
   have hkey : e0.key = .int q k := by rw [h2 e0 (List.mem_of_getElem? he0), hk0]
   have hkk : ((es[i]?).map (·.key)).getD (.int q k) = .int q k := by
    have : es[i]? = some e0 := by simpa using he0
    rw [this]; simp [hkey]
   refine ⟨setBlock w b (.map (es.modify i fun e => { e with key := .int q k, val := v }) c), ?_, ⟨_, _, heap_setBlock_same h1 _, ?_, ?_, ?_, fun j => ?_, ?st⟩, ⟨rfl, rfl, rfl, by simp [setBlock], fun i _ hi => heap_setBlock_other h1 _ (fun e => hi (by rw [e]))⟩⟩
   case st =>
    refine MapKept.stamped_modify h6 i _ (fun _ _ => rfl) (fun e _ hei => ?_)
    have he1 : es[i]? = some e0 := by simpa using he0
    rw [he1] at hei
    cases hei
    exact hkey.symm
   · simp [Instr.mapUpdate, run_underlying ht, MapKept.run_getObj_map h1, hck, hfk, hkk, Instr.keyThatStays, sameBits_int, MapKept.run_setObj_map _ h1, Result.andThen, setBlock]
   · rw [Array.toList_modify]
     exact intKeys_modify q _ (fun e => rfl) es.toList i h2
   · unfold Once
     rw [Array.toList_modify, keys_modify _ es.toList i (fun e he => by
      rw [he0] at he
      cases he
      rw [hk0]; rfl)]
     exact h3
   · rw [← hf]; simp [h4]
   · rw [Array.toList_modify, gives_modify k v _ (fun e he => ⟨rfl, rfl⟩) es.toList i x hx j, h5]
variable {ops : Array Oper} {rest : List Oper} {o : Oper} {a : Act} {Q : Exit → Act → World → Prop}
/-- 'v, ok := m[k]' at the operation -/
theorem wpList_lookup_ok_i (hgd : o.guard = none) (m x : Operand) (t : TypeId) (hop : o.op = Op.lookup t m x true) {kt et : TypeId} (ht : P.underlying t = some (.map kt et)) (hk : P.underlying kt = some (.int q)) {b n : Nat} {f : Int → Option Value} {k : Int} {z : Value}
 (hz : (zeroValue et).run P w = .ok z w) (hm : a.eval m = .map (some b)) (hx : a.eval x = .int q k) (h : IMap q w b n f) (hK : wpList P ops Q rest (a.put o.dst (.tuple #[(f k).getD z, .bool (f k).isSome])) w) : wpList P ops Q (o :: rest) a w := by
 refine wpList_plain hgd fun K' hK' => ?_
 have hrun := (run_lookup_i h ht hk k hz).1
 unfold Oper.wp
 simp [execOp, hop, hm, hx, hrun, Result.andThen]
 exact hK' _ _ hK
end
end Go.Proofs.YtocekhckmpkbmaaGreat
namespace Go.Proofs.YtocekhckmpkbmaaGreat
open Go.RowKit Go.ChangeMaps
section
variable {P : Program} {w : World} {q : IntKind} {ops : Array Oper} {rest : List Oper} {o : Oper} {a : Act} {Q : Exit → Act → World → Prop}
/-- an entry of a map that is written out -/
theorem wpList_insert_i (hgd : o.guard = none) (m x v : Operand) (t : TypeId) (hop : o.op = Op.insert t m x v) {kt et : TypeId} (ht : P.underlying t = some (.map kt et)) (hk : P.underlying kt = some (.int q)) {b n : Nat} {f : Int → Option Value} {k : Int} {val : Value}
 (hm : a.eval m = .map (some b)) (hx : a.eval x = .int q k) (hv : a.eval v = val) (h : IMap q w b n f)
 (hK : ∀ w', IMap q w' b (if (f k).isSome then n else n + 1) (fun j => if j = k then some val else f j) → w.grownBy w' (some b) → wpList P ops Q rest (a.put o.dst undef) w') : wpList P ops Q (o :: rest) a w := by
 refine wpList_plain hgd fun K' hK' => ?_
 obtain ⟨w', hrun, r1, r2⟩ := run_update_i h ht hk k val
 unfold Oper.wp
 simp [execOp, hop, hm, hx, hv, hrun, Result.andThen]
 exact hK' _ _ (hK w' r1 r2)
end
def fnR (k g : Nat) : Value := .func (.func k) #[.agg #[.pointer (some ⟨g, 0, none⟩)]] #[]
def kindsF (g : Nat) (j : Int) : Option Value := if j = 2 then some (fnR 162 g) else if j = 1 then some (fnR 161 g) else if j = 0 then some (fnR 160 g) else none
set_option maxRecDepth 100000 in
set_option maxHeartbeats 2000000 in
theorem kinds_any (g : Nat) (w : World) :
 Calls Tryz.prog 157 #[.agg #[.pointer (some ⟨g, 0, none⟩)]] w (fun e w' => ∃ b, e = .returned (.map (some b)) ∧ IMap .i64 w' b 3 (kindsF g) ∧ Below w.heap.size w w') := by
 obtain ⟨W, hW⟩ : ∃ W, w.alloc (.cells #[.pointer (some ⟨g, 0, none⟩)] 190) = W := ⟨_, rfl⟩
 have hbx := Lib.hid (one_box (xs := [.pointer (some ⟨g, 0, none⟩)]) hW)
 have hs1 := sizeRd (.pointer (some ⟨g, 0, none⟩))
 have hmm := @run_makeMap Tryz.prog
 obtain ⟨W2, hW2⟩ : ∃ W2, W.alloc (.map #[] 0) = W2 := ⟨_, rfl⟩
 have hm0 : Hid (IMap .i64 W2 W.heap.size 0 (fun _ => none)) := by rw [← hW2]; exact IMap.made _ _
 have hb2 : Hid (Below W.heap.size W W2) := by rw [← hW2]; exact (Below.refl _ _).alloc (Nat.le_refl _) _
 have e2 := Lib.hid (hbx.out.2.1.below hb2.out (Nat.le_refl _))
 have hlt : w.heap.size < W.heap.size := by have := hbx.out.2.2; omega
 go_enter Tryz.func157, Tryz.ntmps157
 go_wp2_with (first
  | (with_reducible refine wpList_load_at rfl 190 (.tmp 1) rfl Tryz.underlying190 rfl hs1 rfl e2.out.all ?_)
  | ((with_reducible refine wpList_insert_i rfl (.tmp 3) (.const (.int .i64 0)) (.tmp 5) 198 rfl Tryz.underlying198 Tryz.underlying3 rfl rfl rfl hm0.out ?_)
     intro w3 h3 hg3
     have hm3 := Lib.hid h3
     have hg3' := Lib.hid hg3
     have e3 := Lib.hid (e2.out.gr hg3 (by omega))
     clear h3 hg3)
  | (with_reducible refine wpList_load_at rfl 190 (.tmp 1) rfl Tryz.underlying190 rfl hs1 rfl e3.out.all ?_)
  | ((with_reducible refine wpList_insert_i rfl (.tmp 3) (.const (.int .i64 1)) (.tmp 7) 198 rfl Tryz.underlying198 Tryz.underlying3 rfl rfl rfl hm3.out ?_)
     intro w4 h4 hg4
     have hm4 := Lib.hid h4
     have hg4' := Lib.hid hg4
     have e4 := Lib.hid (e3.out.gr hg4 (by omega))
     clear h4 hg4)
  | (with_reducible refine wpList_load_at rfl 190 (.tmp 1) rfl Tryz.underlying190 rfl hs1 rfl e4.out.all ?_)
  | ((with_reducible refine wpList_insert_i rfl (.tmp 3) (.const (.int .i64 2)) (.tmp 9) 198 rfl Tryz.underlying198 Tryz.underlying3 rfl rfl rfl hm4.out ?_)
     intro w5 h5 hg5
     have hm5 := Lib.hid h5
     have hg5' := Lib.hid hg5
     clear h5 hg5))
 go_ret
 refine ⟨_, rfl, ?_, ?_⟩
 · exact hm5.out
 · have h3 := Gr.trans (Gr.trans hg3'.out hg4'.out) hg5'.out
   exact Gr.below h3 (hbx.out.1.trans (hb2.out.mono hbx.out.1.size)) (by omega)
end Go.Proofs.YtocekhckmpkbmaaGreat
namespace Go.Proofs.YtocekhckmpkbmaaGreat
open Go.RowKit
theorem eq_key (w : World) (a b c d : Int) : (binOp .eql 66 (.agg #[.int .i64 a, .int .u16 b]) (.agg #[.int .i64 c, .int .u16 d])).run Tryz.prog w = .ok (.bool (eqK ⟨a, b⟩ ⟨c, d⟩)) w := by
 rw [run_eql_struct]
 have hS : Tryz.prog.underlying 66 = some (.struct (Tryz.prog.fieldsOf 66)) := by kernel_rfl
 have hp : Tryz.prog.stoodInHeld 66 = false := by kernel_rfl
 have u3 := Tryz.underlying3
 have u4 := Tryz.underlying64
 have a3 := Tryz.isAgg3
 have a4 := Tryz.isAgg64
 have z3 := Tryz.sizeOf3
 have z4 := Tryz.sizeOf64
 rw [show (10000 : Nat) = 9999 + 1 from rfl, run_equalIn_agg w 9999 66 _ _ hS hp]
 simp only [Program.fieldsOf, Tryz.underlying66]
 clear hS hp
 unfold eqK
 go_simp
 by_cases h1 : a = c <;> by_cases h2 : b = d <;> simp [h1, h2]
set_option maxRecDepth 100000 in
theorem slice_rows (p : Option Addr) (n c k : Nat) (hk : k ≤ n) (hn : n ≤ c) (u : World) :
 (Instr.slice 52 (.slice p n c) none (some (.int .i64 (k : Int))) none).run Tryz.prog u = .ok (.slice p k c) u := by
 have h := run_slice_h (P := Tryz.prog) u 52 p n c (by kernel_rfl) .i64 (k : Int) (by omega) (by omega)
 rw [h, show (sizeOf (Tryz.prog.elem 52)).run Tryz.prog u = .ok 4 u by kernel_rfl]
 simp only [Result.andThen, sliced, Int.toNat_natCast, Nat.zero_mul, Nat.sub_zero]
 congr 2
 split
 · rfl
 · cases p <;> simp [add_zero]
set_option maxRecDepth 100000 in
theorem slice_kids (p : Option Addr) (n c k : Nat) (hk : k ≤ n) (hn : n ≤ c) (u : World) :
 (Instr.slice 53 (.slice p n c) none (some (.int .i64 (k : Int))) none).run Tryz.prog u = .ok (.slice p k c) u := by
 have h := run_slice_h (P := Tryz.prog) u 53 p n c (by kernel_rfl) .i64 (k : Int) (by omega) (by omega)
 rw [h, show (sizeOf (Tryz.prog.elem 53)).run Tryz.prog u = .ok 3 u by kernel_rfl]
 simp only [Result.andThen, sliced, Int.toNat_natCast, Nat.zero_mul, Nat.sub_zero]
 congr 2
 split
 · rfl
 · cases p <;> simp [add_zero]
def lastR (L : List RowD) (r : RowD) : Bool := match L[L.length - 1]? with | none => true | some p => decide (cmpK p.key r.key < 0)
def fitsR (L : List RowD) (r : RowD) : Bool := decide (chkRowC r = 0) && lastR L r
theorem chkRowC_or (r : RowD) : chkRowC r = 0 ∨ chkRowC r = 151 := by
 unfold chkRowC
 split
 · exact .inl rfl
 · exact .inr rfl
set_option maxRecDepth 100000 in
set_option maxHeartbeats 4000000 in
theorem rowFits_any (q : Option Addr) (n c : Nat) (L : List RowD) (t id v : Int) (s : ByteArray) (w : World) (hr : RowsOn w q n c L) (hs : s.size ≤ maxLen) :
 Calls Tryz.prog 112 #[.slice q n c, .agg #[.int .i64 t, .int .u16 id, .int .i64 v, .string s]] w (fun e w' => e = .returned (.bool (fitsR L ⟨⟨t, id⟩, v, s⟩)) ∧ Below w.heap.size w w') := by
 obtain ⟨W, hW⟩ : ∃ W, w.alloc (.cells #[.int .i64 t, .int .u16 id, .int .i64 v, .string s] 68) = W := ⟨_, rfl⟩
 have hbx := Lib.hid (one_box (xs := [.int .i64 t, .int .u16 id, .int .i64 v, .string s]) hW)
 have hs2 := sizeRow t id v s
 have hrr := Lib.hid (hr.below hbx.out.1 (Nat.le_refl _))
 have hlen := Lib.hid hr.len
 have hm := Nat.le_trans hr.le hr.cap
 unfold maxLen at hm
 have hck := Lib.hid (checkRow_any t id v s W hs)
 obtain ⟨x, hx⟩ : ∃ x, chkRowC ⟨⟨t, id⟩, v, s⟩ = x := ⟨_, rfl⟩
 rw [hx] at hck
 have hx' := Lib.hid hx
 have hor := chkRowC_or ⟨⟨t, id⟩, v, s⟩
 rw [hx] at hor
 clear hx hr hs
 rcases hor with rfl | rfl
 · have hfit : Hid (fitsR L ⟨⟨t, id⟩, v, s⟩ = lastR L ⟨⟨t, id⟩, v, s⟩) := by show fitsR _ _ = _; unfold fitsR; rw [hx'.out]; rfl
   rw [hfit.out]
   rcases Nat.eq_zero_or_pos n with hn0 | hn0
   · subst hn0
     have hL := List.eq_nil_of_length_eq_zero hlen.out
     subst hL
     go_enter Tryz.func112, Tryz.ntmps112
     go_wp2_with (first
      | (with_reducible refine wpList_load_at rfl 68 (.tmp 3) rfl Tryz.underlying68 rfl hs2 rfl hbx.out.2.1.all ?_))
     clear hW
     refine hck.out.mono ?_
     clear hck
     rintro e w1 ⟨rfl, hb1⟩
     have hd := Lib.hid (hbx.out.1.trans (hb1.mono hbx.out.1.size))
     clear hb1
     go_wp2
     go_quiet (fail)
     rename_i nq
     go_wp2
     go_ret
     exact ⟨rfl, hd.out.trans ((below_drewN _ _).mono hd.out.size)⟩
   · obtain ⟨m, rfl⟩ : ∃ m, n = m + 1 := ⟨n - 1, by omega⟩
     obtain ⟨A, ⟨⟨pt, pid⟩, pv, ps⟩, hqA, hpx, _, hpc⟩ := hrr.out.at (show m < m + 1 by omega)
     subst hqA
     have hlast : Hid (lastR L ⟨⟨t, id⟩, v, s⟩ = decide (cmpK ⟨pt, pid⟩ ⟨t, id⟩ < 0)) := by
      show lastR _ _ = _
      unfold lastR
      rw [show L.length - 1 = m by rw [hlen.out]; rfl, hpx]
     rw [hlast.out]
     have hcmp := Lib.hid (fun u => compare_any ⟨pt, pid⟩ ⟨t, id⟩ u)
     obtain ⟨z, hz⟩ : ∃ z, cmpK ⟨pt, pid⟩ ⟨t, id⟩ = z := ⟨_, rfl⟩
     rw [hz] at hcmp ⊢
     have g0 : W.cell? (A.add (m * 4)) = some (.int .i64 pt) := by have h := hpc 0 _ rfl; rwa [add0] at h
     have g1 : W.cell? ⟨(A.add (m * 4)).block, (A.add (m * 4)).off + 1, none⟩ = some (.int .u16 pid) := hpc 1 _ rfl
     have hg := Lib.hid (And.intro g0 g1)
     have w0 : IntKind.i64.wrap ((m : Int) + 1 - 1) = m := by rw [Int.add_sub_cancel]; exact IntWalk.i64_in (m : Int) (by omega)
     have w1' : IntKind.i64.wrap (m : Int) = m := IntWalk.i64_in (m : Int) (by omega)
     have j0 : (0 : Int) ≤ m := by omega
     have j1 : (m : Int) < (m : Int) + 1 := by omega
     clear hpx hpc g0 g1 hz
     go_enter Tryz.func112, Tryz.ntmps112
     go_wp2_with (first
      | (with_reducible refine wpList_load_at rfl 68 (.tmp 3) rfl Tryz.underlying68 rfl hs2 rfl hbx.out.2.1.all ?_))
     clear hW
     refine hck.out.mono ?_
     clear hck
     rintro e w1 ⟨rfl, hb1⟩
     have hd := Lib.hid (hbx.out.1.trans (hb1.mono hbx.out.1.size))
     have p0 := (hbx.out.2.1.below hb1 (Nat.le_refl _)).cell 0 rfl
     have p1 := (hbx.out.2.1.below hb1 (Nat.le_refl _)).cell 1 rfl
     have g0 := cell_keeps hb1 (Nat.le_refl _) hg.out.1
     have g1 := cell_keeps hb1 (Nat.le_refl _) hg.out.2
     clear hb1
     go_wp2
     go_region_held3 (fun u => u.cell? ⟨w.heap.size, 0, none⟩ = some (.int .i64 t) ∧ u.cell? ⟨w.heap.size, 1, none⟩ = some (.int .u16 id) ∧ u.cell? (A.add (m * 4)) = some (.int .i64 pt) ∧ u.cell? ⟨(A.add (m * 4)).block, (A.add (m * 4)).off + 1, none⟩ = some (.int .u16 pid) ∧ Below w1.heap.size w1 u)
      (first | exact ⟨p0, p1, g0, g1, below_drew _⟩ | (go_split_ands; exact ⟨cell_keeps hb6.out (Nat.le_refl _) (by assumption), cell_keeps hb6.out (Nat.le_refl _) (by assumption), cell_keeps hb6.out (Nat.le_refl _) (by assumption), cell_keeps hb6.out (Nat.le_refl _) (by assumption), below_step hb6.out (by assumption)⟩))
      (first
        | (go_at_call 129; refine (hcmp.out _).mono ?_; rintro e x5 ⟨rfl, hb6'⟩; have hb6 := Lib.hid hb6'; clear hb6'))
     have hv4 : Hid (Below w1.heap.size w1 x5) := by
      show Below _ _ _
      go_split_ands
      assumption
     clear p0 p1 g0 g1 w0 w1' hcmp
     go_wp2
     go_ret
     exact ⟨rfl, hd.out.trans (hv4.out.mono hd.out.size)⟩
 · have hfit : Hid (fitsR L ⟨⟨t, id⟩, v, s⟩ = false) := by show fitsR _ _ = _; unfold fitsR; rw [hx'.out]; rfl
   rw [hfit.out]
   go_enter Tryz.func112, Tryz.ntmps112
   go_wp2_with (first
    | (with_reducible refine wpList_load_at rfl 68 (.tmp 3) rfl Tryz.underlying68 rfl hs2 rfl hbx.out.2.1.all ?_))
   clear hW
   refine hck.out.mono ?_
   clear hck
   rintro e w1 ⟨rfl, hb1⟩
   have hd := Lib.hid (hbx.out.1.trans (hb1.mono hbx.out.1.size))
   clear hb1
   go_wp2
   go_ret
   exact ⟨rfl, hd.out⟩
end Go.Proofs.YtocekhckmpkbmaaGreat
