/- Parts of the proof: Three operations of a region, two in their order and one at any time: all orders end alike. Nothing of a program is claimed here; Regions that lay pieces of bytes behind one another: each piece is made, by a call or a literal, at any time, and appended in its turn; all orders end alike; The document's record: the last bytes of a number; The document's record: how pieces of bytes are made; The writer of record: numbers -/
import Derived.Test.YtocekhckmpkbmaaGreatQ01
import Derived.Test.YtocekhckmpkbmaaGreatQ13
import Derived.Test.YtocekhckmpkbmaaGreatQ15
namespace Go.Proofs.YtocekhckmpkbmaaGreat
open Go.RowKit
/-! three operations, two in their order and one at any time -/
section
variable {P : Program} {ops : Array Oper} {Q : Exit → Act → World → Prop} {md : Region.Mode} {S : World → Prop}
/-- the operation o, a call or not, ends in a value that meets R -/
def Ends (P : Program) (o : Oper) (a : Act) (w : World) (R : Value → World → Prop) : Prop :=
 (∃ f args C, (execOp a.eval o).run P w = .ok (.enter f args) w ∧ Calls P f args w C ∧ ∀ e w', C e w' → ∃ v, e = .returned v ∧ R v w') ∨
 (∃ v w', (execOp a.eval o).run P w = .ok (.value v) w' ∧ R v w')
theorem Ends.op {i : Nat} {o : Oper} {a : Act} {w : World} {K : Act → World → Prop} {R : Value → World → Prop} (hi : ops[i]? = some o) (hw : Region.wanted o (yielded ops a.tmps) = true) (h : Ends P o a w R) (hR : ∀ v w', R v w' → K (a.put o.dst v) w') : wpOp P ops Q i K a w := by
 unfold wpOp; simp only [hi, hw, if_true]; refine .inl ?_; unfold Oper.wp
 rcases h with ⟨f, args, C, hrun, hc, hz⟩ | ⟨v, w', hrun, hz⟩
 · rw [hrun, Oper.upon_enter]
   refine hc.mono fun e w' he => ?_
   obtain ⟨v, rfl, h2⟩ := hz e w' he; exact hR v w' h2
 · rw [hrun, Oper.upon_value]
   exact hR v w' hz
def lack (x : Option Value) : Nat := match x with | none => 1 | some _ => 0
theorem held_three {L : Bool → Bool → Bool → Array Bool} {A : Option Value → Option Value → Option Value → Act} {K : Option Value → Option Value → Option Value → World → Prop} {fuel : Nat}
 {i j p : Nat} {oi oj op : Oper} (hi : ops[i]? = some oi) (hj : ops[j]? = some oj) (hp : ops[p]? = some op)
 (li : ∀ b c, (L false b c).setIfInBounds i true = L true b c) (lj : ∀ b c, (L b false c).setIfInBounds j true = L b true c) (lp : ∀ b c, (L b c false).setIfInBounds p true = L b c true)
 (ai : ∀ x y v, (A none x y).put oi.dst v = A (some v) x y) (aj : ∀ x y v, (A x none y).put oj.dst v = A x (some v) y) (ap : ∀ x y v, (A x y none).put op.dst v = A x y (some v))
 (wi : ∀ x y z, Region.wanted oi (yielded ops (A x y z).tmps) = true) (wj : ∀ x y z, Region.wanted oj (yielded ops (A x y z).tmps) = true) (wp : ∀ x y z, Region.wanted op (yielded ops (A x y z).tmps) = true)
 (hr : ∀ bi bj bp : Bool, (bj = true → bi = true) → (bi && bj && bp) = false → Region.ready md ops (L bi bj bp) = (if bi then (if bj then [] else [j]) else [i]) ++ (if bp then [] else [p]))
 (si : ∀ z w, K none none z w → Ends P oi (A none none z) w (fun v w' => S w' ∧ K (some v) none z w'))
 (sj : ∀ x z w, K (some x) none z w → Ends P oj (A (some x) none z) w (fun v w' => S w' ∧ K (some x) (some v) z w'))
 (sp : ∀ x y w, K x y none w → Ends P op (A x y none) w (fun v w' => S w' ∧ K x y (some v) w'))
 (h : ∀ x y z w, K (some x) (some y) (some z) w → wpAnyH P md ops Q S fuel (L true true true) (A (some x) (some y) (some z)) w) :
 ∀ (n : Nat) (x y z : Option Value) (w : World), (y.isSome = true → x.isSome = true) → lack x + lack y + lack z = n → K x y z w → wpAnyH P md ops Q S (fuel + n) (L x.isSome y.isSome z.isSome) (A x y z) w := by
 intro n
 induction n with
 | zero =>
   intro x y z w _ hn hk
   match x, y, z with
   | some x, some y, some z => exact h x y z w hk
   | none, _, _ => simp only [lack] at hn; omega
   | some _, none, _ => simp only [lack] at hn; omega
   | some _, some _, none => simp only [lack] at hn; omega
 | succ n ih =>
   intro x y z w hxy hn hk
   have hnot : (x.isSome && y.isSome && z.isSome) = false := by
    cases x <;> cases y <;> cases z <;> first | rfl | (simp only [lack] at hn; omega)
   have goP : z = none → wpOp P ops Q p (fun a' w' => S w' ∧ wpAnyH P md ops Q S (fuel + n) ((L x.isSome y.isSome z.isSome).setIfInBounds p true) a' w') (A x y z) w := by
    rintro rfl; refine (sp x y w hk).op hp (wp _ _ _) (fun v w' hv => ⟨hv.1, ?_⟩); rw [ap]; have := ih x y (some v) w' hxy (by simp only [lack] at hn ⊢; omega) hv.2; rw [show (none : Option Value).isSome = false from rfl, lp]; exact this
   refine wpAnyH_all (hr _ _ _ hxy hnot) ?_ (fun k hk2 => ?_)
   · cases x <;> cases y <;> cases z <;> simp at hnot ⊢
   · rcases List.mem_append.1 hk2 with hk2 | hk2
     · cases x with
       | none =>
         have hy : y = none := by
          cases y with
          | none => rfl
          | some y => exact absurd (hxy rfl) (by simp)
         subst hy; rw [show k = i by simpa using hk2]; refine (si z w hk).op hi (wi _ _ _) (fun v w' hv => ⟨hv.1, ?_⟩); rw [ai]; have := ih (some v) none z w' (fun e => rfl) (by simp only [lack] at hn ⊢; omega) hv.2; rw [show (none : Option Value).isSome = false from rfl, li]; exact this
       | some x =>
         cases y with
         | none =>
           rw [show k = j by simpa using hk2]; refine (sj x z w hk).op hj (wj _ _ _) (fun v w' hv => ⟨hv.1, ?_⟩); rw [aj]; have := ih (some x) (some v) z w' (fun e => rfl) (by simp only [lack] at hn ⊢; omega) hv.2; rw [show (none : Option Value).isSome = false from rfl, lj]; exact this
         | some y => simp at hk2
     · cases z with
       | none =>
         rw [show k = p by simpa using hk2]; exact goP rfl
       | some z => simp at hk2
end
def putW (d : Option Tmp) (x : Option Value) (a : Act) : Act := match x with | none => a | some v => a.put d v
theorem putW_put {d d' : Nat} (h : d ≠ d') (x : Option Value) (a : Act) (v : Value) : (putW (some d) x a).put (some d') v = putW (some d) x (a.put (some d') v) := by
 cases x with
 | none => rfl
 | some u =>
   show (a.put (some d) u).put (some d') v = (a.put (some d') v).put (some d) u; unfold Act.put; simp only; congr 1; exact Array.setIfInBounds_comm _ _ h
end Go.Proofs.YtocekhckmpkbmaaGreat
namespace Go.Proofs.YtocekhckmpkbmaaGreat
open Go.RowKit
/-- a piece: the operation that makes it and its slot, the operation that appends it and its slot, its bytes -/
structure Mk where
 i : Nat
 d : Nat
 ai : Nat
 ad : Nat
 k : List UInt8
def LLb (l : Array Bool) : List Mk → List Bool → Array Bool
 | m :: ms, b :: bs => LLb (if b then l.setIfInBounds m.i true else l) ms bs
 | _, _ => l
def AAx (a : Act) : List Mk → List (Option Value) → Act
 | m :: ms, x :: xs => AAx (putW (some m.d) x a) ms xs
 | _, _ => a
theorem LLb_put (i : Nat) : ∀ (ms : List Mk) (bs : List Bool) (l : Array Bool), (LLb l ms bs).setIfInBounds i true = LLb (l.setIfInBounds i true) ms bs
 | [], _, _ => by unfold LLb; rfl
 | _ :: _, [], _ => rfl
 | m :: ms, b :: bs, l => by
   show (LLb _ ms bs).setIfInBounds i true = LLb _ ms bs; rw [LLb_put i ms bs]
   cases b with
   | false => rfl
   | true =>
     simp only [if_true]
     by_cases h : m.i = i
     · subst h; rfl
     · rw [Array.setIfInBounds_comm _ _ h]
theorem LLb_set : ∀ (ms : List Mk) (bs : List Bool) (l : Array Bool) (j : Nat) (m : Mk), ms[j]? = some m → bs[j]? = some false → (LLb l ms bs).setIfInBounds m.i true = LLb l ms (bs.set j true)
 | [], _, _, _, _, h, _ => by simp at h
 | _ :: _, [], _, _, _, _, h => by simp at h
 | m :: ms, b :: bs, l, 0, m', h, hb => by
   obtain rfl : m = m' := by simpa using h
   obtain rfl : b = false := by simpa using hb
   exact LLb_put m.i ms bs l
 | m :: ms, b :: bs, l, j + 1, m', h, hb => LLb_set ms bs _ j m' (by simpa using h) (by simpa using hb)
theorem put_ne {a : Act} {d t : Nat} {v : Value} (h : t ≠ d) : (a.put (some d) v).eval (.tmp t) = a.eval (.tmp t) := by
 show (a.tmps.setIfInBounds d v).getD t undef = a.tmps.getD t undef; simp [Ne.symm h]
theorem put_at {a : Act} {d : Nat} {v : Value} (h : d < a.tmps.size) : (a.put (some d) v).eval (.tmp d) = v := by
 show (a.tmps.setIfInBounds d v).getD d undef = v; simp [h]
theorem put_size (a : Act) (d : Nat) (v : Value) : (a.put (some d) v).tmps.size = a.tmps.size := by
 show (a.tmps.setIfInBounds d v).size = _; simp
theorem AAx_put {d : Nat} {v : Value} : ∀ (ms : List Mk) (xs : List (Option Value)) (a : Act), (∀ m ∈ ms, m.d ≠ d) → (AAx a ms xs).put (some d) v = AAx (a.put (some d) v) ms xs
 | [], _, _, _ => by unfold AAx; rfl
 | _ :: _, [], _, _ => rfl
 | m :: ms, x :: xs, a, h => by
   show (AAx _ ms xs).put (some d) v = AAx (putW (some m.d) x (a.put (some d) v)) ms xs; rw [AAx_put ms xs _ fun m hm => h m (List.mem_cons_of_mem _ hm), putW_put (h m List.mem_cons_self)]
theorem AAx_set {v : Value} : ∀ (ms : List Mk) (xs : List (Option Value)) (a : Act) (j : Nat) (m : Mk), (ms.map Mk.d).Nodup → ms[j]? = some m → xs[j]? = some none → (AAx a ms xs).put (some m.d) v = AAx a ms (xs.set j (some v))
 | [], _, _, _, _, _, h, _ => by simp at h
 | _ :: _, [], _, _, _, _, _, h => by simp at h
 | m :: ms, x :: xs, a, 0, m', hn, h, hx => by
   obtain rfl : m = m' := by simpa using h
   obtain rfl : x = none := by simpa using hx
   rw [List.map_cons, List.nodup_cons] at hn; exact AAx_put ms xs a fun m' hm e => hn.1 (List.mem_map.2 ⟨m', hm, e⟩)
 | m :: ms, x :: xs, a, j + 1, m', hn, h, hx => by
   rw [List.map_cons, List.nodup_cons] at hn; exact AAx_set ms xs _ j m' hn.2 (by simpa using h) (by simpa using hx)
theorem AAx_ne {t : Nat} : ∀ (ms : List Mk) (xs : List (Option Value)) (a : Act), (∀ m ∈ ms, m.d ≠ t) → (AAx a ms xs).eval (.tmp t) = a.eval (.tmp t)
 | [], _, _, _ => by unfold AAx; rfl
 | _ :: _, [], _, _ => rfl
 | m :: ms, x :: xs, a, h => by
   show (AAx _ ms xs).eval _ = _; rw [AAx_ne ms xs _ fun m hm => h m (List.mem_cons_of_mem _ hm)]
   cases x with
   | none => rfl
   | some v => exact put_ne (Ne.symm (h m List.mem_cons_self))
def allB : Nat → List (List Bool)
 | 0 => [[]]
 | n + 1 => (allB n).flatMap fun b => [false :: b, true :: b]
theorem allB_mem : ∀ bs : List Bool, bs ∈ allB bs.length
 | [] => List.mem_singleton.2 rfl
 | b :: bs => List.mem_flatMap.2 ⟨bs, allB_mem bs, by cases b <;> simp⟩
def okR (ms : List Mk) (bs : List Bool) (r : List Nat) : Bool :=
 !r.isEmpty && r.all fun i => (ms.zip bs).any (fun x => x.1.i == i && !x.2) || (match ms, bs with
  | m :: _, true :: _ => m.ai == i
  | _, _ => false)
def chkR (md : Region.Mode) (ops : Array Oper) : Array Bool → List Mk → Bool
 | _, [] => true
 | l, m :: ms => ((allB (ms.length + 1)).all fun bs => okR (m :: ms) bs (Region.ready md ops (LLb l (m :: ms) bs))) && chkR md ops ((l.setIfInBounds m.i true).setIfInBounds m.ai true) ms
def dsts : List Mk → List Nat
 | [] => []
 | m :: ms => m.d :: m.ad :: dsts ms
theorem dsts_d : ∀ (ms : List Mk) (m : Mk), m ∈ ms → m.d ∈ dsts ms
 | m' :: ms, m, h => by
   rcases List.mem_cons.1 h with rfl | h
   · exact List.mem_cons_self
   · exact List.mem_cons_of_mem _ (List.mem_cons_of_mem _ (dsts_d ms m h))
theorem dsts_nd : ∀ (ms : List Mk), (dsts ms).Nodup → (ms.map Mk.d).Nodup
 | [], _ => List.nodup_nil
 | m :: ms, h => by
   have h1 := List.nodup_cons.1 h; have h2 := List.nodup_cons.1 h1.2; rw [List.map_cons, List.nodup_cons]; refine ⟨fun hm => h1.1 (List.mem_cons_of_mem _ ?_), dsts_nd ms h2.2⟩; obtain ⟨m', h3, h4⟩ := List.mem_map.1 hm; rw [← h4]; exact dsts_d ms m' h3
section
variable {ops : Array Oper} {Q : Exit → Act → World → Prop} {md : Region.Mode} {S : World → Prop} {B : Nat} {env : List (Nat × Value)}
def Env (a : Act) : List (Nat × Value) → Prop
 | [] => True
 | x :: xs => a.eval (.tmp x.1) = x.2 ∧ Env a xs
theorem Env.of {a a' : Act} : ∀ {env : List (Nat × Value)}, Env a env → (∀ x ∈ env, a'.eval (.tmp x.1) = a.eval (.tmp x.1)) → Env a' env
 | [], _, _ => trivial
 | x :: _, h, k => ⟨(k x List.mem_cons_self).trans h.1, Env.of h.2 fun y hy => k y (List.mem_cons_of_mem _ hy)⟩
def PcM (k : List UInt8) (u : World) (v : Value) (u' : World) : Prop := ∃ q c, v = .slice q k.length c ∧ Own u' u.heap.size (.slice q k.length c) k ∧ Below u.heap.size u u'
def Mkd (ops : Array Oper) (S : World → Prop) (env : List (Nat × Value)) : Nat → List Mk → Prop
 | _, [] => True
 | out, m :: ms => (∃ o, ops[m.i]? = some o ∧ o.dst = some m.d ∧ (∀ y, Region.wanted o y = true) ∧ ∀ a u, Env a env → S u → Ends Tryz.prog o a u (PcM m.k u)) ∧
   (∃ o, ops[m.ai]? = some o ∧ o.dst = some m.ad ∧ (∀ y, Region.wanted o y = true) ∧ o.op = .call { callee := .builtin .append, args := #[.tmp out, .tmp m.d], argTypes := #[36, 36] }) ∧ Mkd ops S env m.ad ms
theorem Mkd.make : ∀ {ms : List Mk} {out j : Nat} {m : Mk}, Mkd ops S env out ms → ms[j]? = some m → ∃ o, ops[m.i]? = some o ∧ o.dst = some m.d ∧ (∀ y, Region.wanted o y = true) ∧ ∀ a u, Env a env → S u → Ends Tryz.prog o a u (PcM m.k u)
 | [], _, _, _, _, h => by simp at h
 | m :: ms, _, 0, m', h, hj => by
   obtain rfl : m = m' := by simpa using hj
   exact h.1
 | m :: ms, _, j + 1, m', h, hj => Mkd.make h.2.2 (by simpa using hj)
def PcsOk (u : World) (q : Option Addr) : List Mk → List (Option Value) → Prop
 | m :: ms, x :: xs => (∀ X, x = some X → ∃ p c, X = .slice p m.k.length c ∧ Own u 0 (.slice p m.k.length c) m.k ∧ ∀ a, p = some a → q.map (·.block) ≠ some a.block) ∧ PcsOk u q ms xs
 | [], [] => True
 | _, _ => False
theorem PcsOk.keep {u u' : World} {q q' : Option Addr} (hk : ∀ b, b < u.heap.size → q.map (·.block) ≠ some b → u'.heap[b]? = u.heap[b]?) (hq : q'.map (·.block) = q.map (·.block) ∨ q'.map (·.block) = some u.heap.size) : ∀ {ms : List Mk} {xs : List (Option Value)}, PcsOk u q ms xs → PcsOk u' q' ms xs
 | [], [], _ => trivial
 | [], _ :: _, h => h
 | _ :: _, [], h => h
 | m :: ms, x :: xs, h => ⟨fun X hX => by
   obtain ⟨p, c, rfl, ho, ha⟩ := h.1 X hX; refine ⟨p, c, rfl, ho.kept fun a e => hk _ (ho.holds.2.2 a e).2 (ha a e), fun a e => ?_⟩
   rcases hq with hq | hq
   · rw [hq]; exact ha a e
   · rw [hq]
     have := (ho.holds.2.2 a e).2; intro e2; have := Option.some.inj e2
     omega, PcsOk.keep hk hq h.2⟩
theorem PcsOk.set {u : World} {q : Option Addr} {v : Value} : ∀ {ms : List Mk} {xs : List (Option Value)} {j : Nat} {m : Mk}, PcsOk u q ms xs → ms[j]? = some m →
 (∃ p c, v = .slice p m.k.length c ∧ Own u 0 (.slice p m.k.length c) m.k ∧ ∀ a, p = some a → q.map (·.block) ≠ some a.block) → PcsOk u q ms (xs.set j (some v))
 | [], _, _, _, _, hj, _ => by simp at hj
 | _ :: _, [], _, _, h, _, _ => h.elim
 | m :: ms, x :: xs, 0, m', h, hj, hv => by
   obtain rfl : m = m' := by simpa using hj
   exact ⟨fun X hX => by cases hX; exact hv, h.2⟩
 | m :: ms, x :: xs, j + 1, m', h, hj, hv => ⟨h.1, PcsOk.set h.2 (by simpa using hj) hv⟩
def EndOk (S : World → Prop) (B : Nat) (G : Array Bool → Act → World → Prop) : List Mk → Array Bool → Act → Value → List UInt8 → Prop
 | [], l, a, y, L => ∀ u q c, S u → y = .slice q L.length c → Own u B (.slice q L.length c) L → G l a u
 | m :: ms, l, a, _, L => ∀ x y, EndOk S B G ms ((l.setIfInBounds m.i true).setIfInBounds m.ai true) ((a.put (some m.d) x).put (some m.ad) y) y (L ++ m.k)
def lackM : List (Option Value) → Nat
 | [] => 0
 | none :: xs => lackM xs + 1
 | some _ :: xs => lackM xs
theorem lackM_set {v : Value} : ∀ {xs : List (Option Value)} {j : Nat}, xs[j]? = some none → lackM xs = lackM (xs.set j (some v)) + 1
 | [], _, h => by simp at h
 | x :: xs, 0, h => by
   obtain rfl : x = none := by simpa using h
   rfl
 | none :: xs, j + 1, h => by
   show lackM xs + 1 = lackM (xs.set j (some v)) + 1 + 1; rw [lackM_set (v := v) (xs := xs) (j := j) (by simpa using h)]
 | some _ :: xs, j + 1, h => lackM_set (xs := xs) (j := j) (by simpa using h)
def lenM : List Mk → Nat
 | [] => 0
 | m :: ms => m.k.length + lenM ms
/-- S holds on when other memory is made, and when bytes of the call's own grow -/
def KeepS (S : World → Prop) (B : Nat) : Prop := (∀ u, S u → B ≤ u.heap.size) ∧ (∀ u u', S u → Below u.heap.size u u' → S u') ∧ ∀ u u' q n c L, S u → Own u B (.slice q n c) L → u.grownBy u' (blockOf q) → S u'
theorem block_of (q : Option Addr) : blockOf q = q.map (·.block) := by cases q <;> rfl
theorem chain {fuel : Nat} (hKS : KeepS S B) : ∀ (n : Nat) (ms : List Mk) (xs : List (Option Value)) (l : Array Bool) (a : Act) (out : Nat) (q : Option Addr) (c : Nat) (L : List UInt8) (u : World),
 n = ms.length + lackM xs → xs.length = ms.length → chkR md ops l ms = true → (dsts ms).Nodup → (∀ d ∈ dsts ms, d ≠ out ∧ (∀ x ∈ env, x.1 ≠ d) ∧ d < a.tmps.size) →
 a.eval (.tmp out) = .slice q L.length c → Mkd ops S env out ms → EndOk S B (wpAnyH Tryz.prog md ops Q S fuel) ms l a (.slice q L.length c) L → Env a env → L.length + lenM ms ≤ 1099511627776 →
 S u → Own u B (.slice q L.length c) L → PcsOk u q ms xs → wpAnyH Tryz.prog md ops Q S (fuel + n) (LLb l ms (xs.map Option.isSome)) (AAx a ms xs) u := by
 intro n
 induction n with
 | zero =>
   intro ms xs l a out q c L u hn hx hc hd hds hout hM hE henv hbig hS hO hP
   cases ms with
   | cons m ms => rw [List.length_cons] at hn; omega
   | nil =>
     cases xs with
     | cons x xs => simp at hx
     | nil => exact hE u q c hS rfl hO
 | succ n ih =>
   intro ms xs l a out q c L u hn hx hc hd hds hout hM hE henv hbig hS hO hP
   cases ms with
   | nil =>
     cases xs with
     | nil => simp [lackM] at hn
     | cons x xs => simp at hx
   | cons m ms =>
    cases xs with
    | nil => simp at hx
    | cons x xs =>
     have hc0 := hc; rw [chkR, Bool.and_eq_true, List.all_eq_true] at hc; have hb := hc.1 ((x :: xs).map Option.isSome) (by have h := allB_mem ((x :: xs).map Option.isSome); rw [List.length_map, hx] at h; exact h); rw [okR, Bool.and_eq_true] at hb; have hall := List.all_eq_true.1 hb.2; have hnd := dsts_nd _ hd; have henv' : Env (AAx a (m :: ms) (x :: xs)) env := henv.of fun y hy => AAx_ne _ _ _ fun m' hm' e => (hds _ (dsts_d _ m' hm')).2.1 y hy e.symm
     refine ⟨fun h0 => (by rw [h0] at hb; simp at hb), fun i hi => ?_⟩
     rcases Bool.or_eq_true _ _ |>.mp (hall i hi) with h1 | h1
     · -- a piece is made
       obtain ⟨⟨mj, bj⟩, hmem, hij⟩ := List.any_eq_true.1 h1; simp only [Bool.and_eq_true, beq_iff_eq, Bool.not_eq_true'] at hij; obtain ⟨rfl, rfl⟩ := hij; obtain ⟨j, hj⟩ := List.mem_iff_getElem?.1 hmem; obtain ⟨hj1, hj2⟩ := List.getElem?_zip_eq_some.1 hj
       have hxj : (x :: xs)[j]? = some none := by
        rw [List.getElem?_map] at hj2
        cases hh : (x :: xs)[j]? with
        | none => rw [hh] at hj2; simp at hj2
        | some z =>
          rw [hh] at hj2
          cases z with
          | none => rfl
          | some z => simp at hj2
       obtain ⟨o, ho, hdst, hw, hends⟩ := hM.make hj1; refine (hends _ u henv' hS).op ho (hw _) fun v u' hv => ?_
       obtain ⟨p, c', rfl, hO', hb'⟩ := hv; have hS' := hKS.2.1 u u' hS hb'; refine ⟨hS', ?_⟩; rw [hdst, AAx_set (m :: ms) (x :: xs) a j mj hnd hj1 hxj, LLb_set (m :: ms) _ l j mj hj1 hj2, show ((x :: xs).map Option.isSome).set j true = ((x :: xs).set j (some (.slice p mj.k.length c'))).map Option.isSome by rw [List.map_set]; rfl]; refine ih (m :: ms) ((x :: xs).set j (some (.slice p mj.k.length c'))) l a out q c L u' ?_ (by rw [List.length_set]; exact hx) hc0 hd hds hout hM hE henv hbig hS' (hO.below hb') ?_
       · have := lackM_set (v := .slice p mj.k.length c') hxj
         omega
       · refine (hP.keep (fun b hb2 _ => hb'.block b hb2) (.inl rfl)).set hj1 ⟨p, c', rfl, hO'.mono (Nat.zero_le _), fun a' e e2 => ?_⟩
         have h3 := (hO'.holds.2.2 a' e).1
         cases q with
         | none => cases e2
         | some a0 =>
           have h4 := (hO.holds.2.2 a0 rfl).2; have e3 : a0.block = a'.block := Option.some.inj e2; omega
     · -- the next one is appended
       cases x with
       | none => simp at h1
       | some X =>
         have hi2 : m.ai = i := by simpa using h1
         subst hi2; obtain ⟨p, c', rfl, hOp, hap⟩ := hP.1 X rfl; obtain ⟨o, ho, hdst, hw, hop⟩ := hM.2.1; have hd1 := List.nodup_cons.1 hd; have hd2 := List.nodup_cons.1 hd1.2; have hlen : m.k.length + lenM ms = lenM (m :: ms) := rfl; obtain ⟨q', c2, u', hrun, hO2, hg, hq'⟩ := run_append_bytes_at (m := m.k.length) o.type hO hOp.holds.1 (by omega) (hKS.1 u hS); have e1 : (AAx a (m :: ms) (some (.slice p m.k.length c') :: xs)).eval (.tmp out) = .slice q L.length c := (AAx_ne _ _ _ fun m' hm' => (hds _ (dsts_d _ m' hm')).1).trans hout; have hmd : ∀ m' ∈ ms, m'.d ≠ m.d := fun m' hm' e => hd1.1 (List.mem_cons_of_mem _ (e ▸ dsts_d ms m' hm'))
         have hmad : ∀ m' ∈ ms, m'.d ≠ m.ad := fun m' hm' e => hd2.1 (e ▸ dsts_d ms m' hm')
         have e2 : (AAx a (m :: ms) (some (.slice p m.k.length c') :: xs)).eval (.tmp m.d) = .slice p m.k.length c' := by
          show (AAx (a.put (some m.d) _) ms xs).eval _ = _; rw [AAx_ne ms xs _ hmd]; exact put_at (hds _ (List.mem_cons_self)).2.2
         have hrun2 := run_append_oper2 (P := Tryz.prog) hop e1 e2 hrun; have hS' := hKS.2.2 u u' q _ c L hS hO hg; have hl2 : (L ++ m.k).length = L.length + m.k.length := List.length_append; have hO3 : Own u' B (.slice q' (L ++ m.k).length c2) (L ++ m.k) := by rw [hl2]; exact hO2
         have hadz : m.ad < (a.put (some m.d) (.slice p m.k.length c')).tmps.size := by rw [put_size]; exact (hds m.ad (List.mem_cons_of_mem _ List.mem_cons_self)).2.2
         unfold wpOp; simp only [ho, hw, if_true]; refine .inl ?_; unfold Oper.wp; rw [hrun2, Oper.upon_value]; refine ⟨hS', ?_⟩; rw [hdst]; show wpAnyH Tryz.prog md ops Q S (fuel + n) ((LLb (l.setIfInBounds m.i true) ms (xs.map Option.isSome)).setIfInBounds m.ai true) ((AAx (a.put (some m.d) _) ms xs).put (some m.ad) _) u'; rw [LLb_put, AAx_put ms xs _ hmad, ← hl2]; refine ih ms xs _ _ m.ad q' c2 (L ++ m.k) u' ?_ ?_ hc.2 hd2.2 ?_ (put_at hadz) hM.2.2 (hE _ _) ?_ ?_ hS' hO3 ?_
         · simp only [List.length_cons, lackM] at hn; omega
         · simpa using hx
         · intro d hdm
           have h := hds d (List.mem_cons_of_mem _ (List.mem_cons_of_mem _ hdm)); exact ⟨fun e => hd2.1 (e ▸ hdm), h.2.1, by rw [put_size, put_size]; exact h.2.2⟩
         · refine henv.of fun y hy => ?_
           have h1 := (hds m.d List.mem_cons_self).2.1 y hy; have h2 := (hds m.ad (List.mem_cons_of_mem _ List.mem_cons_self)).2.1 y hy; rw [put_ne h2, put_ne h1]
         · rw [hl2]; omega
         · refine hP.2.keep (fun b hb2 hne => hg.block b hb2 ?_) hq'
           rw [block_of]; intro e; exact hne e.symm
def okD (es : List Nat) (out sz : Nat) (ms : List Mk) : Bool := decide (dsts ms).Nodup && (dsts ms).all fun d => d != out && (es.all (· != d) && decide (d < sz))
theorem LLb_none : ∀ (ms : List Mk) (l : Array Bool), LLb l ms ((ms.map fun _ => none).map (Option.isSome (α := Value))) = l
 | [], _ => rfl
 | _ :: ms, l => LLb_none ms l
theorem AAx_none : ∀ (ms : List Mk) (a : Act), AAx a ms (ms.map fun _ => none) = a
 | [], _ => rfl
 | _ :: ms, a => AAx_none ms a
theorem lackM_none : ∀ (ms : List Mk), lackM (ms.map fun _ => none) = ms.length
 | [] => rfl
 | _ :: ms => congrArg (· + 1) (lackM_none ms)
theorem PcsOk.start {u : World} {q : Option Addr} : ∀ (ms : List Mk), PcsOk u q ms (ms.map fun _ => none)
 | [] => trivial
 | _ :: ms => ⟨fun _ h => (by cases h), PcsOk.start ms⟩
/-- all pieces are made and appended, in whatever order -/
theorem chain0 {fuel : Nat} (hKS : KeepS S B) (env : List (Nat × Value)) (ms : List Mk) (out : Nat) {l : Array Bool} {a : Act} {q : Option Addr} {c : Nat} {L : List UInt8} {u : World}
 (hE : EndOk S B (wpAnyH Tryz.prog md ops Q S fuel) ms l a (.slice q L.length c) L) (hS : S u) (hO : Own u B (.slice q L.length c) L) (hlen : L.length + lenM ms ≤ 1099511627776) (hM : Mkd ops S env out ms)
 (hout : a.eval (.tmp out) = .slice q L.length c) (henv : Env a env) (hchk : (chkR md ops l ms && okD (env.map Prod.fst) out a.tmps.size ms) = true) : wpAnyH Tryz.prog md ops Q S (fuel + 2 * ms.length) l a u := by
 simp only [okD, Bool.and_eq_true, decide_eq_true_eq, List.all_eq_true, bne_iff_ne] at hchk; have h := chain (fuel := fuel) hKS (ms.length + ms.length) ms (ms.map fun _ => none) l a out q c L u (by rw [lackM_none]) (by rw [List.length_map]) hchk.1 hchk.2.1 (fun d hd => ⟨(hchk.2.2 d hd).1, fun x hx => (hchk.2.2 d hd).2.1 x.1 (List.mem_map_of_mem hx), (hchk.2.2 d hd).2.2⟩) hout hM hE henv hlen hS hO (PcsOk.start ms); rw [LLb_none, AAx_none] at h; rw [Nat.two_mul]; exact h
end
end Go.Proofs.YtocekhckmpkbmaaGreat
namespace Go.Proofs.YtocekhckmpkbmaaGreat
open Go.RowKit
theorem Own.none_ (w : World) (B : Nat) : Own w B (.slice none 0 0) [] := ⟨rfl, .inl ⟨rfl, rfl⟩⟩
def HRel (W wr : World) (n x m : Nat) (q : Option Addr) (c : Nat) : Prop := Below W.heap.size W wr ∧ Own wr W.heap.size (.slice q (n - m) c) (be (n - m) (x / 256 ^ m))
theorem HRel.next {W wr w1 w2 : World} {n x m : Nat} {q q' : Option Addr} {c c' : Nat} (h : HRel W wr n x (m + 1) q c) (hm : m + 1 ≤ n) (hb : Below wr.heap.size wr w1)
 (ho : Own w2 W.heap.size (.slice q' (n - (m + 1) + 1) c') (be (n - (m + 1)) (x / 256 ^ (m + 1)) ++ [UInt8.ofNat (x / 256 ^ m)])) (hg : w1.grownBy w2 (blockOf q)) : HRel W w2 n x m q' c' := by
 refine ⟨(h.2.below hb).up hg (below_step hb h.1) (Nat.le_refl _), ?_⟩; have e : x / 256 ^ (m + 1) = x / 256 ^ m / 256 := by rw [Nat.div_div_eq_div_mul, Nat.pow_succ]
 rw [e, show n - (m + 1) + 1 = n - m by omega] at ho; rw [show n - m = n - (m + 1) + 1 by omega] at ho ⊢; exact ho
set_option maxRecDepth 100000 in
set_option maxHeartbeats 4000000 in
theorem high_doc (x n : Nat) (w : World) (hn : n ≤ 8) :
 Calls Tryz.prog 42 #[.int .u64 x, .int .i64 n] w (BytesPost w n (be n x)) := by
 have hr0 : Hid (HRel w w n x n none 0) := ⟨Below.refl _ _, by rw [Nat.sub_self]; exact Own.none_ _ _⟩; have hn8 : (n : Int) ≤ 8 := by omega
 go_enter Tryz.func42, Tryz.ntmps42
 go_wp2
 go_loopw [5, 6] (fun v5 v6 wr => ∃ (m : Nat) (i : Int) (q : Option Addr) (c : Nat), m ≤ n ∧ i = m - 1 ∧ v6 = .int .i64 i ∧ v5 = .slice q (n - m) c ∧ Hid (HRel w wr n x m q c)) (fun _ v6 _ => (RowKit.intOf v6 + 1).toNat)
 case atStart => exact ⟨n, (n : Int) - 1, none, 0, Nat.le_refl _, rfl, rfl, by rw [Nat.sub_self], hr0⟩
 case round =>
  obtain ⟨m, i, q, c, hm, hi, rfl, rfl, hr⟩ := hrel
  cases m with
  | succ m =>
    obtain rfl : i = (m : Int) := by omega
    clear hi; have hm8 : (m : Int) < 8 := by omega
    obtain ⟨W2, hW2⟩ : ∃ W2, wr.alloc (.cells #[.int .u8 ((x : Int) / 2 ^ (8 * m) % 256)] 5) = W2 := ⟨_, rfl⟩; have hby2 : Hid (Row 5 W2 wr.heap.size [UInt8.ofNat (x / 256 ^ m)]) := by rw [← hW2, digit]; exact made1 wr _
    have hb2 : Hid (Below wr.heap.size wr W2) := by rw [← hW2]; exact (Below.refl _ _).alloc (Nat.le_refl _) _
    have hown := lh (hr.out.2.below hb2.out); have hsz := lh (Nat.le_trans hr.out.1.size hb2.out.size); have hbig : Hid (n - (m + 1) + 1 ≤ 1099511627776) := by show _ ≤ _; omega
    have hmn : Hid (m + 1 ≤ n) := hm; have hms : Hid (n - (m + 1) + 1 = n - m) := by show _ = _; omega
    go_wp2_with (first
     | (at_builtin
        refine wpList_append_bytes rfl (.tmp 13) (.tmp 19) rfl rfl rfl hown.out (hby2.out.holds 1) hbig.out hsz.out ?_; intro q3 c3 w3 h3 hg3; have hnx := lh (hr.out.next hmn.out hb2.out h3 hg3); rw [hms.out]
        clear h3 hg3))
    go_roundw
    case rel => exact ⟨m, (m : Int) - 1, q3, c3, by omega, rfl, rfl, rfl, hnx⟩
    case measure => simp [RowKit.intOf]
  | zero =>
    obtain rfl : i = -1 := by omega
    clear hi hm; have hro := hr.out.2; rw [Nat.sub_zero, Nat.pow_zero, Nat.div_one] at hro; have hro' := lh hro; have hrb := lh hr.out.1; clear hr hro; go_wp2; go_ret; exact ⟨q, c, rfl, hro'.out, hrb.out⟩
end Go.Proofs.YtocekhckmpkbmaaGreat
namespace Go.Proofs.YtocekhckmpkbmaaGreat
open Go.RowKit
theorem own_neT {T : TypeId} (hT : T ≠ 5) {w : World} {base b n c : Nat} {q : Option Addr} {l : List UInt8} {cs : List Value} (h : Own w base (.slice q n c) l) (hb : RowV T w b cs) : ∀ a, q = some a → b ≠ a.block := by
 intro a ha e; obtain ⟨_, ⟨he, _⟩ | ⟨g, cap, cur, he, _, hh, _⟩⟩ := h
 · cases he; cases ha
 · cases he
   cases ha
   obtain rfl : b = g := e; unfold RowV at hb; rw [hb] at hh; simp at hh; exact hT hh.2
theorem grown_kp {u w' : World} {q : Option Addr} {b : Nat} (h : u.grownBy w' (blockOf q)) (hb : b < u.heap.size) (hne : ∀ a, q = some a → b ≠ a.block) : w'.heap[b]? = u.heap[b]? := by
 refine h.block b hb ?_
 cases q with
 | none => exact fun e => by cases e
 | some a => exact fun e => hne a rfl (by simpa [blockOf] using e)
def BoxS (T : TypeId) (W : World) (g : Nat) (cs : List Value) (u : World) : Prop := Below W.heap.size W u ∧ RowV T u g cs
theorem keepS_box {T : TypeId} (hT : T ≠ 5) (W : World) (g : Nat) (cs : List Value) : KeepS (BoxS T W g cs) W.heap.size :=
 ⟨fun _ h => h.1.size, fun _ _ h hb => ⟨below_step hb h.1, h.2.below hb⟩, fun _ _ _ _ _ _ h ho hg => ⟨ho.up hg h.1 (Nat.le_refl _), h.2.block (grown_kp hg h.2.lt (own_neT hT ho h.2))⟩⟩
theorem Calls.pcm {f : FuncId} {args : Array Value} {u : World} {k : List UInt8} {n : Nat} (h : Calls Tryz.prog f args u (BytesPost u n k)) (hn : k.length = n) : Calls Tryz.prog f args u (fun e u' => ∃ v, e = .returned v ∧ PcM k u v u') :=
 h.mono fun e u' he => by
  obtain ⟨q, c, rfl, h1, h2⟩ := he; subst hn; exact ⟨_, rfl, q, c, rfl, h1, h2⟩
theorem mk_call {o : Oper} {a : Act} {u : World} {t x n : Nat} {z : Int} (ho : o.op = .call { callee := .value (.func 42), args := #[.tmp t, .const (.int .i64 z)], argTypes := #[24, 3] }) (he : a.eval (.tmp t) = .int .u64 x) (hz : z = n) (hn : n ≤ 8) : Ends Tryz.prog o a u (PcM (be n x) u) := by
 subst hz; have he' : a.tmps[t]?.getD undef = .int .u64 x := by rw [← he]; simp [Act.eval]
 refine .inl ⟨42, #[.int .u64 x, .int .i64 n], _, ?_, Calls.pcm (high_doc x n u hn) (length_be n x), fun e w' h => h⟩; unfold execOp; simp only [ho]
 go_simp
theorem mk_lit {o : Oper} {a : Act} {u : World} {t : Nat} {z : Int} (ho : o.op = .buildSlice 36 1 #[(0, .tmp t)]) (he : a.eval (.tmp t) = .int .u8 z) (h0 : 0 ≤ z) (h1 : z < 256) : Ends Tryz.prog o a u (PcM [UInt8.ofNat z.toNat] u) := by
 have hr : Row 5 (u.alloc (.cells #[.int .u8 z] 5)) u.heap.size [UInt8.ofNat z.toNat] := by
  have h := made1 u (UInt8.ofNat z.toNat); rw [ofNat_int h0 h1] at h; exact h
 have he' : a.tmps[t]?.getD undef = .int .u8 z := by rw [← he]; simp [Act.eval]
 refine .inr ⟨.slice (some ⟨u.heap.size, 0, none⟩) 1 1, u.alloc (.cells #[.int .u8 z] 5), ?_, some ⟨u.heap.size, 0, none⟩, 1, rfl, Row.own hr (Nat.le_refl _) (by show 1 ≤ maxLen; unfold maxLen; decide), (Below.refl _ _).alloc (Nat.le_refl _) _⟩; unfold execOp; simp only [ho, Act.eval]
 go_simp
end Go.Proofs.YtocekhckmpkbmaaGreat
namespace Go.Proofs.YtocekhckmpkbmaaGreat
open Go.RowKit
theorem no_x {b : Bool} {X : Prop} (h : b = true) : b = false → X := fun e => by rw [h] at e; cases e
theorem run_append_op2 {P : Program} {o : Oper} {a : Act} {w w' : World} {s x : Operand} {t : TypeId} {v1 v2 v : Value} (ho : o.op = .call { callee := .builtin .append, args := #[s, x], argTypes := #[t, t] }) (hs : a.eval s = v1) (hx : a.eval x = v2)
 (h : (Builtin.append_ #[t, t] o.type #[v1, v2]).run P w = .ok v w') : (execOp a.eval o).run P w = .ok (.value v) w' := by
 unfold execOp; simp only [ho, resolve, invoke, builtin, Sem.run_bind, Sem.run_pure, Result.andThen_ok, List.map_toArray, List.map_cons, List.map_nil, hs, hx, h]
section
variable {P : Program} {ops : Array Oper} {Q : Exit → Act → World → Prop} {md : Region.Mode} {s : Nat} {X : World → Prop}
theorem x_call {i : Nat} {o : Oper} {dst : Option Tmp} (hd : o.dst = dst) {k : Nat} {l : Array Bool} {a : Act} {w : World} {f : FuncId} {args : Array Value} {R : Ending → World → Prop} (hi : ops[i]? = some o) (hr : Region.ready md ops l = [i]) (hw : Region.wanted o (yielded ops a.tmps) = true)
 (hrun : (execOp a.eval o).run P w = .ok (.enter f args) w) (hc : Calls P f args w R) (h : ∀ e w', R e w' → ∃ v, e = .returned v ∧ ((l.setIfInBounds i true).getD s true = false → X w') ∧ wpAnyX P md ops Q s X k (l.setIfInBounds i true) (a.put dst v) w') : wpAnyX P md ops Q s X (k + 1) l a w := by
 subst hd; refine x_one hi hr hw ?_; unfold Oper.wp; rw [hrun, Oper.upon_enter]; refine hc.mono fun e w' he => ?_
 obtain ⟨v, rfl, h1, h2⟩ := h e w' he; exact ⟨h1, h2⟩
end
theorem put64n (x : Int) (u : World) (hx : 0 ≤ x) : Calls Tryz.prog 93 #[.slice none 0 0, .int .u64 x] u (fun e w' => e = .returned (.slice (some ⟨u.heap.size, 0, none⟩) 8 8) ∧ Row 5 w' u.heap.size (be 8 x.toNat) ∧ Below u.heap.size u w') :=
 put64 none 0 0 x [] u ⟨none, 0, rfl, fun _ => rfl, fun a ha => by cases ha⟩ (by decide) hx
set_option maxRecDepth 100000 in
set_option maxHeartbeats 4000000 in
theorem numbers_any (g : Nat) (o : Option Nat) (l : List UInt8) (k m n b : Nat) (hk : k + m = 8) (h1k : 1 ≤ k) (xs : List Int) (hn : xs.length = n) (w : World) (h : Wr w g o l) (hx : RowV 24 w b (xs.map (Value.int .u64))) (hbg : b ≠ g) (hbo : o ≠ some b) (hok : ∀ x ∈ xs, U64 x) (hbig : l.length + 8 * n ≤ 549755813888) :
 Calls Tryz.prog 68 #[.pointer (some ⟨g, 0, none⟩), .int .i64 k, .slice (some ⟨b, 0, none⟩) n n] w (WrPost w g o (l ++ encNums k xs)) := by
 have hx := lh hx; have hn := lh hn; have hok := lh hok; have h0 : Hid (∃ o1, Wr w g o1 (l ++ encNums k (xs.take 0)) ∧ WStep w w g o o1) := ⟨o, by rw [show encNums k (xs.take 0) = [] from rfl, List.append_nil]; exact h, WStep.refl w g o⟩; have hsub : IntKind.i64.wrap (8 - (k : Int)) = (m : Int) := by rw [show (8 - (k : Int)) = (m : Int) by omega]; exact wrap_small m (by omega) (by omega)
 clear h
 go_enter Tryz.func68, Tryz.ntmps68
 go_wp2
 go_loopw [10] (fun v wr => ∃ j : Nat, j ≤ n ∧ v = .int .i64 j ∧ Hid (∃ o1, Wr wr g o1 (l ++ encNums k (xs.take j)) ∧ WStep w wr g o o1)) (fun v _ => n - (RowKit.intOf v).toNat)
 case atStart => exact ⟨0, Nat.zero_le _, rfl, h0⟩
 case round =>
  obtain ⟨j, hj, rfl, hst⟩ := hrel; clear h0
  by_cases hlt : j < n
  · obtain ⟨x, hxj⟩ : ∃ x, xs[j]? = some x := ⟨_, List.getElem?_eq_getElem (by have := hn.out; omega)⟩
    have hux := hok.out x (List.mem_of_getElem? hxj); have hxj := lh hxj; obtain ⟨o1, hwr, hstep⟩ := hst.out; have hrow := lh (hstep.row hx.out hbg hbo); have hstep := lh hstep; obtain ⟨q, c, hr, how, hqo⟩ := hwr; have hr := lh hr; have how := lh how; have hqo := lh hqo; clear hst; obtain ⟨L, hL⟩ : ∃ L, (l ++ encNums k (xs.take j)).length = L := ⟨_, rfl⟩
    have hLb : L ≤ l.length + 8 * n := by
     rw [← hL, List.length_append, encNums_len, List.length_take]; have : k * min j xs.length ≤ 8 * n := Nat.mul_le_mul (by omega) (by have := hn.out; omega); omega
    have hcell : wr.cell? ⟨b, j, none⟩ = some (.int .u64 x) := by rw [hrow.out.cell, List.getElem?_map, hxj.out]; rfl
    have hL := lh hL; have hr' : Hid (RowV 109 wr g [.slice q L c]) := by have h1 := hr.out; rw [hL.out] at h1; exact h1
    have how' : Hid (Own wr (g + 1) (.slice q L c) (l ++ encNums k (xs.take j))) := by have h1 := how.out; rw [hL.out] at h1; exact h1
    have hLb := lh hLb; have i0 : (0 : Int) ≤ j := by omega
    have i1 : (j : Int) < n := by omega
    obtain ⟨x0, x1⟩ := hux
    go_wp2_with fail
    clear hcell; refine wp_region_x (by kernel_rfl) 13 (fun u => RowV 109 u g [.slice q L c]) ?_; change wpAnyX _ _ _ _ _ _ _ _ _ (World.drew wr); have hdr : Below wr.heap.size wr (World.drew wr) := below_drew wr; have hX : RowV 109 (World.drew wr) g [.slice q L c] := hr'.out.below hdr; have hstep2 := hstep.out.trans (WStep.of_below hdr); have how2 := how'.out.below hdr; have hlt2 : g < (World.drew wr).heap.size := hX.lt; generalize World.drew wr = u0 at hX hstep2 how2 hlt2 ⊢; have kk : ∀ {u : World}, RowV 109 u g [.slice q L c] → u.cell? ⟨g, 0, none⟩ = some (.slice q L c) := fun hu => hu.cell 0
    refine x_pure (i := 0) (dst := some 14) (v := .pointer (some ⟨g, 0, none⟩)) rfl rfl (by kernel_rfl) (by kernel_rfl) (by kernel_rfl) (by kernel_rfl) (fun _ _ _ h => h) (.inl ⟨rfl, fun u hu => by go_simp⟩) (fun _ => hX) ?_; go_frame; refine x_pure (i := 1) (dst := some 15) (v := .pointer (some ⟨g, 0, none⟩)) rfl rfl (by kernel_rfl) (by kernel_rfl) (by kernel_rfl) (by kernel_rfl) (fun _ _ _ h => h) (.inl ⟨rfl, fun u hu => by go_simp⟩) (fun _ => hX) ?_; go_frame; refine x_pure (i := 2) (dst := some 16) (v := .pointer (some ⟨g, 0, none⟩)) rfl rfl (by kernel_rfl) (by kernel_rfl) (by kernel_rfl) (by kernel_rfl) (fun _ _ _ h => h) (.inl ⟨rfl, fun u hu => by go_simp⟩) (fun _ => hX) ?_; go_frame; refine x_pure (i := 3) (dst := some 17) (v := .pointer (some ⟨g, 0, none⟩)) rfl rfl (by kernel_rfl) (by kernel_rfl) (by kernel_rfl) (by kernel_rfl) (fun _ _ _ h => h) (.inl ⟨rfl, fun u hu => by go_simp⟩) (fun _ => hX) ?_; go_frame
    refine x_take (i := 4) (dst := some 18) (v := .slice q L c) rfl rfl (by kernel_rfl) (by kernel_rfl) (by kernel_rfl) (by kernel_rfl) (by kernel_rfl) (fun _ _ _ h => h) (.inl ⟨rfl, fun u hu => by have c1 := kk hu; go_simp⟩) hX ?_; go_frame; refine x_pure (i := 5) (dst := some 19) (v := .int .u64 x) rfl rfl (by kernel_rfl) (by kernel_rfl) (by kernel_rfl) (by kernel_rfl) (fun _ _ _ h => h) (.inl ⟨rfl, fun u hu => by go_simp⟩) (fun _ => hX) ?_; go_frame; refine x_pure (i := 7) (dst := some 21) (v := .int .i64 k) rfl rfl (by kernel_rfl) (by kernel_rfl) (by kernel_rfl) (by kernel_rfl) (fun _ _ _ h => h) (.inl ⟨rfl, fun u hu => by go_simp⟩) (fun _ => hX) ?_; go_frame; refine x_pure (i := 8) (dst := some 22) (v := .int .i64 m) rfl rfl (by kernel_rfl) (by kernel_rfl) (by kernel_rfl) (by kernel_rfl) (fun _ _ _ h => h) (.inl ⟨rfl, fun u hu => by go_simp⟩) (fun _ => hX) ?_; go_frame; refine x_call (i := 6) (dst := some 20) rfl rfl (by kernel_rfl) rfl (by go_simp) (put64n x u0 x0) ?_
    rintro e u1 ⟨rfl, hrow8, hb1⟩; have hX1 : RowV 109 u1 g [.slice q L c] := hX.below hb1; refine ⟨_, rfl, fun _ => hX1, ?_⟩; go_frame; have how3 := how2.below hb1; have hstep3 := hstep2.trans (WStep.of_below hb1); have hh8 := hrow8.holds 8; rw [length_be] at hh8; have hh8' := holds_drop hh8 (k := m) (by omega) (Nat.le_refl _); have e8 : (be 8 x.toNat).drop m = be k x.toNat := by rw [show m = 8 - k by omega]; exact be_tail (by omega) _
    rw [e8] at hh8'; have hsl := fun u : World => slice_tail8 (some ⟨u0.heap.size, 0, none⟩) 8 8 m (by omega) u
    refine x_pure (i := 9) (dst := some 23) (v := .slice (tl (some ⟨u0.heap.size, 0, none⟩) 8 m) (8 - m) (8 - m)) rfl rfl (by kernel_rfl) (by kernel_rfl) (by kernel_rfl) (by kernel_rfl) (fun _ _ _ h => h) (.inl ⟨rfl, fun u hu => by go_simp⟩) (fun _ => hX1) ?_; go_frame; obtain ⟨q2, c2, u2, hrun, ho2, hg2, hat2⟩ := run_append_bytes_at (w := u1) 36 how3 hh8' (by have := hLb.out; omega) (by have := hX1.lt; omega)
    have hX2 : RowV 109 u2 g [.slice q L c] := hX1.block (hg2.block g hX1.lt (fun e => by
     cases q with
     | none => cases e
     | some a => have h2 := how3.holds.2.2 a rfl; simp [blockOf] at e; omega))
    refine x_value (i := 10) (dst := some 24) (w' := u2) rfl rfl (by kernel_rfl) rfl (run_append_op2 (s := .tmp 18) (x := .tmp 23) rfl rfl rfl hrun) (fun _ => hX2) ?_; go_frame; refine x_pure (i := 11) (dst := some 25) (v := .pointer (some ⟨g, 0, none⟩)) rfl rfl (by kernel_rfl) (by kernel_rfl) (by kernel_rfl) (by kernel_rfl) (fun _ _ _ h => h) (.inl ⟨rfl, fun u hu => by go_simp⟩) (fun _ => hX2) ?_; go_frame; refine x_pure (i := 12) (dst := some 26) (v := .pointer (some ⟨g, 0, none⟩)) rfl rfl (by kernel_rfl) (by kernel_rfl) (by kernel_rfl) (by kernel_rfl) (fun _ _ _ h => h) (.inl ⟨rfl, fun u hu => by go_simp⟩) (fun _ => hX2) ?_; go_frame; obtain ⟨u3, hu3⟩ : ∃ y, u2.setCell ⟨g, 0, none⟩ (.slice q2 (L + (8 - m)) c2) = y := ⟨_, rfl⟩; have e4 := hX2.cell 0; have f4 : u2.frozen? ⟨g, 0, none⟩ = false := hX2.free 0; have st4 : (storeVar 36 ⟨g, 0, none⟩ (.slice q2 (L + (8 - m)) c2)).run Tryz.prog u2 = .ok () u3 := by rw [← hu3]; go_simp
    refine x_skip (i := 13) (dst := none) rfl rfl (by kernel_rfl) rfl (run_store_op (x := .tmp 26) (y := .tmp 24) rfl rfl rfl st4) (no_x (by kernel_rfl)) ?_; go_frame; refine x_done (by kernel_rfl) ?_; have hlk : (be k x.toNat).length = 8 - m := by rw [length_be]; omega
    have hfin : Wr u3 g (q2.map (·.block)) ((l ++ encNums k (xs.take j)) ++ be k x.toNat) ∧ WStep u1 u3 g (q.map (·.block)) (q2.map (·.block)) := by
     have hLe := hL.out; subst hLe; exact wr_app hX1 how3 hlk ho2 hg2 hat2 hu3
    have hst9 : Hid (∃ o1, Wr u3 g o1 (l ++ encNums k (xs.take (j + 1))) ∧ WStep w u3 g o o1) := ⟨_, by rw [encNums_step hxj.out, ← List.append_assoc]; exact hfin.1, by rw [hqo.out] at hfin; exact hstep3.trans hfin.2⟩; clear hX hX1 hX2 how2 how3 hstep2 hstep3 hrow8 hh8 hh8' hsl hrun ho2 hg2 hat2 e4 f4 st4 hfin hu3 hb1 hdr; go_wp2
    go_roundw
    case rel => exact ⟨j + 1, by omega, by go_num, hst9⟩
    case measure => simp [RowKit.intOf]; omega
  · obtain rfl : n = j := by omega
    have hall : xs.take n = xs := by rw [← hn.out]; exact List.take_length ..
    rw [hall] at hst; clear hx hok hall; go_wp2; go_end0; obtain ⟨o1, a1, a2⟩ := hst.out; exact ⟨o1, rfl, a1, a2⟩
end Go.Proofs.YtocekhckmpkbmaaGreat
