/- Parts of the proof: A region that draws its order: two calls in order, and two operations that give a value at any time. Nothing of a program is claimed here; The last step of every law's proof: what the call leaves alone reads as it did; small facts of this dump; The laws on records: two records made by few at once; what Decode answers of bytes that are too few, or too many -/
import Derived.Test.YtocekhckmpkbmaaGreatU13
import Derived.Test.YtocekhckmpkbmaaGreatU01
import Derived.Test.YtocekhckmpkbmaaGreatU28
import Derived.ProofKit
import Derived.Test.YtocekhckmpkbmaaGreatU31
namespace Go.Proofs.YtocekhckmpkbmaaGreat
open Go.RowKit
section
variable {P : Program} {ops : Array Oper} {Q : Exit → Act → World → Prop} {md : Region.Mode} {S : World → Prop}
def putX (d : Option Tmp) (x : Option Value) (a : Act) : Act := match x with | none => a | some v => a.put d v
theorem putX_put {d d' : Nat} (h : d ≠ d') (x : Option Value) (a : Act) (v : Value) : (putX (some d) x a).put (some d') v = putX (some d) x (a.put (some d') v) := by
 cases x with
 | none => rfl
 | some u => show (a.put (some d) u).put (some d') v = (a.put (some d') v).put (some d) u; unfold Act.put; simp only; congr 1; exact Array.setIfInBounds_comm _ _ h
def lackO (x : Option Value) : Nat := match x with | none => 1 | some _ => 0
theorem held_four {L : Bool → Bool → Bool → Bool → Array Bool} {A : Option Value → Option Value → Option Value → Option Value → Act} {K : Option Value → Option Value → Option Value → Option Value → World → Prop} {fuel : Nat}
 {i j p q : Nat} {oi oj op oq : Oper} (hi : ops[i]? = some oi) (hj : ops[j]? = some oj) (hp : ops[p]? = some op) (hq : ops[q]? = some oq)
 (li : ∀ b c d, (L false b c d).setIfInBounds i true = L true b c d) (lj : ∀ b c d, (L b false c d).setIfInBounds j true = L b true c d) (lp : ∀ b c d, (L b c false d).setIfInBounds p true = L b c true d) (lq : ∀ b c d, (L b c d false).setIfInBounds q true = L b c d true)
 (ai : ∀ x y z v, (A none x y z).put oi.dst v = A (some v) x y z) (aj : ∀ x y z v, (A x none y z).put oj.dst v = A x (some v) y z) (ap : ∀ x y z v, (A x y none z).put op.dst v = A x y (some v) z) (aq : ∀ x y z v, (A x y z none).put oq.dst v = A x y z (some v))
 (wi : ∀ x y z u, Region.wanted oi (yielded ops (A x y z u).tmps) = true) (wj : ∀ x y z u, Region.wanted oj (yielded ops (A x y z u).tmps) = true) (wp : ∀ x y z u, Region.wanted op (yielded ops (A x y z u).tmps) = true) (wq : ∀ x y z u, Region.wanted oq (yielded ops (A x y z u).tmps) = true)
 (hr : ∀ bi bj bp bq : Bool, (bj = true → bi = true) → (bi && bj && bp && bq) = false → Region.ready md ops (L bi bj bp bq) = (if bi then (if bj then [] else [j]) else [i]) ++ ((if bp then [] else [p]) ++ (if bq then [] else [q])))
 (si : ∀ z u w, K none none z u w → ∃ f args R, (execOp (A none none z u).eval oi).run P w = .ok (.enter f args) w ∧ Calls P f args w R ∧ ∀ e w', R e w' → ∃ v, e = .returned v ∧ S w' ∧ K (some v) none z u w')
 (sj : ∀ x z u w, K (some x) none z u w → ∃ f args R, (execOp (A (some x) none z u).eval oj).run P w = .ok (.enter f args) w ∧ Calls P f args w R ∧ ∀ e w', R e w' → ∃ v, e = .returned v ∧ S w' ∧ K (some x) (some v) z u w')
 (sp : ∀ x y u w, K x y none u w → ∃ v w', (execOp (A x y none u).eval op).run P w = .ok (.value v) w' ∧ S w' ∧ K x y (some v) u w')
 (sq : ∀ x y z w, K x y z none w → ∃ v w', (execOp (A x y z none).eval oq).run P w = .ok (.value v) w' ∧ S w' ∧ K x y z (some v) w')
 (h : ∀ x y z u w, K (some x) (some y) (some z) (some u) w → wpAnyH P md ops Q S fuel (L true true true true) (A (some x) (some y) (some z) (some u)) w) :
 ∀ (n : Nat) (x y z u : Option Value) (w : World), (y.isSome = true → x.isSome = true) → lackO x + lackO y + lackO z + lackO u = n → K x y z u w → wpAnyH P md ops Q S (fuel + n) (L x.isSome y.isSome z.isSome u.isSome) (A x y z u) w := by
 intro n
 induction n with
 | zero =>
   intro x y z u w _ hn hk
   match x, y, z, u with
   | some x, some y, some z, some u => exact h x y z u w hk
   | none, _, _, _ => simp only [lackO] at hn; omega
   | some _, none, _, _ => simp only [lackO] at hn; omega
   | some _, some _, none, _ => simp only [lackO] at hn; omega
   | some _, some _, some _, none => simp only [lackO] at hn; omega
 | succ n ih =>
   intro x y z u w hxy hn hk
   have hnot : (x.isSome && y.isSome && z.isSome && u.isSome) = false := by cases x <;> cases y <;> cases z <;> cases u <;> first | rfl | (simp only [lackO] at hn; omega)
   refine wpAnyH_all (hr _ _ _ _ hxy hnot) ?_ (fun k hk2 => ?_)
   · cases x <;> cases y <;> cases z <;> cases u <;> simp at hnot ⊢
   · rcases List.mem_append.1 hk2 with hk2 | hk2
     · cases x with
       | none =>
         have hy : y = none := by
          cases y with
          | none => rfl
          | some y => exact absurd (hxy rfl) (by simp)
         subst hy; rw [show k = i by simpa using hk2]; obtain ⟨f, args, R, h1, h2, h3⟩ := si z u w hk; unfold wpOp; simp only [hi, wi, if_true]; refine .inl ?_; unfold Oper.wp; rw [h1, Oper.upon_enter]; refine h2.mono fun e w' he => ?_
         obtain ⟨v, rfl, h4, h5⟩ := h3 e w' he; refine ⟨h4, ?_⟩; rw [ai]; have := ih (some v) none z u w' (fun e => rfl) (by simp only [lackO] at hn ⊢; omega) h5; rw [show (none : Option Value).isSome = false from rfl, li]; exact this
       | some x =>
         cases y with
         | none =>
           rw [show k = j by simpa using hk2]; obtain ⟨f, args, R, h1, h2, h3⟩ := sj x z u w hk; unfold wpOp; simp only [hj, wj, if_true]; refine .inl ?_; unfold Oper.wp; rw [h1, Oper.upon_enter]; refine h2.mono fun e w' he => ?_
           obtain ⟨v, rfl, h4, h5⟩ := h3 e w' he; refine ⟨h4, ?_⟩; rw [aj]; have := ih (some x) (some v) z u w' (fun e => rfl) (by simp only [lackO] at hn ⊢; omega) h5; rw [show (none : Option Value).isSome = false from rfl, lj]; exact this
         | some y => simp at hk2
     · rcases List.mem_append.1 hk2 with hk2 | hk2
       · cases z with
         | none => rw [show k = p by simpa using hk2]; obtain ⟨v, w', h1, h4, h5⟩ := sp x y u w hk; unfold wpOp; simp only [hp, wp, if_true]; refine .inl ?_; unfold Oper.wp; rw [h1, Oper.upon_value]; refine ⟨h4, ?_⟩; rw [ap]; have := ih x y (some v) u w' hxy (by simp only [lackO] at hn ⊢; omega) h5; rw [show (none : Option Value).isSome = false from rfl, lp]; exact this
         | some z => simp at hk2
       · cases u with
         | none => rw [show k = q by simpa using hk2]; obtain ⟨v, w', h1, h4, h5⟩ := sq x y z w hk; unfold wpOp; simp only [hq, wq, if_true]; refine .inl ?_; unfold Oper.wp; rw [h1, Oper.upon_value]; refine ⟨h4, ?_⟩; rw [aq]; have := ih x y z (some v) w' hxy (by simp only [lackO] at hn ⊢; omega) h5; rw [show (none : Option Value).isSome = false from rfl, lq]; exact this
         | some u => simp at hk2
/-- the same, where the act is the goal's -/
theorem held_calls2 (L : Bool → Bool → Bool → Bool → Array Bool) (K : Option Value → Option Value → Option Value → Option Value → World → Prop) {fuel : Nat} {l : Array Bool} {a : Act} {w : World}
 {i j p q di dj dp dq : Nat} {oi oj op oq : Oper} (hi : ops[i]? = some oi) (hj : ops[j]? = some oj) (hp : ops[p]? = some op) (hq : ops[q]? = some oq)
 (edi : oi.dst = some di) (edj : oj.dst = some dj) (edp : op.dst = some dp) (edq : oq.dst = some dq) (hne : di ≠ dj ∧ di ≠ dp ∧ di ≠ dq ∧ dj ≠ dp ∧ dj ≠ dq ∧ dp ≠ dq)
 (gi : oi.guard = none) (gj : oj.guard = none) (gp : op.guard = none) (gq : oq.guard = none) (hl : l = L false false false false)
 (li : ∀ b c d, (L false b c d).setIfInBounds i true = L true b c d) (lj : ∀ b c d, (L b false c d).setIfInBounds j true = L b true c d) (lp : ∀ b c d, (L b c false d).setIfInBounds p true = L b c true d) (lq : ∀ b c d, (L b c d false).setIfInBounds q true = L b c d true)
 (hr : ∀ bi bj bp bq : Bool, (bj = true → bi = true) → (bi && bj && bp && bq) = false → Region.ready md ops (L bi bj bp bq) = (if bi then (if bj then [] else [j]) else [i]) ++ ((if bp then [] else [p]) ++ (if bq then [] else [q])))
 (si : ∀ z u w, K none none z u w → ∃ f args R, (execOp (putX (some dq) u (putX (some dp) z a)).eval oi).run P w = .ok (.enter f args) w ∧ Calls P f args w R ∧ ∀ e w', R e w' → ∃ v, e = .returned v ∧ S w' ∧ K (some v) none z u w')
 (sj : ∀ x z u w, K (some x) none z u w → ∃ f args R, (execOp (putX (some dq) u (putX (some dp) z (a.put (some di) x))).eval oj).run P w = .ok (.enter f args) w ∧ Calls P f args w R ∧ ∀ e w', R e w' → ∃ v, e = .returned v ∧ S w' ∧ K (some x) (some v) z u w')
 (sp : ∀ (b : Act) x y u w, K x y none u w → ∃ v w', (execOp b.eval op).run P w = .ok (.value v) w' ∧ S w' ∧ K x y (some v) u w')
 (sq : ∀ (b : Act) x y z w, K x y z none w → ∃ v w', (execOp b.eval oq).run P w = .ok (.value v) w' ∧ S w' ∧ K x y z (some v) w')
 (h0 : K none none none none w)
 (h : ∀ x y z u w, K (some x) (some y) (some z) (some u) w → wpAnyH P md ops Q S fuel (L true true true true) ((((a.put (some di) x).put (some dj) y).put (some dp) z).put (some dq) u) w) :
 wpAnyH P md ops Q S (fuel + 4) l a w := by
 obtain ⟨n1, n2, n3, n4, n5, n6⟩ := hne; subst hl
 have hw : ∀ {o : Oper} {ys : Nat → Option Bool}, o.guard = none → Region.wanted o ys = true := fun {o ys} hg => by unfold Region.wanted; rw [hg]
 exact held_four (L := L) (K := K) (A := fun x y z u => putX (some dq) u (putX (some dp) z (putX (some dj) y (putX (some di) x a)))) hi hj hp hq li lj lp lq
  (fun x y z v => by show (putX (some dq) z (putX (some dp) y (putX (some dj) x a))).put oi.dst v = _; rw [edi, putX_put n3.symm, putX_put n2.symm, putX_put n1.symm]; rfl)
  (fun x y z v => by show (putX (some dq) z (putX (some dp) y (putX (some di) x a))).put oj.dst v = _; rw [edj, putX_put n5.symm, putX_put n4.symm]; rfl)
  (fun x y z v => by show (putX (some dq) z (putX (some dj) y (putX (some di) x a))).put op.dst v = _; rw [edp, putX_put n6.symm]; rfl)
  (fun x y z v => by show (putX (some dp) z (putX (some dj) y (putX (some di) x a))).put oq.dst v = _; rw [edq]; rfl)
  (fun _ _ _ _ => hw gi) (fun _ _ _ _ => hw gj) (fun _ _ _ _ => hw gp) (fun _ _ _ _ => hw gq) hr
  si sj (fun x y u w hk => sp _ x y u w hk) (fun x y z w hk => sq _ x y z w hk) h 4 none none none none w (fun e => by cases e) rfl h0
end
end Go.Proofs.YtocekhckmpkbmaaGreat
namespace Go.Proofs.YtocekhckmpkbmaaGreat
open Go.ChangeShapes Go.WideShapes Go.ChangeAt Go.RowKit
theorem own : ownKnob Tryz.prog.godebug = none := by kernel_rfl
theorem laidOut : laidOutB Tryz.prog = true := by kernel_rfl
section
variable {H : Type} {enc : TypeId × Value → H} {P : Program}
theorem trodAll_below (hl : laidOutB P = true) {W W' : World} (hb : Below W.heap.size W W') : ∀ (ts : List TypeId) (vs : List Value) (ds : List (DataW H)) (ps : List MemPlace),
 (∀ t ∈ ts, P.readableRec t = true ∧ t < P.types.size) → DataW.TrodAll enc P W 0 (fun _ => true) true ts vs ds ps → (∀ x ∈ ps, x.block < W.heap.size) →
 DataW.TrodAll enc P W' 0 (fun b => decide (b < W.heap.size)) true ts vs ds ps
 | [], [], [], _, _, h, _ => h
 | t :: ts, v :: vs, d :: ds, ps, hr, h, hlt => by
   obtain ⟨p, q, h1, h2, rfl⟩ := h; have ht := hr t (List.mem_cons_self ..)
   exact ⟨p, q, Below.trod hl ht.1 ht.2 h1 hb (fun x hx => hlt x (List.mem_append.2 (.inl hx))),
    trodAll_below hl hb ts vs ds q (fun t h => hr t (List.mem_cons_of_mem _ h)) h2 (fun x hx => hlt x (List.mem_append.2 (.inr hx))), rfl⟩
 | [], _ :: _, _, _, _, h, _ => by cases h
 | [], [], _ :: _, _, _, h, _ => by cases h
 | _ :: _, [], _, _, _, h, _ => by cases h
 | _ :: _, _ :: _, [], _, _, h, _ => by cases h
/-- THE LAST STEP OF A LAW: true came back, and below the heap's end nothing has turned. -/
theorem law_post {f : Func} {s : ChangeSpec} {W W' : World} {args : Array Value} {ds gs : List (DataW H)} {before : List MemPlace} {tb : TypeId}
 (hl : laidOutB P = true) (hts : ∀ t ∈ f.params.toList, P.readableRec t = true ∧ t < P.types.size) (hvars : s.vars = []) (hres : f.resultTypes = #[tb]) (hb4 : P.underlying tb = some .bool)
 (hW : DataW.Whole enc P f.params.toList s.vars false W args.toList ds gs before)
 (hfn : (s.fn H (ds ++ gs)).results = [.lit (.bool true)] ∧ (s.fn H (ds ++ gs)).args = ds ∧ (s.fn H (ds ++ gs)).vars = []) (hb : Below W.heap.size W W') :
 s.post enc P f false true false false W args (.bool true) W' := by
 have hlt : ∀ x ∈ before, x.block < W.heap.size := fun x hx => hW.lt x hx
 have hW' := hW; obtain ⟨p, q, hA, hV, rfl, _, _⟩ := hW; refine ⟨ds, gs, _, [], p, [], hW', ?_, ?_, ?_, hb.frame _, fun h => by cases h⟩
 · rw [hfn.1, hres]; exact trodAll_mk1 (shut_bool hb4 true)
 · rw [hfn.2.1]; exact trodAll_below hl hb _ _ _ _ hts hA (fun x hx => hlt x (List.mem_append.2 (.inl hx)))
 · rw [hfn.2.2, hvars]; exact rfl
end
end Go.Proofs.YtocekhckmpkbmaaGreat
namespace Go.Proofs.YtocekhckmpkbmaaGreat
open Go.RowKit
theorem equal_gen {w : World} {q1 q2 : Option Addr} {n1 c1 n2 c2 : Nat} {l m : List UInt8} (h1 : Lib.HoldsBytes w (.slice q1 n1 c1) l) (h2 : Lib.HoldsBytes w (.slice q2 n2 c2) m) :
 Calls Tryz.prog 17 #[.slice q1 n1 c1, .slice q2 n2 c2] w (fun e w' => e = .returned (.bool (l == m)) ∧ w' = w) := by
 refine (Tryz.bytes_Equal_strs _ _ ⟨l.toArray⟩ ⟨m.toArray⟩ w (conv_note h1) (conv_note h2)).mono ?_; rintro e w' ⟨rfl, rfl⟩; exact ⟨by simp, rfl⟩
abbrev zR : List Value := [.int .i64 0, .int .u64 0, .int .i64 0, .int .u64 0, .int .u64 0, .slice none 0 0, .slice none 0 0, .int .i64 0, .slice none 0 0, .slice none 0 0]
def BoxR (lo : Nat) (w : World) (v : Value) : Prop := ∃ g, v = .pointer (some ⟨g, 0, none⟩) ∧ lo ≤ g ∧ RowV 30 w g zR
/-- a record that few made: it reads so in every world that is alike where few laid it; no box lies there -/
def FewAt (rd : RecD) (z u : Option Value) (w : World) (v : Value) : Prop := ∃ (B E : Nat) (rv : RecV) (V : List ImgV), v = rv.val ∧ E ≤ w.heap.size ∧ (∀ x : World, (∀ k, B ≤ k → k < E → x.heap[k]? = w.heap[k]?) → rv.On x V rd) ∧ ∀ g, (z = some (.pointer (some ⟨g, 0, none⟩)) ∨ u = some (.pointer (some ⟨g, 0, none⟩))) → g < B ∨ E ≤ g
structure FK (w0 : World) (rd sd : RecD) (x y z u : Option Value) (w : World) : Prop where
 bl : Below w0.heap.size w0 w
 t1 : ∀ v, x = some v → FewAt rd z u w v
 t2 : ∀ v, y = some v → FewAt sd z u w v
 b1 : ∀ v, z = some v → BoxR w0.heap.size w v
 b2 : ∀ v, u = some v → BoxR w0.heap.size w v
 ne : ∀ g g', z = some (.pointer (some ⟨g, 0, none⟩)) → u = some (.pointer (some ⟨g', 0, none⟩)) → g ≠ g'
theorem FewAt.below {rd : RecD} {z u : Option Value} {w w' : World} {v : Value} (h : FewAt rd z u w v) (hb : Below w.heap.size w w') : FewAt rd z u w' v := by
 obtain ⟨B, E, rv, V, e, h1, h2, h3⟩ := h; exact ⟨B, E, rv, V, e, Nat.le_trans h1 hb.size, fun x hx => h2 x (fun k hk1 hk2 => (hx k hk1 hk2).trans (hb.block k (by omega))), h3⟩
theorem FewAt.box {rd : RecD} {z u z' u' : Option Value} {w : World} {v : Value} (h : FewAt rd z u w v) (hn : ∀ g, (z' = some (.pointer (some ⟨g, 0, none⟩)) ∨ u' = some (.pointer (some ⟨g, 0, none⟩))) → (z = some (.pointer (some ⟨g, 0, none⟩)) ∨ u = some (.pointer (some ⟨g, 0, none⟩))) ∨ w.heap.size ≤ g) : FewAt rd z' u' w v := by
 obtain ⟨B, E, rv, V, e, h1, h2, h3⟩ := h
 exact ⟨B, E, rv, V, e, h1, h2, fun g hg => by
  rcases hn g hg with h4 | h4
  · exact h3 g h4
  · exact .inr (by omega)⟩
theorem BoxR.below {lo : Nat} {w w' : World} {v : Value} (h : BoxR lo w v) (hb : Below w.heap.size w w') : BoxR lo w' v := by
 obtain ⟨g, e, h1, h⟩ := h; exact ⟨g, e, h1, h.below hb⟩
theorem FK.below {w0 : World} {rd sd : RecD} {x y z u : Option Value} {w w' : World} (h : FK w0 rd sd x y z u w) (hb : Below w.heap.size w w') : FK w0 rd sd x y z u w' :=
 ⟨below_step hb h.bl, fun v e => (h.t1 v e).below hb, fun v e => (h.t2 v e).below hb, fun v e => (h.b1 v e).below hb, fun v e => (h.b2 v e).below hb, h.ne⟩
theorem FK.start (w0 : World) (rd sd : RecD) : FK w0 rd sd none none none none w0 :=
 ⟨Below.refl _ _, fun v e => (by cases e), fun v e => (by cases e), fun v e => (by cases e), fun v e => (by cases e), fun g g' e => (by cases e)⟩
theorem FK.made {w0 : World} {rd sd rr : RecD} {x y z u : Option Value} {w w' : World} {v : RecV} {V : List ImgV} (h : FK w0 rd sd x y z u w) (hon : ∀ x : World, Alike w.heap.size w' x → v.On x V rr) : FewAt rr z u w' v.val :=
 ⟨w.heap.size, w'.heap.size, v, V, rfl, Nat.le_refl _, hon, fun g hg => by
  rcases hg with e | e
  · obtain ⟨g', e2, _, h3⟩ := h.b1 _ e; cases e2; exact .inl h3.lt
  · obtain ⟨g', e2, _, h3⟩ := h.b2 _ e; cases e2; exact .inl h3.lt⟩
theorem FK.one {w0 : World} {rd sd : RecD} {z u : Option Value} {w w' : World} {v : RecV} {V : List ImgV} (h : FK w0 rd sd none none z u w) (hon : ∀ x : World, Alike w.heap.size w' x → v.On x V rd) (hb : Below w.heap.size w w') : FK w0 rd sd (some v.val) none z u w' :=
 ⟨(h.below hb).bl, fun a e => (by cases e; exact h.made hon), (h.below hb).t2, (h.below hb).b1, (h.below hb).b2, h.ne⟩
theorem FK.two {w0 : World} {rd sd : RecD} {x z u : Option Value} {w w' : World} {v : RecV} {V : List ImgV} (h : FK w0 rd sd x none z u w) (hon : ∀ x : World, Alike w.heap.size w' x → v.On x V sd) (hb : Below w.heap.size w w') : FK w0 rd sd x (some v.val) z u w' :=
 ⟨(h.below hb).bl, (h.below hb).t1, fun a e => (by cases e; exact h.made hon), (h.below hb).b1, (h.below hb).b2, h.ne⟩
theorem row_zR {w w' : World} (hw : w.alloc (.cells zR.toArray 30) = w') : RowV 30 w' w.heap.size zR := by rw [← hw]; exact RowV.made w zR
theorem FK.boxz {w0 : World} {rd sd : RecD} {x y u : Option Value} {w w' : World} (h : FK w0 rd sd x y none u w) (hw : w.alloc (.cells zR.toArray 30) = w') : FK w0 rd sd x y (some (.pointer (some ⟨w.heap.size, 0, none⟩))) u w' := by
 have hb := (one_box (xs := zR) hw).1
 have hn : ∀ g, ((some (.pointer (some ⟨w.heap.size, 0, none⟩)) : Option Value) = some (.pointer (some ⟨g, 0, none⟩)) ∨ u = some (.pointer (some ⟨g, 0, none⟩))) → ((none : Option Value) = some (.pointer (some ⟨g, 0, none⟩)) ∨ u = some (.pointer (some ⟨g, 0, none⟩))) ∨ w.heap.size ≤ g := fun g hg => by
  rcases hg with e | e
  · cases e; exact .inr (Nat.le_refl _)
  · exact .inl (.inr e)
 refine ⟨(h.below hb).bl, fun v e => ((h.t1 v e).box hn).below hb, fun v e => ((h.t2 v e).box hn).below hb, fun a e => ?_, (h.below hb).b2, fun g g' e1 e2 e => ?_⟩
 · cases e; exact ⟨_, rfl, h.bl.size, row_zR hw⟩
 · cases e1; obtain ⟨g2, e3, _, h3⟩ := h.b2 _ e2; cases e3; have := h3.lt; omega
theorem FK.boxu {w0 : World} {rd sd : RecD} {x y z : Option Value} {w w' : World} (h : FK w0 rd sd x y z none w) (hw : w.alloc (.cells zR.toArray 30) = w') : FK w0 rd sd x y z (some (.pointer (some ⟨w.heap.size, 0, none⟩))) w' := by
 have hb := (one_box (xs := zR) hw).1
 have hn : ∀ g, (z = some (.pointer (some ⟨g, 0, none⟩)) ∨ (some (.pointer (some ⟨w.heap.size, 0, none⟩)) : Option Value) = some (.pointer (some ⟨g, 0, none⟩))) → (z = some (.pointer (some ⟨g, 0, none⟩)) ∨ (none : Option Value) = some (.pointer (some ⟨g, 0, none⟩))) ∨ w.heap.size ≤ g := fun g hg => by
  rcases hg with e | e
  · exact .inl (.inl e)
  · cases e; exact .inr (Nat.le_refl _)
 refine ⟨(h.below hb).bl, fun v e => ((h.t1 v e).box hn).below hb, fun v e => ((h.t2 v e).box hn).below hb, (h.below hb).b1, fun a e => ?_, fun g g' e1 e2 e => ?_⟩
 · cases e; exact ⟨_, rfl, h.bl.size, row_zR hw⟩
 · cases e2; obtain ⟨g2, e3, _, h3⟩ := h.b1 _ e1; cases e3; have := h3.lt; omega
theorem run_allocR (b : Act) (o : Oper) (ho : o.op = .alloc 30) (w : World) : (execOp b.eval o).run Tryz.prog w = .ok (.value (.pointer (some ⟨w.heap.size, 0, none⟩))) (w.alloc (.cells zR.toArray 30)) := by
 unfold execOp; rw [ho]
 go_simp
end Go.Proofs.YtocekhckmpkbmaaGreat
