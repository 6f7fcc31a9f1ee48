/- Copies of lists, and of transactions. -/
import Derived.Test.YtkdkncbccofpdaaQ08
namespace Go.Proofs.Ytkdkncbccofpdaa
open Go.RowKit
set_option maxRecDepth 100000
theorem infoBd : (Try.prog.info? 75).map (fun i => (i.zero, i.size, i.bytes)) = some (some (.agg #[.int .i64 0, .int .i64 0]), Cel.sz BdD, 16) := by kernel_rfl
theorem infoSl : (Try.prog.info? 25).map (fun i => (i.zero, i.size, i.bytes)) = some (some (.slice none 0 0), Cel.sz SlV, 24) := by kernel_rfl
set_option maxHeartbeats 1000000 in
theorem told_any (e : Int) (w : World) :
 Calls Try.prog 35 #[.int .i64 e] w (fun en w' => en = .returned (.agg #[.int .i64 e, .slice none 0 0, .int .i64 0]) ∧ Below w.heap.size w w') := by
 obtain ⟨W, hW⟩ : ∃ W, w.alloc (.cells #[.int .i64 0, .slice none 0 0, .int .i64 0] 35) = W := ⟨_, rfl⟩
 have hbx := Lib.hid (one_rowI (xs := [.int .i64 0, .slice none 0 0, .int .i64 0]) hW)
 have hs := sizeAns (.int .i64 e) (.slice none 0 0) (.int .i64 0)
 go_enter Try.func35, Try.ntmps35
 go_wp2_with (first
  | ((with_reducible refine wpList_store_at rfl 35 (.tmp 2) (.tmp 4) rfl (o := 0) (vs := [.int .i64 e, .slice none 0 0, .int .i64 0]) rfl rfl hbx.out.2.1 hs (Nat.le_refl _) (ans_one _ _ _ _ _) ?_)
     intro w1 h1 hg1
     have h1' := Lib.hid h1
     have hg1' := Lib.hid hg1
     clear h1 hg1))
 have s1 : RowV 35 w1 w.heap.size [.int .i64 e, .slice none 0 0, .int .i64 0] := h1'.out
 have m0 := s1.cell 0
 have m1 := s1.cell 1
 have m2 := s1.cell 2
 simp only [List.getElem?_cons_zero, List.getElem?_cons_succ] at m0 m1 m2
 refine bodyPost_ret (v := .agg #[.int .i64 e, .slice none 0 0, .int .i64 0]) (by simp [results, Try.results35, go_sem, m0, m1, m2]) rfl ?_
 exact ⟨rfl, hbx.out.1.grown hg1'.out (Nat.le_of_lt (by have := hbx.out.2.2; omega)) (fun k hk => by cases hk; exact Nat.le_refl _)⟩
set_option maxHeartbeats 1000000 in
theorem cloneB_any (q : Option Addr) (n c : Nat) (l : List BdD) (w : World) (hr : SlOn w q n c l) (hok : ∀ b ∈ l, I64 b.lo ∧ I64 b.hi) (hn : n ≤ 1000000) :
 Calls Try.prog 64 #[.slice q n c] w (fun e w' => ∃ q' c', e = .returned (.slice q' n c') ∧ OwnB w' q' n c' l ∧ Below w.heap.size w w') := by
 cases q with
 | none =>
   have h0 := hr.nil rfl
   have h1 := hr.le
   have h2 := hr.len
   obtain rfl : n = 0 := by omega
   obtain rfl := List.eq_nil_of_length_eq_zero h2
   subst h0
   clear h1 hr
   have heq : ∀ u, (binOp .eql 22 (.slice none 0 0) (.slice none 0 0)).run Try.prog u = .ok (.bool true) u := fun u => Lib.run_eql_slice_nil u _ _ _ _ _ _ _ Try.underlying22
   go_enter Try.func64, Try.ntmps64
   go_wp2
   go_ret
   exact ⟨none, 0, rfl, ⟨OwnS.nil _ _ _, hok⟩, Below.refl _ _⟩
 | some ad =>
   have hrr := Lib.hid hr
   clear hr
   have heq : ∀ u, (binOp .eql 22 (.slice (some ad) n c) (.slice none 0 0)).run Try.prog u = .ok (.bool false) u := fun u => Lib.run_eql_slice_nil u _ _ _ _ _ _ _ Try.underlying22
   have ho : Hid (OwnS 75 (w.alloc (.cells #[] 75)) w.heap.size (.slice (some ⟨w.heap.size, 0, none⟩) 0 0) ([] : List BdD)) := OwnS.empty rfl rfl
   go_enter Try.func64, Try.ntmps64
   go_wp2_with (first
    | (at_builtin
       refine wpList_append_l Try.underlying22 infoBd rfl rfl (.tmp 5) (.tmp 6) rfl rfl rfl ho.out (hrr.out.below ((Below.refl _ _).alloc (Nat.le_refl _) _) (Nat.le_refl _)) (by omega) (by omega) (by simp) ?_
       intro q' c' w' h1 h2 h3
       have hh := Lib.hid h1
       have hg := Lib.hid h2
       clear h1 h2 h3))
   go_ret
   refine ⟨q', c', rfl, ⟨(by have := hh.out; rw [Nat.zero_add] at this; exact this.mono (Nat.zero_le _)), hok⟩, ((Below.refl w.heap.size w).alloc (Nat.le_refl _) _).trans (grown_belowN hg.out (by simp) (fun k hk => by cases hk; exact Nat.le_refl _))⟩
set_option maxHeartbeats 1000000 in
theorem cloneM_any (q : Option Addr) (n c : Nat) (l : List SlV) (w : World) (hr : SlOn w q n c l) (hn : n ≤ 1000000) :
 Calls Try.prog 65 #[.slice q n c] w (fun e w' => ∃ q' c', e = .returned (.slice q' n c') ∧ OwnS 25 w' w.heap.size (.slice q' n c') l ∧ Below w.heap.size w w') := by
 cases q with
 | none =>
   have h0 := hr.nil rfl
   have h1 := hr.le
   have h2 := hr.len
   obtain rfl : n = 0 := by omega
   obtain rfl := List.eq_nil_of_length_eq_zero h2
   subst h0
   clear h1 hr
   have heq : ∀ u, (binOp .eql 44 (.slice none 0 0) (.slice none 0 0)).run Try.prog u = .ok (.bool true) u := fun u => Lib.run_eql_slice_nil u _ _ _ _ _ _ _ Try.underlying44
   go_enter Try.func65, Try.ntmps65
   go_wp2
   go_ret
   exact ⟨none, 0, rfl, OwnS.nil _ _ _, Below.refl _ _⟩
 | some ad =>
   have hrr := Lib.hid hr
   clear hr
   have heq : ∀ u, (binOp .eql 44 (.slice (some ad) n c) (.slice none 0 0)).run Try.prog u = .ok (.bool false) u := fun u => Lib.run_eql_slice_nil u _ _ _ _ _ _ _ Try.underlying44
   have ho : Hid (OwnS 25 (w.alloc (.cells #[] 25)) w.heap.size (.slice (some ⟨w.heap.size, 0, none⟩) 0 0) ([] : List SlV)) := OwnS.empty rfl rfl
   go_enter Try.func65, Try.ntmps65
   go_wp2_with (first
    | (at_builtin
       refine wpList_append_l Try.underlying44 infoSl rfl rfl (.tmp 5) (.tmp 6) rfl rfl rfl ho.out (hrr.out.below ((Below.refl _ _).alloc (Nat.le_refl _) _) (Nat.le_refl _)) (by omega) (by omega) (by simp) ?_
       intro q' c' w' h1 h2 h3
       have hh := Lib.hid h1
       have hg := Lib.hid h2
       clear h1 h2 h3))
   go_ret
   refine ⟨q', c', rfl, (by have := hh.out; rwa [Nat.zero_add] at this), ((Below.refl w.heap.size w).alloc (Nat.le_refl _) _).trans (grown_belowN hg.out (by simp) (fun k hk => by cases hk; exact Nat.le_refl _))⟩
theorem cloneR_any (q : Option Addr) (n c : Nat) (l : List RowD) (w : World) (hr : RowsOn w q n c l) (hn : n ≤ 1000000) :
 Calls Try.prog 34 #[.slice q n c] w (fun e w' => ∃ q' c', e = .returned (.slice q' n c') ∧ OwnL w' q' n c' l ∧ Below w.heap.size w w') := by
 have hok := hr.ok
 refine (clone_any q n c l w hr hn).mono ?_
 rintro e w' ⟨q', c', rfl, h1, h2⟩
 exact ⟨q', c', rfl, ⟨h1.mono (Nat.zero_le _), hok⟩, h2⟩
end Go.Proofs.Ytkdkncbccofpdaa
/-! copied: a transaction that is the same, and shares no memory. -/
namespace Go.Proofs.Ytkdkncbccofpdaa
open Go.RowKit
set_option maxRecDepth 100000
section
variable {P : Program} {w : World}
/-- a value of one cell, stored into a block that is known whole -/
theorem run_storeVar_one {T ty : TypeId} {g o : Nat} {cs : List Value} {v : Value} (h : RowV T w g cs) (hi : (P.info? ty).map (·.size) = some 1) (hv : v.cells = #[v]) (hfit : o < cs.length) (h1 : v.oneCell' = true) :
 ∃ w', (storeVar ty ⟨g, o, none⟩ v).run P w = .ok () w' ∧ RowV T w' g (cs.set o v) ∧ w.grownBy w' (some g) := by
 have hst := run_storeCells_at P g o T [v] 0 cs.toArray w h (by simp; omega) (by simpa using h1)
 simp only [Nat.add_zero] at hst
 have e : cs.take o ++ [v] ++ cs.drop (o + 1) = cs.set o v := by
  rw [List.set_eq_take_append_cons_drop, if_pos hfit]; simp
 have hrow : (w.setRow g (cs.set o v).toArray).heap[g]? = some (.cells (cs.set o v).toArray T (0, 0)) := setRow_heap w g _ _ T _ h
 refine ⟨w.setRow g (cs.set o v).toArray, ?_, hrow, setRow_grown w g _⟩
 rw [← e]
 cases hq : P.info? ty with
 | none => simp [hq] at hi
 | some i =>
   have hs : i.size = 1 := by simpa [hq] using hi
   simp [storeVar, sizeOf, typeInfo, hq, hv, hs]
   simpa using hst
end
theorem oneRows : (Try.prog.info? 25).map (·.size) = some 1 := by kernel_rfl
theorem oneMks : (Try.prog.info? 44).map (·.size) = some 1 := by kernel_rfl
theorem Gr.below2 {B : Nat} {a w w' : World} {g : Nat} (h : Below B a w) (hg : w.grownBy w' (some g)) (hB : B ≤ g) (hBw : B ≤ w.heap.size) : Below B a w' := h.grown hg hBw (fun k hk => by cases hk; exact hB)
def SerPost (w : World) (x : SerD) (e : Ending) (w' : World) : Prop := ∃ v : SV, e = .returned (.agg v.cells.toArray) ∧ v.Own w' x ∧ Below w.heap.size w w'
/-- of the new list of lists the first k are copied, the others still to be -/
def CpRel (w wr : World) (q : Option Addr) (n c : Nat) (L : List (List RowD)) (k : Nat) : Prop :=
 ∃ vs : List SlV, OwnS 25 wr w.heap.size (.slice q n c) vs ∧ vs.length = L.length ∧
  (∀ (i : Nat) (v : SlV) (l : List RowD), vs[i]? = some v → L[i]? = some l → i < k → OwnL wr v.q v.n v.c l) ∧ (∀ (i : Nat) (v : SlV) (l : List RowD), vs[i]? = some v → L[i]? = some l → k ≤ i → RowsOn w v.q v.n v.c l)
theorem CpRel.below {w wr w' : World} {q : Option Addr} {n c : Nat} {L : List (List RowD)} {k : Nat} (h : CpRel w wr q n c L k) (hb : Below wr.heap.size wr w') : CpRel w w' q n c L k := by
 obtain ⟨vs, h1, h2, h3, h4⟩ := h
 exact ⟨vs, h1.below hb, h2, fun i v l a b d => (h3 i v l a b d).below hb, h4⟩
theorem CpRel.at {w wr : World} {q : Option Addr} {n c : Nat} {L : List (List RowD)} {k : Nat} (h : CpRel w wr q n c L k) (hk : k < n) :
 ∃ (g : Nat) (cur : List Value) (v : SlV) (l : List RowD), q = some ⟨g, 0, none⟩ ∧ w.heap.size ≤ g ∧ RowV 25 wr g cur ∧ cur.length = c ∧ cur[k]? = some (.slice v.q v.n v.c) ∧ L[k]? = some l ∧ RowsOn w v.q v.n v.c l ∧ n ≤ c ∧
  (∀ (wn : World) (p : SlV), RowV 25 wn g (cur.set k (.slice p.q p.n p.c)) → OwnL wn p.q p.n p.c l → (∀ (v : SlV) (m : List RowD), OwnL wr v.q v.n v.c m → OwnL wn v.q v.n v.c m) → CpRel w wn q n c L (k + 1)) := by
 obtain ⟨vs, h1, h2, h3, h4⟩ := h
 have hl := h1.len
 have hkl : k < vs.length := by omega
 have hkL : k < L.length := by omega
 obtain ⟨a, v0, rfl, hv, hcl⟩ := h1.reads.at hk
 obtain ⟨g, cur, rfl, hg, hrow, hnc, hcm, hcur, ht⟩ := h1.opened
 rw [show Cel.sz SlV = 1 from rfl, Nat.mul_one] at hcur ht
 have hc0 : cur[k]? = some (.slice v0.q v0.n v0.c) := by
  have e1 : (cellsL vs)[k]? = some (.slice v0.q v0.n v0.c) := by
   have := cellsL_get vs k v0 hv 0 (.slice v0.q v0.n v0.c) rfl
   rwa [show Cel.sz SlV = 1 from rfl, Nat.mul_one, Nat.add_zero] at this
  rw [← ht, List.getElem?_take, if_pos hk] at e1
  exact e1
 obtain ⟨l, hlk⟩ : ∃ l, L[k]? = some l := ⟨_, List.getElem?_eq_getElem hkL⟩
 refine ⟨g, cur, v0, l, rfl, hg, hrow, hcur, hc0, hlk, h4 k v0 l hv hlk (Nat.le_refl _), hnc, fun wn p hrn hown hkeep => ?_⟩
 have hset : ∀ (us : List SlV) (i : Nat), cellsL (us.set i p) = (cellsL us).set i (.slice p.q p.n p.c) := by
  intro us
  induction us with
  | nil => intro i; rfl
  | cons u us ih =>
    intro i
    cases i with
    | zero => rfl
    | succ i => show Cel.cells u ++ cellsL (us.set i p) = _; rw [ih]; rfl
 refine ⟨vs.set k p, OwnS.mk hg hrn hnc hcm (by rw [List.length_set, show Cel.sz SlV = 1 from rfl, Nat.mul_one]; exact hcur) ?_ (by rw [List.length_set]; omega), by rw [List.length_set]; exact h2, ?_, ?_⟩
 · rw [show Cel.sz SlV = 1 from rfl, Nat.mul_one, List.take_set, ht, hset]
 · intro i v m hvi hmi hik
   by_cases e : i = k
   · subst e
     rw [List.getElem?_set_self hkl] at hvi
     obtain rfl : p = v := by simpa using hvi
     rw [hlk] at hmi
     obtain rfl : l = m := by simpa using hmi
     exact hown
   · rw [List.getElem?_set_ne (by omega)] at hvi
     exact hkeep v m (h3 i v m hvi hmi (by omega))
 · intro i v m hvi hmi hik
   rw [List.getElem?_set_ne (by omega)] at hvi
   exact h4 i v m hvi hmi (by omega)
end Go.Proofs.Ytkdkncbccofpdaa
/-! copied: a transaction that is the same, and shares no memory: the walk. -/
namespace Go.Proofs.Ytkdkncbccofpdaa
open Go.RowKit
set_option maxRecDepth 100000
set_option maxHeartbeats 4000000 in
theorem copied_any (v : SV) (x : SerD) (w : World) (h : v.On w x) (hf : Few x) :
 Calls Try.prog 50 #[.agg v.cells.toArray] w (SerPost w x) := by
 obtain ⟨tq, tn, tc, rq, rn, rc, bq, bn, bc, mq, mn, mc, o⟩ := v
 obtain ⟨hsch, hsok, hrows, hbegun, ⟨vs, hm1, hm2, hm3⟩, hov⟩ := h
 have hsch' := Lib.hid hsch
 have hsok' := Lib.hid hsok
 have hrows' := Lib.hid hrows
 have hbegun' := Lib.hid hbegun
 have hm1' := Lib.hid hm1
 have hm2' := Lib.hid hm2
 have hm3' := Lib.hid hm3
 have hov' : Hid (o = x.over) := hov
 have htn : tn ≤ 1000000 := by have h1 : x.bs.length = tn := hsch.len; have := hf.bs; omega
 have hrn : rn ≤ 1000000 := by have h1 : x.rows.length = rn := hrows.len; have := hf.rows; omega
 have hbn : bn ≤ 1000000 := by have h1 : x.begun.length = bn := hbegun.len; have := hf.begun; omega
 have hmn : mn ≤ 1000000 := by have h1 : vs.length = mn := hm1.len; have := hf.marks; omega
 have hf' := Lib.hid hf
 clear hsch hsok hrows hbegun hm1 hm2 hm3 hov hf
 obtain ⟨W, hW⟩ : ∃ W, (w.alloc (.cells #[.slice tq tn tc, .slice rq rn rc, .slice bq bn bc, .slice mq mn mc, .bool o] 46)).alloc (.cells #[.slice none 0 0, .slice none 0 0, .slice none 0 0, .slice none 0 0, .bool false] 46) = W := ⟨_, rfl⟩
 have hbx := Lib.hid (two_rowsI (xs := [.slice tq tn tc, .slice rq rn rc, .slice bq bn bc, .slice mq mn mc, .bool o]) (ys := [.slice none 0 0, .slice none 0 0, .slice none 0 0, .slice none 0 0, .bool false]) hW)
 have b0 := Lib.hid hbx.out.1
 have x0 := Lib.hid hbx.out.2.1
 have y0 := Lib.hid hbx.out.2.2.1
 have l0 : Hid (W.heap.size ≤ W.heap.size) := Nat.le_refl _
 have hsz := Lib.hid hbx.out.2.2.2
 have c0 : W.cell? ⟨w.heap.size, 0, none⟩ = some (.slice tq tn tc) := x0.out.cell 0
 clear hbx
 show Calls Try.prog 50 #[.agg #[.slice tq tn tc, .slice rq rn rc, .slice bq bn bc, .slice mq mn mc, .bool o]] w _
 go_enter Try.func50, Try.ntmps50
 go_wp2_with fail
 clear hW
 refine (cloneB_any tq tn tc x.bs W (hsch'.out.below b0.out (Nat.le_refl _)) hsok'.out htn).mono ?_
 rintro e w1 ⟨q1, k1, rfl, hB, hb⟩
 have z1 := Lib.hid hB
 have b1 := Lib.hid (b0.out.trans (hb.mono b0.out.size))
 have x1 := Lib.hid (x0.out.below hb)
 have y1 := Lib.hid (y0.out.below hb)
 have l1 : Hid (W.heap.size ≤ w1.heap.size) := Nat.le_trans l0.out hb.size
 clear hB hb c0 b0 x0 y0 l0
 have c1 : w1.cell? ⟨w.heap.size, 0, none⟩ = some (.slice tq tn tc) := x1.out.cell 0
 have f1 : w1.frozen? ⟨w.heap.size, 0, none⟩ = false := x1.out.free 0
 obtain ⟨w2, hw2⟩ : ∃ u, w1.setCell ⟨w.heap.size, 0, none⟩ (.slice q1 tn k1) = u := ⟨_, rfl⟩
 have hg2 : Hid (w1.grownBy w2 (some w.heap.size)) := by rw [← hw2]; exact setCell_grown _ _ _ _
 have x2 : Hid (RowV 46 w2 w.heap.size [.slice q1 tn k1, .slice rq rn rc, .slice bq bn bc, .slice mq mn mc, .bool o]) := by rw [← hw2]; exact x1.out.set 0 _
 have y2 := Lib.hid (y1.out.kept hg2.out (by omega))
 have b2 := Lib.hid (Gr.below2 b1.out hg2.out (Nat.le_refl _) b1.out.size)
 have l2 : Hid (W.heap.size ≤ w2.heap.size) := Nat.le_trans l1.out hg2.out.size
 have z2 : Hid (OwnB w2 q1 tn k1 x.bs) := ⟨z1.out.1.gt hg2.out x1.out (by decide), z1.out.2⟩
 have c2 : w2.cell? ⟨w.heap.size, 1, none⟩ = some (.slice rq rn rc) := x2.out.cell 1
 clear hg2 b1 y1 l1 z1
 go_wp2_with fail
 clear hw2 c1 f1 x1
 refine (cloneR_any rq rn rc x.rows w2 (hrows'.out.below b2.out (Nat.le_refl _)) hrn).mono ?_
 rintro e w3 ⟨q3, k3, rfl, hB, hb⟩
 have r3 := Lib.hid hB
 have z3 : Hid (OwnB w3 q1 tn k1 x.bs) := ⟨z2.out.1.below hb, z2.out.2⟩
 have b3 := Lib.hid (b2.out.trans (hb.mono b2.out.size))
 have x3 := Lib.hid (x2.out.below hb)
 have y3 := Lib.hid (y2.out.below hb)
 have l3 : Hid (W.heap.size ≤ w3.heap.size) := Nat.le_trans l2.out hb.size
 clear hB hb c2 b2 x2 y2 l2 z2
 have c3 : w3.cell? ⟨w.heap.size, 1, none⟩ = some (.slice rq rn rc) := x3.out.cell 1
 have f3 : w3.frozen? ⟨w.heap.size, 1, none⟩ = false := x3.out.free 1
 obtain ⟨w4, hw4⟩ : ∃ u, w3.setCell ⟨w.heap.size, 1, none⟩ (.slice q3 rn k3) = u := ⟨_, rfl⟩
 have hg4 : Hid (w3.grownBy w4 (some w.heap.size)) := by rw [← hw4]; exact setCell_grown _ _ _ _
 have x4 : Hid (RowV 46 w4 w.heap.size [.slice q1 tn k1, .slice q3 rn k3, .slice bq bn bc, .slice mq mn mc, .bool o]) := by rw [← hw4]; exact x3.out.set 1 _
 have y4 := Lib.hid (y3.out.kept hg4.out (by omega))
 have b4 := Lib.hid (Gr.below2 b3.out hg4.out (Nat.le_refl _) b3.out.size)
 have l4 : Hid (W.heap.size ≤ w4.heap.size) := Nat.le_trans l3.out hg4.out.size
 have z4 : Hid (OwnB w4 q1 tn k1 x.bs) := ⟨z3.out.1.gt hg4.out x3.out (by decide), z3.out.2⟩
 have r4 := Lib.hid (r3.out.gt hg4.out x3.out (by decide))
 have c4 : w4.cell? ⟨w.heap.size, 2, none⟩ = some (.slice bq bn bc) := x4.out.cell 2
 clear hg4 b3 y3 l3 z3 r3
 go_wp2_with fail
 clear hw4 c3 f3 x3
 refine (cloneR_any bq bn bc x.begun w4 (hbegun'.out.below b4.out (Nat.le_refl _)) hbn).mono ?_
 rintro e w5 ⟨q5, k5, rfl, hB, hb⟩
 have g5 := Lib.hid hB
 have z5 : Hid (OwnB w5 q1 tn k1 x.bs) := ⟨z4.out.1.below hb, z4.out.2⟩
 have r5 := Lib.hid (r4.out.below hb)
 have b5 := Lib.hid (b4.out.trans (hb.mono b4.out.size))
 have x5 := Lib.hid (x4.out.below hb)
 have y5 := Lib.hid (y4.out.below hb)
 have l5 : Hid (W.heap.size ≤ w5.heap.size) := Nat.le_trans l4.out hb.size
 clear hB hb c4 b4 x4 y4 l4 z4 r4
 have c5 : w5.cell? ⟨w.heap.size, 2, none⟩ = some (.slice bq bn bc) := x5.out.cell 2
 have f5 : w5.frozen? ⟨w.heap.size, 2, none⟩ = false := x5.out.free 2
 obtain ⟨w6, hw6⟩ : ∃ u, w5.setCell ⟨w.heap.size, 2, none⟩ (.slice q5 bn k5) = u := ⟨_, rfl⟩
 have hg6 : Hid (w5.grownBy w6 (some w.heap.size)) := by rw [← hw6]; exact setCell_grown _ _ _ _
 have x6 : Hid (RowV 46 w6 w.heap.size [.slice q1 tn k1, .slice q3 rn k3, .slice q5 bn k5, .slice mq mn mc, .bool o]) := by rw [← hw6]; exact x5.out.set 2 _
 have y6 := Lib.hid (y5.out.kept hg6.out (by omega))
 have b6 := Lib.hid (Gr.below2 b5.out hg6.out (Nat.le_refl _) b5.out.size)
 have l6 : Hid (W.heap.size ≤ w6.heap.size) := Nat.le_trans l5.out hg6.out.size
 have z6 : Hid (OwnB w6 q1 tn k1 x.bs) := ⟨z5.out.1.gt hg6.out x5.out (by decide), z5.out.2⟩
 have r6 := Lib.hid (r5.out.gt hg6.out x5.out (by decide))
 have g6 := Lib.hid (g5.out.gt hg6.out x5.out (by decide))
 have c6 : w6.cell? ⟨w.heap.size, 3, none⟩ = some (.slice mq mn mc) := x6.out.cell 3
 clear hg6 b5 y5 l5 z5 r5 g5
 go_wp2_with fail
 clear hw6 c5 f5 x5
 refine (cloneM_any mq mn mc vs w6 (hm1'.out.below b6.out (Nat.le_refl _)) hmn).mono ?_
 rintro e w7 ⟨q7, k7, rfl, hB, hb⟩
 have m7 := Lib.hid hB
 have z7 : Hid (OwnB w7 q1 tn k1 x.bs) := ⟨z6.out.1.below hb, z6.out.2⟩
 have r7 := Lib.hid (r6.out.below hb)
 have g7 := Lib.hid (g6.out.below hb)
 have s6 : Hid (w.heap.size ≤ w6.heap.size) := b6.out.size
 have b7 := Lib.hid (b6.out.trans (hb.mono b6.out.size))
 have x7 := Lib.hid (x6.out.below hb)
 have y7 := Lib.hid (y6.out.below hb)
 have l7 : Hid (W.heap.size ≤ w7.heap.size) := Nat.le_trans l6.out hb.size
 clear hB hb c6 b6 x6 y6 l6 z6 r6 g6
 have c7 : w7.cell? ⟨w.heap.size, 3, none⟩ = some (.slice mq mn mc) := x7.out.cell 3
 have f7 : w7.frozen? ⟨w.heap.size, 3, none⟩ = false := x7.out.free 3
 obtain ⟨w8, hw8⟩ : ∃ u, w7.setCell ⟨w.heap.size, 3, none⟩ (.slice q7 mn k7) = u := ⟨_, rfl⟩
 have hg8 : Hid (w7.grownBy w8 (some w.heap.size)) := by rw [← hw8]; exact setCell_grown _ _ _ _
 have x8 : Hid (RowV 46 w8 w.heap.size [.slice q1 tn k1, .slice q3 rn k3, .slice q5 bn k5, .slice q7 mn k7, .bool o]) := by rw [← hw8]; exact x7.out.set 3 _
 have y8 := Lib.hid (y7.out.kept hg8.out (by omega))
 have b8 := Lib.hid (Gr.below2 b7.out hg8.out (Nat.le_refl _) b7.out.size)
 have l8 : Hid (W.heap.size ≤ w8.heap.size) := Nat.le_trans l7.out hg8.out.size
 have z8 : Hid (OwnB w8 q1 tn k1 x.bs) := ⟨z7.out.1.gt hg8.out x7.out (by decide), z7.out.2⟩
 have r8 := Lib.hid (r7.out.gt hg8.out x7.out (by decide))
 have g8 := Lib.hid (g7.out.gt hg8.out x7.out (by decide))
 have m8 := Lib.hid (m7.out.gt hg8.out x7.out (by decide))
 have c8 : w8.cell? ⟨w.heap.size, 3, none⟩ = some (.slice q7 mn k7) := x8.out.cell 3
 clear hg8 b7 y7 l7 z7 r7 g7 m7
 have hr0 : Hid (CpRel w w8 q7 mn k7 x.marks 0) := ⟨vs, m8.out.mono s6.out, hm2'.out, (fun i v l _ _ hi => by omega), fun i v l a b _ => hm3'.out i v l a b⟩
 have hlow : Hid (w.heap.size ≤ w8.heap.size) := b8.out.size
 go_wp2
 clear hw8 c7 f7 x7
 go_loopw [26] (fun v26 wr => ∃ k : Nat, k ≤ mn ∧ v26 = .int .i64 k ∧ Hid (Below w.heap.size w wr) ∧ Hid (CpRel w wr q7 mn k7 x.marks k) ∧
  Hid (RowV 46 wr w.heap.size [.slice q1 tn k1, .slice q3 rn k3, .slice q5 bn k5, .slice q7 mn k7, .bool o]) ∧
  Hid (RowV 46 wr (w.heap.size + 1) [.slice none 0 0, .slice none 0 0, .slice none 0 0, .slice none 0 0, .bool false]) ∧
  Hid (OwnB wr q1 tn k1 x.bs) ∧ Hid (OwnL wr q3 rn k3 x.rows) ∧ Hid (OwnL wr q5 bn k5 x.begun)) (fun v26 _ => mn - (intOf v26).toNat)
 case atStart => exact ⟨0, Nat.zero_le _, rfl, b8, hr0, x8, y8, z8, r8, g8⟩
 case round =>
  obtain ⟨k, hk, rfl, br, hrl, xr, yr, zr, rr, gr⟩ := hrel
  by_cases hlt : k < mn
  · obtain ⟨g, cur, v, l, rfl, hBg, hrow, hcur, hck, hlk, hon, hnc, hstep⟩ := hrl.out.at hlt
    obtain ⟨vq, vn, vc⟩ := v
    have hne : g ≠ w.heap.size := fun e => by subst e; exact absurd (hrow.ty xr.out) (by decide)
    have hne2 : g ≠ w.heap.size + 1 := fun e => by subst e; exact absurd (hrow.ty yr.out) (by decide)
    have hvn : vn ≤ 1000000 := by have h1 : l.length = vn := hon.len; have := hf'.out.each l (List.mem_of_getElem? hlk); omega
    have cg : wr.cell? ⟨g, k, none⟩ = some (.slice vq vn vc) := by rw [hrow.cell]; exact hck
    have cb : wr.cell? ⟨w.heap.size, 3, none⟩ = some (.slice (some ⟨g, 0, none⟩) mn k7) := xr.out.cell 3
    have hrow' := Lib.hid hrow
    have hstep' := Lib.hid hstep
    have hon' := Lib.hid hon
    have hcur' := Lib.hid hcur
    clear hrow hstep hon hck hcur hlk
    go_wp2
    refine wp_region_held (S := fun u => u.cell? ⟨w.heap.size, 3, none⟩ = some (.slice (some ⟨g, 0, none⟩) mn k7)) (by kernel_rfl) ?_
    change wpAnyH _ _ _ _ _ _ _ _ (World.drew wr)
    have hS0 : Hid ((wr.drew).cell? ⟨w.heap.size, 3, none⟩ = some (.slice (some ⟨g, 0, none⟩) mn k7)) := cb
    refine held_tk (i := 0) (dst := some 31) (v := .pointer (some ⟨w.heap.size, 3, none⟩)) rfl rfl (.inl ⟨rfl, fun u _ => by go_simp⟩) hS0.out ?_
    go_frame
    refine tg 1 32 (.slice (some ⟨g, 0, none⟩) mn k7) hS0.out ?_
    go_frame
    refine held_tk (i := 2) (dst := some 33) (v := .int .i64 k) rfl rfl (y_move (.tmp 3) rfl rfl rfl) hS0.out ?_
    go_frame
    refine held_tk (i := 3) (dst := some 34) (v := .slice vq vn vc) rfl rfl (y_move (.tmp 4) rfl rfl rfl) hS0.out ?_
    go_frame
    refine held_call (i := 4) (dst := some 35) rfl rfl (by kernel_rfl) rfl (by go_simp) (cloneR_any vq vn vc l wr.drew (hon'.out.below (br.out.drew) (Nat.le_refl _)) hvn) ?_
    rintro e u1 ⟨qn, kn, rfl, hB, hb⟩
    have hb' : Below wr.heap.size wr u1 := (below_drew wr).trans hb
    have hS1 : Hid (u1.cell? ⟨w.heap.size, 3, none⟩ = some (.slice (some ⟨g, 0, none⟩) mn k7)) := cell_keeps hb' (Nat.le_refl _) cb
    have n1 := Lib.hid hB
    have hbu := Lib.hid hb'
    have row1 := Lib.hid (hrow'.out.below hb')
    have xr1 := Lib.hid (xr.out.below hb')
    have yr1 := Lib.hid (yr.out.below hb')
    have zr1 : Hid (OwnB u1 q1 tn k1 x.bs) := ⟨zr.out.1.below hb', zr.out.2⟩
    have rr1 := Lib.hid (rr.out.below hb')
    have gr1 := Lib.hid (gr.out.below hb')
    have br1 := Lib.hid (br.out.trans (hb'.mono br.out.size))
    clear hB hb hb' cb
    refine ⟨_, rfl, hS1.out, ?_⟩
    go_frame
    refine tg 5 36 (.pointer (some ⟨g, k, none⟩)) hS1.out ?_
    go_frame
    obtain ⟨u2, hst, h2, hg2⟩ := run_storeVar_one (P := Try.prog) (ty := 25) (o := k) (v := .slice qn vn kn) row1.out oneRows rfl (by have := hcur'.out; omega) rfl
    have hS2 : Hid (u2.cell? ⟨w.heap.size, 3, none⟩ = some (.slice (some ⟨g, 0, none⟩) mn k7)) := (xr1.out.kept hg2 (Ne.symm hne)).cell 3
    refine held_skip (i := 6) (dst := none) (w' := u2) rfl rfl (by kernel_rfl) rfl (run_store_op rfl rfl rfl hst) hS2.out ?_
    go_frame
    have xr2 := Lib.hid (xr1.out.kept hg2 (Ne.symm hne))
    have yr2 := Lib.hid (yr1.out.kept hg2 (Ne.symm hne2))
    have zr2 : Hid (OwnB u2 q1 tn k1 x.bs) := ⟨zr1.out.1.gt hg2 row1.out (by decide), zr1.out.2⟩
    have rr2 := Lib.hid (rr1.out.gt hg2 row1.out (by decide))
    have gr2 := Lib.hid (gr1.out.gt hg2 row1.out (by decide))
    have br2 := Lib.hid (br1.out.grown hg2 br1.out.size (fun j hj => by cases hj; exact hBg))
    have rel2 := Lib.hid (hstep'.out u2 ⟨qn, vn, kn⟩ h2 (n1.out.gt hg2 row1.out (by decide)) (fun v m hm => (hm.below hbu.out).gt hg2 row1.out (by decide)))
    refine wpAnyH_done (by kernel_rfl) ?_ _
    clear hst h2 hg2 hS0 hS1 hS2 xr1 yr1 zr1 rr1 gr1 br1 row1 n1
    go_wp2
    go_roundw
    case rel => exact ⟨k + 1, by omega, by go_num, br2, rel2, xr2, yr2, zr2, rr2, gr2⟩
    case measure => simp [intOf]; omega
  · obtain rfl : k = mn := by omega
    have hs := sizeSer (.slice q1 tn k1) (.slice q3 rn k3) (.slice q5 bn k5) (.slice q7 k k7) (.bool o)
    go_wp2_with (first
     | (with_reducible refine wpList_load_at rfl 46 (.tmp 1) rfl Try.underlying46 rfl hs rfl xr.out.boxed.all ?_)
     | ((with_reducible refine wpList_store_at rfl 46 (.tmp 2) (.tmp 38) rfl (o := 0) (vs := [.slice q1 tn k1, .slice q3 rn k3, .slice q5 bn k5, .slice q7 k k7, .bool o]) rfl rfl yr.out hs (Nat.le_refl _) (ser_one' _ _ _ _ _ _ _ _ _ _ _ _ _) ?_)
        intro w9 h9 hg9
        have h9' := Lib.hid h9
        have hg9' := Lib.hid hg9
        clear h9 hg9))
    have s9 : RowV 46 w9 (w.heap.size + 1) [.slice q1 tn k1, .slice q3 rn k3, .slice q5 bn k5, .slice q7 k k7, .bool o] := h9'.out
    have m0 := s9.cell 0
    have m1 := s9.cell 1
    have m2 := s9.cell 2
    have m3 := s9.cell 3
    have m4 := s9.cell 4
    simp only [List.getElem?_cons_zero, List.getElem?_cons_succ] at m0 m1 m2 m3 m4
    refine bodyPost_ret (v := .agg #[.slice q1 tn k1, .slice q3 rn k3, .slice q5 bn k5, .slice q7 k k7, .bool o]) (by simp [results, Try.results50, go_sem, m0, m1, m2, m3, m4]) rfl ?_
    refine ⟨⟨q1, tn, k1, q3, rn, k3, q5, bn, k5, q7, k, k7, o⟩, rfl, ?_, br.out.grown hg9'.out br.out.size (fun j hj => by cases hj; omega)⟩
    obtain ⟨us, e1, e2, e3, _⟩ := hrl.out
    have hm : OwnM wr q7 k k7 x.marks := ⟨us, e1.mono (Nat.zero_le _), e2, fun i v m a b => e3 i v m a b (by have := e1.len; have := (List.getElem?_eq_some_iff.1 a).1; omega)⟩
    exact ⟨⟨zr.out.1.gt hg9'.out yr.out (by decide), zr.out.2⟩, rr.out.gt hg9'.out yr.out (by decide), gr.out.gt hg9'.out yr.out (by decide), hm.gt hg9'.out yr.out (by decide) (by decide), hov'.out⟩
end Go.Proofs.Ytkdkncbccofpdaa
