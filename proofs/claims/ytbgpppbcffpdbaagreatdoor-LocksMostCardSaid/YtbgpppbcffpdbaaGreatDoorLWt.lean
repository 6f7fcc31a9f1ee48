/- waiting of locks. -/
import Derived.Test.YtbgpppbcffpdbaaGreatDoorLTq
import Derived.Test.YtbgpppbcffpdbaaGreatDoorHeld
namespace Go.Proofs.YtbgpppbcffpdbaaGreatDoor
open Go.RowKit Go.Maps
attribute [local go_sem] Oper.semAt_some

section
variable {F : Fence} {n : Nat} {P : Program} {w : World}
theorem wpListIn_load_at {ops : Array Oper} {rest : List Oper} {o : Oper} {a : Act} {Q : Exit → Act → World → Prop} (hgd : o.guard = none) (ty : TypeId) (x : Operand) (ho : o.op = .load ty x) {d : TypeDesc} (hu : P.underlying ty = some d)
    (hd : (match d with | .struct _ | .array _ _ => true | _ => false) = true) {vs : List Value} (hi : (P.info? ty).map (·.size) = some vs.length) {ad : Addr} (hx : a.eval x = .pointer (some ad))
    (hc : ∀ j v, vs[j]? = some v → w.cell? (ad.add j) = some v) (h : wpListIn F n P ops Q rest (a.put o.dst (.agg vs.toArray)) w) : wpListIn F n P ops Q (o :: rest) a w := by
  refine wpListIn_plain hgd fun K hK => ?_
  unfold Oper.wpIn
  refine ⟨by simp [Oper.about, ho], ?_⟩
  rw [Oper.semAt_plain F _ _ (by rw [ho]; intro c hc'; cases hc')]
  unfold execOp
  simp only [ho, hx, Instr.loadAt, Instr.sureAddr, Sem.run_bind, Sem.run_pure, Result.andThen_ok, run_loadVar_at hu hd hi ad hc, Oper.uponIn_value]
  exact hK _ _ h
theorem wpListIn_store_at {ops : Array Oper} {rest : List Oper} {op : Oper} {a : Act} {Q : Exit → Act → World → Prop} (hgd : op.guard = none) (ty : TypeId) (x y : Operand) (ho : op.op = .store ty x y) {T : TypeId} {g o : Nat} {cs vs : List Value}
    (hx : a.eval x = .pointer (some ⟨g, o, none⟩)) (hy : a.eval y = .agg vs.toArray) (h : RowV T w g cs) (hi : (P.info? ty).map (·.size) = some vs.length) (hfit : o + vs.length ≤ cs.length) (h1 : ∀ v ∈ vs, v.oneCell' = true)
    (hK : ∀ w', RowV T w' g (splice cs o vs) → w.grownBy w' (some g) → wpListIn F n P ops Q rest (a.put op.dst undef) w') : wpListIn F n P ops Q (op :: rest) a w := by
  refine wpListIn_plain hgd fun K hK' => ?_
  obtain ⟨w', hrun, r1, r2⟩ := run_storeVar_at (P := P) (ty := ty) h hi hfit h1
  unfold Oper.wpIn
  refine ⟨by simp [Oper.about, ho], ?_⟩
  rw [Oper.semAt_plain F _ _ (by rw [ho]; intro c hc'; cases hc')]
  unfold execOp
  simp only [ho, hx, hy, Instr.storeAt, Instr.sureAddr, Sem.run_bind, Sem.run_pure, Result.andThen_ok, hrun, Oper.uponIn_skip]
  exact hK' _ _ (hK w' r1 r2)
end

theorem toldQ_at {q : Option Addr} {L : List QueD} {x : Int} {s : List (Array Value)} {y : Array Value} : ∀ {n : Nat} {t : List (Array Value)}, toldQ q L x 0 n = s ++ y :: t → ∃ i, i < n ∧ touch L x i = true ∧ s = toldQ q L x 0 i ∧ y = #[.pointer (q.map fun A => A.add (i * 5))]
  | 0, t, h => by simp [toldQ] at h
  | n + 1, t, h => by
    cases ht : touch L x n with
    | false =>
      rw [toldQ_same ht] at h
      obtain ⟨i, h1, h2⟩ := toldQ_at h
      exact ⟨i, by omega, h2⟩
    | true =>
      rw [toldQ_next ht] at h
      rcases List.eq_nil_or_concat t with rfl | ⟨t', z, rfl⟩
      · obtain ⟨h1, h2⟩ := List.append_inj' h rfl
        exact ⟨n, by omega, ht, h1.symm, by simpa using h2.symm⟩
      · rw [List.concat_eq_append, ← List.cons_append, ← List.append_assoc] at h
        obtain ⟨h1, _⟩ := List.append_inj' h rfl
        obtain ⟨i, h1, h2⟩ := toldQ_at h1
        exact ⟨i, by omega, h2⟩
theorem toldQ_mono {q : Option Addr} {L : List QueD} {x : Int} (a : Nat) : ∀ d, (toldQ q L x 0 a).length ≤ (toldQ q L x 0 (a + d)).length
  | 0 => Nat.le_refl _
  | d + 1 => by
    refine Nat.le_trans (toldQ_mono a d) ?_
    rw [← Nat.add_assoc]
    cases h : touch L x (a + d) with
    | false => rw [toldQ_same h]; exact Nat.le_refl _
    | true => rw [toldQ_next h, List.length_append]; exact Nat.le_add_right _ _
theorem toldQ_gap {q : Option Addr} {L : List QueD} {x : Int} {a b j : Nat} (h : toldQ q L x 0 a = toldQ q L x 0 b) (h1 : a ≤ j) (h2 : j < b) : touch L x j = false := by
  cases ht : touch L x j with
  | false => rfl
  | true =>
    exfalso
    have e1 := toldQ_mono (q := q) (L := L) (x := x) a (j - a)
    have e2 := toldQ_mono (q := q) (L := L) (x := x) (j + 1) (b - (j + 1))
    rw [show a + (j - a) = j by omega] at e1
    rw [show j + 1 + (b - (j + 1)) = b by omega, toldQ_next ht, List.length_append, ← h] at e2
    simp at e2
    omega
/-- it waits in none of the first k queues -/
def NoW (L : List QueD) (x : Int) (k : Nat) : Prop := ∀ i d, i < k → L[i]? = some d → waitI d.ws x < 0
theorem NoW.ext {q : Option Addr} {L : List QueD} {x : Int} {k i : Nat} (h : NoW L x k) (he : toldQ q L x 0 k = toldQ q L x 0 i) : NoW L x i := fun j d hj hd => by
  rcases Nat.lt_or_ge j k with h1 | h1
  · exact h j d h1 hd
  · have := toldQ_gap he h1 hj
    rw [touch_at hd] at this
    unfold touchD at this
    simp at this
    omega
theorem NoW.next {L : List QueD} {x : Int} {i : Nat} {d : QueD} (h : NoW L x i) (hd : L[i]? = some d) (hw : waitI d.ws x < 0) : NoW L x (i + 1) := fun j e hj he => by
  rcases Nat.lt_or_ge j i with h1 | h1
  · exact h j e h1 he
  · obtain rfl : j = i := by omega
    rw [hd] at he; cases he; exact hw

theorem queuesOf_any (q : Option Addr) (n c : Nat) (x : Int) (w : World) : Calls Tryz.prog 46 #[.agg #[.slice q n c], .int .i64 x] w (fun e w' => e = .returned (.func (.func 90) #[] #[.pointer (some ⟨w.heap.size, 0, none⟩), .pointer (some ⟨w.heap.size + 1, 0, none⟩)]) ∧ w' = (w.alloc (.cells #[.slice q n c] 24)).alloc (.cells #[.int .i64 x] 3)) := by
  go_enter Tryz.func46, Tryz.ntmps46
  go_wp2
  go_ret
  exact ⟨by simp, rfl⟩

def WtPost (L : List QueD) (x : Int) (w : World) (e : Ending) (w' : World) : Prop := Below w.heap.size w w' ∧ ∃ (v : QV) (p : Int) (b : Bool), e = .returned (.tuple #[v.val, .int .i64 p, .bool b]) ∧
  ((b = false ∧ p = 0 ∧ NoW L x L.length) ∨ (b = true ∧ ∃ i d, L[i]? = some d ∧ v.On w d ∧ p = waitI d.ws x ∧ 0 ≤ p ∧ NoW L x i))

/-- the boxes that are read -/
def WRows (b B : Nat) (q : Option Addr) (n c : Nat) (x : Int) (U : World) : Prop := RowV 24 U B [.slice q n c] ∧ RowV 3 U (B + 1) [.int .i64 x] ∧ RowV 3 U (b + 1) [.int .i64 x]

set_option maxRecDepth 100000 in
set_option maxHeartbeats 2000000 in
theorem waiting_any (q : Option Addr) (n c : Nat) (V : List QV) (L : List QueD) (x : Int) (w : World) (h : LkOn w q n c V L) (hsm : Sm L) (hn : n ≤ 1000000) (hsH : ∀ d ∈ L, SortH d.hs) :
    Calls Tryz.prog 45 #[.agg #[.slice q n c], .int .i64 x] w (WtPost L x w) := by
  obtain ⟨W0, hW0⟩ : ∃ W', w.alloc (.cells #[.slice q n c] 24) = W' := ⟨_, rfl⟩
  have bW0 := (one_box (xs := [.slice q n c]) hW0)
  have rW0 : RowV 24 W0 w.heap.size [.slice q n c] := RowV.made' (cs := [.slice q n c]) hW0
  obtain ⟨W1, hW1⟩ : ∃ W', W0.alloc (.cells #[.int .i64 x] 3) = W' := ⟨_, rfl⟩
  have bW1 := (one_box (xs := [.int .i64 x]) hW1)
  have rW1 : RowV 3 W1 W0.heap.size [.int .i64 x] := RowV.made' (cs := [.int .i64 x]) hW1
  obtain ⟨W2, hW2⟩ : ∃ W', W1.alloc (.cells #[.int .i64 0, .bool false, .int .u16 0, .slice none 0 0, .slice none 0 0] 43) = W' := ⟨_, rfl⟩
  have bW2 := (one_box (xs := [.int .i64 0, .bool false, .int .u16 0, .slice none 0 0, .slice none 0 0]) hW2)
  have rW2 : RowV 43 W2 W1.heap.size [.int .i64 0, .bool false, .int .u16 0, .slice none 0 0, .slice none 0 0] := RowV.made' (cs := [.int .i64 0, .bool false, .int .u16 0, .slice none 0 0, .slice none 0 0]) hW2
  obtain ⟨W3, hW3⟩ : ∃ W', W2.alloc (.cells #[.int .i64 0] 3) = W' := ⟨_, rfl⟩
  have bW3 := (one_box (xs := [.int .i64 0]) hW3)
  have rW3 : RowV 3 W3 W2.heap.size [.int .i64 0] := RowV.made' (cs := [.int .i64 0]) hW3
  obtain ⟨W, hW⟩ : ∃ W', W3.alloc (.cells #[.bool false] 4) = W' := ⟨_, rfl⟩
  have bW := (one_box (xs := [.bool false]) hW)
  have rW : RowV 4 W W3.heap.size [.bool false] := RowV.made' (cs := [.bool false]) hW
  have z0 : W0.heap.size = w.heap.size + 1 := bW0.2.2
  have z1 : W1.heap.size = w.heap.size + 2 := by have := bW1.2.2; omega
  have z2 : W2.heap.size = w.heap.size + 3 := by have := bW2.2.2; omega
  have z3 : W3.heap.size = w.heap.size + 4 := by have := bW3.2.2; omega
  have z4 : W.heap.size = w.heap.size + 5 := by have := bW.2.2; omega
  have d3 := bW.1
  have d2 := below_step d3 bW3.1
  have d1 := below_step d2 bW2.1
  have d0 := below_step d1 bW1.1
  have dw := Lib.hid (below_step d0 bW0.1)
  have e0 : RowV 24 W w.heap.size [.slice q n c] := rW0.below d0
  have e1 : RowV 3 W (w.heap.size + 1) [.int .i64 x] := by have h := rW1.below d1; rwa [z0] at h
  have e2 : RowV 43 W (w.heap.size + 2) [.int .i64 0, .bool false, .int .u16 0, .slice none 0 0, .slice none 0 0] := by have h := rW2.below d2; rwa [z1] at h
  have e3 : RowV 3 W (w.heap.size + 3) [.int .i64 0] := by have h := rW3.below d3; rwa [z2] at h
  have e4 : RowV 4 W (w.heap.size + 4) [.bool false] := by have h := rW; rwa [z3] at h
  have c0 : W.cell? ⟨w.heap.size, 0, none⟩ = some (.slice q n c) := e0.cell 0
  have c1 : W.cell? ⟨W0.heap.size, 0, none⟩ = some (.int .i64 x) := by rw [z0]; exact e1.cell 0
  have hE := Lib.hid (And.intro e0 (And.intro e1 (And.intro e2 (And.intro e3 e4))))
  have hZ := Lib.hid (And.intro z0 (And.intro z1 (And.intro z2 (And.intro z3 z4))))
  clear e0 e1 e2 e3 e4 z0 z1 z2 z3 z4 d0 d1 d2 d3 rW rW0 rW1 rW2 rW3 bW bW0 bW1 bW2 bW3
  have hh := Lib.hid h
  have hsm' := Lib.hid hsm
  have hsH' := Lib.hid hsH
  have hn' := Lib.hid hn
  clear h hsm hsH hn
  refine (callsIn_wide (n := 10)).1 ?_
  refine callsIn_of_wp_marks Tryz.func45 rfl trivial ?_ rfl
  simp only [Tryz.ntmps45, List.size_toArray, List.length_cons, List.length_nil, Nat.reduceAdd, Nat.reduceSub, Array.replicate_succ, Array.replicate_zero, List.push_toArray, List.append_toArray, List.nil_append, List.cons_append]
  have hfK : Fence.wide.fn 46 := trivial
  gi_wp2_with (gi_at_call 46; refine (callsIn_wide.2 (queuesOf_any q n c x _)).mono ?_; rintro e WQ ⟨rfl, hWQ⟩; have hQ := Lib.hid hWQ; clear hWQ)
  clear c0 c1 hW hW0 hW1 hW2 hW3 hfK
  obtain ⟨z0, z1, z2, z3, z4⟩ := hZ.out
  have hqs : Hid (Below W.heap.size W WQ ∧ RowV 24 WQ W.heap.size [.slice q n c] ∧ RowV 3 WQ (W.heap.size + 1) [.int .i64 x] ∧ WQ.heap.size = W.heap.size + 2) := by
    have h1 := one_box (w := W) (xs := [.slice q n c]) (T1 := 24) rfl
    have r1 := RowV.made (T := 24) W [.slice q n c]
    have h2 := one_box (w := W.alloc (.cells #[.slice q n c] 24)) (xs := [.int .i64 x]) (T1 := 3) rfl
    have r2 := RowV.made (T := 3) (W.alloc (.cells #[.slice q n c] 24)) [.int .i64 x]
    rw [World.size_alloc] at r2
    rw [← hQ.out] at h2 r2
    exact ⟨below_step h2.1 h1.1, r1.below h2.1, r2, by have a := h1.2.2; have b := h2.2.2; omega⟩
  have hsQ : WQ.heap.size = w.heap.size + 7 := by have := hqs.out.2.2.2; omega
  have hrowsQ : Hid (WRows w.heap.size (w.heap.size + 5) q n c x WQ) := by
    have h1 := hqs.out.2.1
    have h2 := hqs.out.2.2.1
    rw [z4] at h1 h2
    exact ⟨h1, h2, hE.out.2.1.below hqs.out.1⟩
  refine range_tells (fn := 90) (pre := #[]) (post := #[.pointer (some ⟨W.heap.size, 0, none⟩), .pointer (some ⟨W.heap.size + 1, 0, none⟩)]) (R := ReadQ W.heap.size (W.heap.size + 1) q n c L x) (L := toldQ q L x 0 n)
    rfl (enters_of Tryz.func90 (by kernel_rfl) rfl) (fun y hy => by
      obtain ⟨s, t, e⟩ := List.append_of_mem hy
      obtain ⟨i, _, _, _, rfl⟩ := toldQ_at e
      rfl) (fun U _ => queues_tells _ _ q n c L x hn'.out hsm'.out hsH'.out U)
    (fun s U => Below w.heap.size w U ∧ WRows w.heap.size (w.heap.size + 5) q n c x U ∧ (RowV 43 U (w.heap.size + 2) [.int .i64 0, .bool false, .int .u16 0, .slice none 0 0, .slice none 0 0] ∧ RowV 3 U (w.heap.size + 3) [.int .i64 0] ∧ RowV 4 U (w.heap.size + 4) [.bool false]) ∧ ∃ k, s = toldQ q L x 0 k ∧ NoW L x k)
    (fun c' U => c' = .ret ∧ Below w.heap.size w U ∧ ∃ (i : Nat) (d : QueD) (v : QV), L[i]? = some d ∧ v.On w d ∧ 0 ≤ waitI d.ws x ∧ NoW L x i ∧ RowV 43 U (w.heap.size + 2) (Cel.cells v) ∧ RowV 3 U (w.heap.size + 3) [.int .i64 (waitI d.ws x)] ∧ RowV 4 U (w.heap.size + 4) [.bool true]) ?hIb ?hXb ?hR ?hI0 ?hround ?hdone ?hleft
  case hIb =>
    rintro s U U' ⟨h1, ⟨a1, a2, a3⟩, ⟨b1, b2, b3⟩, h4⟩ hb
    exact ⟨h1.trans (hb.mono (by omega)), ⟨a1.block (hb.block _ (by omega)), a2.block (hb.block _ (by omega)), a3.block (hb.block _ (by omega))⟩, ⟨b1.block (hb.block _ (by omega)), b2.block (hb.block _ (by omega)), b3.block (hb.block _ (by omega))⟩, h4⟩
  case hXb =>
    rintro c' U U' ⟨h0, h1, i, d, v, g1, g2, g3, g4, b1, b2, b3⟩ hb
    exact ⟨h0, h1.trans (hb.mono (by omega)), i, d, v, g1, g2, g3, g4, b1.block (hb.block _ (by omega)), b2.block (hb.block _ (by omega)), b3.block (hb.block _ (by omega))⟩
  case hR =>
    rintro s U ⟨h1, ⟨a1, a2, a3⟩, _, _⟩
    refine ⟨by rw [z4]; exact a1.cell 0, by rw [z4]; exact a2.cell 0, fun k hk _ => ?_⟩
    obtain ⟨A, v, d, hqA, _, hd, hon, hc⟩ := (hh.out.below h1 (Nat.le_refl _)).at hk
    exact ⟨v, d, hd, hon, A, hqA, hc⟩
  case hI0 =>
    refine ⟨dw.out.trans (hqs.out.1.mono dw.out.size), hrowsQ.out, ⟨hE.out.2.2.1.below hqs.out.1, hE.out.2.2.2.1.below hqs.out.1, hE.out.2.2.2.2.below hqs.out.1⟩, 0, by simp [toldQ], fun i d hi => absurd hi (Nat.not_lt_zero _)⟩
  case hround =>
    rintro l2 s y t U hsp hU ⟨h1, hr3, hr6, k, hs, hno⟩
    obtain ⟨i, hi, htc, hsi, rfl⟩ := toldQ_at hsp
    obtain ⟨A, ⟨⟨t', kk, id⟩, hq, hn2, hc, wq, wn, wc⟩, d, hqA, _, hd, hon, hcl⟩ := hh.out.at hi
    subst hqA
    have hno' := Lib.hid (hno.ext (hs.symm.trans hsi))
    have hs2 := hsm'.out.at hd
    have hw1 : wn ≤ 1000000 := by have h1 : d.ws.length = wn := hon.ws.len; have h2 := hs2.2; omega
    have hb1 := Lib.hid h1
    have hR3 := Lib.hid hr3
    have hR6 := Lib.hid hr6
    have hnx := Lib.hid (toldQ_next (q := some A) htc)
    have hcl' : Hid (∀ u, Below w.heap.size w u → ∀ j y, ([.int .i64 t', .bool kk, .int .u16 id, .slice hq hn2 hc, .slice wq wn wc] : List Value)[j]? = some y → u.cell? ((A.add (i * 5)).add j) = some y) := fun u hu j y hj => cell_kept hu (Nat.le_refl _) (hcl j y hj)
    obtain ⟨p, hp⟩ : ∃ p, waitI d.ws x = p := ⟨_, rfl⟩
    have hc89 : Hid (∀ u, Below w.heap.size w u → Calls Tryz.prog 89 #[.agg #[.int .i64 t', .bool kk, .int .u16 id, .slice hq hn2 hc, .slice wq wn wc], .int .i64 x] u (fun e w' => e = .returned (.int .i64 p) ∧ Below u.heap.size u w')) := by
      rw [← hp]
      exact fun u hu => waiter_any t' kk id hq hn2 hc wq wn wc d.ws x u (hon.ws.below hu (Nat.le_refl _)) hw1
    have hp' := Lib.hid hp
    have hd' := Lib.hid hd
    have hon' := Lib.hid hon
    have hsi' := Lib.hid hsi
    clear hsp h1 hr3 hr6 hs hno hcl hon hs2 hw1 hp hd htc hsi
    gi_wp2
    refine ⟨fun _ _ _ => rfl, Nat.le_refl _, fun U2 hz hblk hos htp hout => ?_⟩
    have hbU : Below WQ.heap.size U U2 := ⟨hos, htp, hout, by omega, fun k hk => hblk k (by omega)⟩
    have hbw := Lib.hid (hb1.out.trans (hbU.mono (by omega)))
    have x1 := Lib.hid (hR3.out.1.block (hblk _ (by omega)))
    have x2 := Lib.hid (hR3.out.2.1.block (hblk _ (by omega)))
    have x3 := Lib.hid (hR3.out.2.2.block (hblk _ (by omega)))
    have y1 := Lib.hid (hR6.out.1.block (hblk _ (by omega)))
    have y2 := Lib.hid (hR6.out.2.1.block (hblk _ (by omega)))
    have y3 := Lib.hid (hR6.out.2.2.block (hblk _ (by omega)))
    have hx3 : U2.cell? ⟨w.heap.size + 1, 0, none⟩ = some (.int .i64 x) := x3.out.cell 0
    have hx3' := Lib.hid hx3
    clear hos htp hout hbU hblk hz
    gi_wp2
    refine wpIn_region_any (by kernel_rfl) (any_lift l2 8 (by kernel_rfl) (by rintro ⟨_, _, h⟩; exact h) _ _ _ _ (wpAny_of_held (S := fun u => Below U2.heap.size U2 u) _ _ _ _ ?_))
    change wpAnyH _ _ _ _ _ _ _ _ (World.drew U2)
    have hS0 : Below U2.heap.size U2 U2.drew := below_drew' U2
    refine held_take (i := 0) (dst := some 13) (v := .pointer (some (A.add (i * 5)))) rfl rfl (by kernel_rfl) (by kernel_rfl) (by kernel_rfl) (fun _ _ _ h => h) (y_move (.tmp 7) rfl rfl rfl) hS0 ?_
    go_frame
    refine held_take (i := 1) (dst := some 14) (v := .pointer (some (A.add (i * 5)))) rfl rfl (by kernel_rfl) (by kernel_rfl) (by kernel_rfl) (fun _ _ _ h => h) (.inl ⟨rfl, fun u hu => by go_simp⟩) hS0 ?_
    go_frame
    refine held_take (i := 2) (dst := some 15) (v := .agg #[.int .i64 t', .bool kk, .int .u16 id, .slice hq hn2 hc, .slice wq wn wc]) rfl rfl (by kernel_rfl) (by kernel_rfl) (by kernel_rfl) (fun _ _ _ h => h) (y_load_agg 43 (.tmp 14) rfl rfl rfl (fun u hu => run_loadVar_at Tryz.underlying43 rfl (sizeQue _ _ _ _ _) _ (hcl'.out u (below_step hu hbw.out)))) hS0 ?_
    go_frame
    refine held_take (i := 3) (dst := some 16) (v := .int .i64 x) rfl rfl (by kernel_rfl) (by kernel_rfl) (by kernel_rfl) (fun _ _ _ h => h) (.inl ⟨rfl, fun u hu => by have c2 := cell_kept hu (Nat.le_refl _) hx3'.out; go_simp⟩) hS0 ?_
    go_frame
    refine held_call (i := 4) (dst := some 17) rfl rfl (by kernel_rfl) rfl (by go_simp) (hc89.out _ (below_step hS0 hbw.out)) ?_
    rintro e u1 ⟨rfl, hb2⟩
    have hS1 : Below U2.heap.size U2 u1 := below_step hb2 hS0
    refine ⟨_, rfl, hS1, ?_⟩
    go_frame
    refine held_take (i := 5) (dst := some 8) (v := .int .i64 p) rfl rfl (by kernel_rfl) (by kernel_rfl) (by kernel_rfl) (fun _ _ _ h => h) (.inl ⟨rfl, fun u hu => by go_simp⟩) hS1 ?_
    go_frame
    refine wpAnyH_done (by kernel_rfl) ?_ _
    have hSW := Lib.hid hS1
    have hbv := Lib.hid (below_step hS1 hbw.out)
    clear hS1 hS0 hb2 hx3
    by_cases hpz : 0 ≤ p
    · have s5 := sizeQue (.int .i64 t') (.bool kk) (.int .u16 id) (.slice hq hn2 hc) (.slice wq wn wc)
      have hcell := Lib.hid (hcl'.out u1 hbv.out)
      have h1q := one_q ⟨⟨t', kk, id⟩, hq, hn2, hc, wq, wn, wc⟩
      have y1' : Hid (RowV 43 u1 (w.heap.size + 2) [.int .i64 0, .bool false, .int .u16 0, .slice none 0 0, .slice none 0 0]) := y1.out.below hSW.out
      gi_wp2_with (first
        | (with_reducible refine wpListIn_load_at rfl 43 (.tmp 21) rfl Tryz.underlying43 rfl s5 rfl hcell.out ?_)
        | ((with_reducible refine wpListIn_store_at rfl 43 (.tmp 4) (.tmp 22) rfl (o := 0) (vs := [.int .i64 t', .bool kk, .int .u16 id, .slice hq hn2 hc, .slice wq wn wc]) rfl rfl y1'.out s5 (Nat.le_refl _) h1q ?_)
           intro w9 h9 hg9
           have q9 : Hid (RowV 43 w9 (w.heap.size + 2) [.int .i64 t', .bool kk, .int .u16 id, .slice hq hn2 hc, .slice wq wn wc]) := h9
           have hg9' := Lib.hid hg9
           have y2' : Hid (RowV 3 w9 (w.heap.size + 3) [.int .i64 0]) := (y2.out.below hSW.out).kept hg9 (by omega)
           have y3' : Hid (RowV 4 w9 (w.heap.size + 4) [.bool false]) := (y3.out.below hSW.out).kept hg9 (by omega)
           have m2 : w9.cell? ⟨w.heap.size + 3, 0, none⟩ = some (.int .i64 0) := y2'.out.cell 0
           have m3 : w9.cell? ⟨w.heap.size + 4, 0, none⟩ = some (.bool false) := y3'.out.cell 0
           have n2 := y2'.out.free 0
           have n3 := y3'.out.free 0
           clear h9 hg9))
      have g3 : w9.grownBy (w9.setCell ⟨w.heap.size + 3, 0, none⟩ (.int .i64 p)) (some (w.heap.size + 3)) := setCell_grown w9 _ _ _
      have t2 : RowV 3 (w9.setCell ⟨w.heap.size + 3, 0, none⟩ (.int .i64 p)) (w.heap.size + 3) [.int .i64 p] := y2'.out.set 0 _
      have t1 : RowV 43 (w9.setCell ⟨w.heap.size + 3, 0, none⟩ (.int .i64 p)) (w.heap.size + 2) [.int .i64 t', .bool kk, .int .u16 id, .slice hq hn2 hc, .slice wq wn wc] := q9.out.kept g3 (by omega)
      have t3 : RowV 4 (w9.setCell ⟨w.heap.size + 3, 0, none⟩ (.int .i64 p)) (w.heap.size + 4) [.bool false] := y3'.out.kept g3 (by omega)
      have l1 := low_step hbv.out hg9'.out (by omega)
      have l2' := low_step l1 g3 (by omega)
      obtain ⟨w10, hw10⟩ : ∃ w10, w9.setCell ⟨w.heap.size + 3, 0, none⟩ (.int .i64 p) = w10 := ⟨_, rfl⟩
      rw [hw10] at g3 t1 t2 t3 l2' ⊢
      have g4 : w10.grownBy (w10.setCell ⟨w.heap.size + 4, 0, none⟩ (.bool true)) (some (w.heap.size + 4)) := setCell_grown w10 _ _ _
      have gs := hg9'.out.size
      have gs3 := g3.size
      have gs4 := g4.size
      have gs0 := hSW.out.size
      refine ⟨⟨rfl, low_step l2' g4 (by omega), i, d, hd'.out, ⟨⟨t', kk, id⟩, hq, hn2, hc, wq, wn, wc⟩, hon'.out, by rw [hp'.out]; exact hpz, hno'.out, t1.kept g4 (by omega), by rw [hp'.out]; exact t2.kept g4 (by omega), t3.set 0 _⟩, fun k h1 h2 => ?_, by omega⟩
      rw [g4.block k (by omega) (by simp; omega), g3.block k (by omega) (by simp; omega), hg9'.out.block k (by omega) (by simp; omega)]
      exact hSW.out.block k h2
    · gi_wp2
      refine ⟨⟨hbv.out, ⟨x1.out.below hSW.out, x2.out.below hSW.out, x3.out.below hSW.out⟩, ⟨y1.out.below hSW.out, y2.out.below hSW.out, y3.out.below hSW.out⟩, i + 1, by rw [hnx.out, hsi'.out]; rfl, hno'.out.next hd'.out (by rw [hp'.out]; omega)⟩, fun k h1 h2 => hSW.out.block k h2, hSW.out.size⟩
  case hdone =>
    rintro D U hD ⟨h1, hr3, hr6, k, hs, hno⟩ hKD hDl
    have hno' : Hid (NoW L x L.length) := by show NoW _ _ _; rw [hh.out.len]; exact hno.ext hs.symm
    have hb1 := Lib.hid h1
    have y1' : Hid (RowV 43 U (w.heap.size + 2) [.int .i64 0, .bool false, .int .u16 0, .slice none 0 0, .slice none 0 0]) := hr6.1
    have y2' : Hid (RowV 3 U (w.heap.size + 3) [.int .i64 0]) := hr6.2.1
    have y3' : Hid (RowV 4 U (w.heap.size + 4) [.bool false]) := hr6.2.2
    clear h1 hr3 hr6 hs hno
    have hw := y1'.out
    have k0 := y1'.out.cell 0
    have f0 := y1'.out.free 0
    have k1 := y1'.out.cell 1
    have f1 := y1'.out.free 1
    have k2 := y1'.out.cell 2
    have f2 := y1'.out.free 2
    have k3 := y1'.out.cell 3
    have f3 := y1'.out.free 3
    have k4 := y1'.out.cell 4
    have f4 := y1'.out.free 4
    have k5 := y2'.out.cell 0
    have f5 := y2'.out.free 0
    have k6 := y3'.out.cell 0
    have f6 := y3'.out.free 0
    simp only [List.getElem?_cons_zero, List.getElem?_cons_succ] at k0 k1 k2 k3 k4 k5 k6
    clear hw
    gi_wp2
    have q1 : RowV 43 _ (w.heap.size + 2) [.int .i64 0, .bool false, .int .u16 0, .slice none 0 0, .slice none 0 0] := ((((y1'.out.set 0 (.int .i64 0)).set 1 (.bool false)).set 2 (.int .u16 0)).set 3 (.slice none 0 0)).set 4 (.slice none 0 0)
    have g0 : U.grownBy _ (some (w.heap.size + 2)) := grown_trans (grown_trans (grown_trans (grown_trans (setCell_grown U (w.heap.size + 2) 0 (.int .i64 0)) (setCell_grown _ (w.heap.size + 2) 1 (.bool false))) (setCell_grown _ (w.heap.size + 2) 2 (.int .u16 0))) (setCell_grown _ (w.heap.size + 2) 3 (.slice none 0 0))) (setCell_grown _ (w.heap.size + 2) 4 (.slice none 0 0))
    have q2 := y2'.out.kept g0 (by omega)
    have q3 := y3'.out.kept g0 (by omega)
    obtain ⟨X0, hX0⟩ : ∃ X0, ((((U.setCell ⟨w.heap.size + 2, 0, none⟩ (.int .i64 0)).setCell ⟨w.heap.size + 2, 1, none⟩ (.bool false)).setCell ⟨w.heap.size + 2, 2, none⟩ (.int .u16 0)).setCell ⟨w.heap.size + 2, 3, none⟩ (.slice none 0 0)).setCell ⟨w.heap.size + 2, 4, none⟩ (.slice none 0 0) = X0 := ⟨_, rfl⟩
    rw [hX0] at q1 g0 q2 q3 ⊢
    have g1 : X0.grownBy _ (some (w.heap.size + 3)) := setCell_grown X0 (w.heap.size + 3) 0 (.int .i64 0)
    have r1 := q1.kept g1 (by omega)
    have r2 : RowV 3 _ (w.heap.size + 3) [.int .i64 0] := q2.set 0 (.int .i64 0)
    have r3 := q3.kept g1 (by omega)
    obtain ⟨X1, hX1⟩ : ∃ X1, X0.setCell ⟨w.heap.size + 3, 0, none⟩ (.int .i64 0) = X1 := ⟨_, rfl⟩
    rw [hX1] at g1 r1 r2 r3 ⊢
    have g2 : X1.grownBy _ (some (w.heap.size + 4)) := setCell_grown X1 (w.heap.size + 4) 0 (.bool false)
    have t1 := r1.kept g2 (by omega)
    have t2 := r2.kept g2 (by omega)
    have t3 : RowV 4 _ (w.heap.size + 4) [.bool false] := r3.set 0 (.bool false)
    obtain ⟨X, hX⟩ : ∃ X, X1.setCell ⟨w.heap.size + 4, 0, none⟩ (.bool false) = X := ⟨_, rfl⟩
    rw [hX] at g2 t1 t2 t3 ⊢
    have hbX : Below w.heap.size w X := low_step (low_step (low_step hb1.out g0 (by omega)) g1 (by omega)) g2 (by omega)
    have hKX : X.heap[D]? = some (.deferred (some [])) := by
      rw [g2.block D (by have := g0.size; have := g1.size; omega) (by simp; omega), g1.block D (by have := g0.size; omega) (by simp; omega), g0.block D hDl (by simp; omega)]
      exact hKD
    refine ⟨by simp, .inl ⟨_, _, rfl, run_takeDeferred hKX, ?_⟩⟩
    have p1 : RowV 43 (X.putObj D (.deferred none)) (w.heap.size + 2) [.int .i64 0, .bool false, .int .u16 0, .slice none 0 0, .slice none 0 0] := RowV.block t1 (World.putObj_heap_other (by omega))
    have p2 : RowV 3 (X.putObj D (.deferred none)) (w.heap.size + 3) [.int .i64 0] := RowV.block t2 (World.putObj_heap_other (by omega))
    have p3 : RowV 4 (X.putObj D (.deferred none)) (w.heap.size + 4) [.bool false] := RowV.block t3 (World.putObj_heap_other (by omega))
    have hbY : Below w.heap.size w (X.putObj D (.deferred none)) := hbX.trans ⟨rfl, rfl, rfl, by simp, fun k hk => World.putObj_heap_other (by omega)⟩
    obtain ⟨Y, hY⟩ : ∃ Y, X.putObj D (.deferred none) = Y := ⟨_, rfl⟩
    rw [hY] at p1 p2 p3 hbY ⊢
    rw [← z1] at p1
    rw [← z2] at p2
    rw [← z3] at p3
    have m0 := p1.cell 0
    have m1 := p1.cell 1
    have m2 := p1.cell 2
    have m3 := p1.cell 3
    have m4 := p1.cell 4
    have m5 := p2.cell 0
    have m6 := p3.cell 0
    simp only [List.getElem?_cons_zero, List.getElem?_cons_succ] at m0 m1 m2 m3 m4 m5 m6
    clear z0 z1 z2 z3 z4
    refine ⟨.tuple #[.agg #[.int .i64 0, .bool false, .int .u16 0, .slice none 0 0, .slice none 0 0], .int .i64 0, .bool false], ?_, hbY, ⟨⟨0, false, 0⟩, none, 0, 0, none, 0, 0⟩, 0, false, rfl, .inl ⟨rfl, rfl, hno'.out⟩⟩
    simp [results, Tryz.results45, go_sem, m0, m1, m2, m3, m4, m5, m6]
  case hleft =>
    rintro D c' U hD ⟨rfl, h1, i, d, v, g1, g2, g3, g4, b1, b2, b3⟩ hKD hDl
    gi_wp2
    refine ⟨by simp, .inl ⟨_, _, rfl, run_takeDeferred hKD, ?_⟩⟩
    obtain ⟨⟨t, k, id⟩, hq, hn2, hc, wq, wn, wc⟩ := v
    have p1 : RowV 43 (U.putObj D (.deferred none)) (w.heap.size + 2) [.int .i64 t, .bool k, .int .u16 id, .slice hq hn2 hc, .slice wq wn wc] := RowV.block b1 (World.putObj_heap_other (by omega))
    have p2 : RowV 3 (U.putObj D (.deferred none)) (w.heap.size + 3) [.int .i64 (waitI d.ws x)] := RowV.block b2 (World.putObj_heap_other (by omega))
    have p3 : RowV 4 (U.putObj D (.deferred none)) (w.heap.size + 4) [.bool true] := RowV.block b3 (World.putObj_heap_other (by omega))
    have hbY : Below w.heap.size w (U.putObj D (.deferred none)) := h1.trans ⟨rfl, rfl, rfl, by simp, fun k hk => World.putObj_heap_other (by omega)⟩
    obtain ⟨Y, hY⟩ : ∃ Y, U.putObj D (.deferred none) = Y := ⟨_, rfl⟩
    rw [hY] at p1 p2 p3 hbY ⊢
    rw [← z1] at p1
    rw [← z2] at p2
    rw [← z3] at p3
    have m0 := p1.cell 0
    have m1 := p1.cell 1
    have m2 := p1.cell 2
    have m3 := p1.cell 3
    have m4 := p1.cell 4
    have m5 := p2.cell 0
    have m6 := p3.cell 0
    simp only [List.getElem?_cons_zero, List.getElem?_cons_succ] at m0 m1 m2 m3 m4 m5 m6
    clear z0 z1 z2 z3 z4
    refine ⟨.tuple #[.agg #[.int .i64 t, .bool k, .int .u16 id, .slice hq hn2 hc, .slice wq wn wc], .int .i64 (waitI d.ws x), .bool true], ?_, hbY, ⟨⟨t, k, id⟩, hq, hn2, hc, wq, wn, wc⟩, (waitI d.ws x), true, rfl, .inr ⟨rfl, i, d, g1, g2, rfl, g3, g4⟩⟩
    simp [results, Tryz.results45, go_sem, m0, m1, m2, m3, m4, m5, m6]
end Go.Proofs.YtbgpppbcffpdbaaGreatDoor
