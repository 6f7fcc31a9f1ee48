/- queuesOf of locks: the queues in which a transaction holds something or waits, told in order. -/
import Derived.Test.YtbgpppbcffpdbaaGreatDoorLTell
import Derived.Test.YtbgpppbcffpdbaaGreatDoorRHin
import Derived.Test.YtbgpppbcffpdbaaGreatDoorLGd
namespace Go.Proofs.YtbgpppbcffpdbaaGreatDoor
open Go.RowKit Go.Maps
attribute [local go_sem] Oper.semAt_some

/-- the transaction holds something there, or waits -/
def touchD (x : Int) (d : QueD) : Bool := heldH d.hs x != 0 || decide (0 ≤ waitI d.ws x)
def touch (L : List QueD) (x : Int) (i : Nat) : Bool := match L[i]? with
  | some d => touchD x d
  | none => false
theorem touch_at {L : List QueD} {x : Int} {i : Nat} {d : QueD} (h : L[i]? = some d) : touch L x i = touchD x d := by unfold touch; rw [h]
def toldQ (q : Option Addr) (L : List QueD) (x : Int) (a k : Nat) : List (Array Value) := ((List.range' a k).filter (touch L x)).map fun i => #[.pointer (q.map fun A => A.add (i * 5))]
theorem toldQ_next {q : Option Addr} {L : List QueD} {x : Int} {k : Nat} (h : touch L x k = true) : toldQ q L x 0 (k + 1) = toldQ q L x 0 k ++ [#[.pointer (q.map fun A => A.add (k * 5))]] := by
  unfold toldQ
  rw [List.range'_concat, List.filter_append, List.map_append]
  simp [h]
theorem toldQ_same {q : Option Addr} {L : List QueD} {x : Int} {k : Nat} (h : touch L x k = false) : toldQ q L x 0 (k + 1) = toldQ q L x 0 k := by
  unfold toldQ
  rw [List.range'_concat, List.filter_append, List.map_append]
  simp [h]
theorem toldQ_split {q : Option Addr} {L : List QueD} {x : Int} {k n : Nat} (hk : k < n) (h : touch L x k = true) : toldQ q L x 0 n = toldQ q L x 0 k ++ #[.pointer (q.map fun A => A.add (k * 5))] :: toldQ q L x (k + 1) (n - (k + 1)) := by
  have e : toldQ q L x 0 n = toldQ q L x 0 k ++ toldQ q L x k (n - k) := by
    unfold toldQ
    rw [← List.map_append, ← List.filter_append]
    congr 2
    have := @List.range'_append 0 k (n - k) 1
    simp only [Nat.one_mul, Nat.zero_add] at this
    rw [this]
    congr 1; omega
  rw [e]
  congr 1
  obtain ⟨m, hm⟩ : ∃ m, n - k = m + 1 := ⟨n - k - 1, by omega⟩
  have e2 : n - (k + 1) = m := by omega
  rw [hm, e2]
  unfold toldQ
  rw [List.range'_succ, List.filter_cons, if_pos h]
  rfl
/-- what is read: the locks' own box and the number's, and from the queue ahead on the queues as they lay -/
def ReadQ (B1 B2 : Nat) (q : Option Addr) (n c : Nat) (L : List QueD) (x : Int) (s : List (Array Value)) (W : World) : Prop :=
  W.cell? ⟨B1, 0, none⟩ = some (.slice q n c) ∧ W.cell? ⟨B2, 0, none⟩ = some (.int .i64 x) ∧ ∀ k, k < n → s = toldQ q L x 0 k → ∃ (v : QV) (d : QueD), L[k]? = some d ∧ v.On W d ∧ ∃ A, q = some A ∧ ∀ j y, (Cel.cells v)[j]? = some y → W.cell? ((A.add (k * 5)).add j) = some y

section
variable {F : Fence} {n : Nat} {P : Program} {md : Region.Mode} {ops : Array Oper} {Q : Exit → Act → World → Prop} {S : World → Prop}
/-- it is not wanted -/
theorem inH_pass {i : Nat} {o : Oper} {dst : Option Tmp} (hF : ∀ f, F.fn f) (hd : o.dst = dst) {k : Nat} {l : Array Bool} {a : Act} {w : World} (hi : ops[i]? = some o) (hr : Region.ready md ops l = [i]) (hw : Region.wanted o (yielded ops a.tmps) = false) (hS : S w)
    (h : inH F n P md ops Q S k (l.setIfInBounds i true) (a.put dst undef) w) : inH F n P md ops Q S (k + 1) l a w := by
  subst hd
  refine ⟨fun e => (by rw [e] at hr; cases hr), fun j hj => ?_⟩
  rw [hr] at hj
  rw [List.mem_singleton.1 hj]
  simp only [wpOpIn, hi]
  rw [if_neg (by rw [hw]; decide)]
  exact ⟨fun f _ => hF f, hS, h⟩
end

set_option maxRecDepth 100000 in
set_option maxHeartbeats 2000000 in
theorem queues_tells (B1 B2 : Nat) (q : Option Addr) (n c : Nat) (L : List QueD) (x : Int) (hn : n ≤ 1000000) (hsm : Sm L) (hsH : ∀ d ∈ L, SortH d.hs) (w : World) : Tells Tryz.prog 90 #[] #[.pointer (some ⟨B1, 0, none⟩), .pointer (some ⟨B2, 0, none⟩)] (ReadQ B1 B2 q n c L x) (toldQ q L x 0 n) w := by
  intro l J Jx hJ hJx hR h0 hY
  have hY' := Lib.hid hY
  have hR' := Lib.hid hR
  have hJ' := Lib.hid hJ
  have hsm' := Lib.hid hsm
  have hsH' := Lib.hid hsH
  have c1 := (hR [] w h0).1
  have hJ0 : Hid (J (toldQ q L x 0 0) w ∧ w.heap.size ≤ w.heap.size) := ⟨by simpa [toldQ] using h0, Nat.le_refl _⟩
  clear hY hR h0 hJ hJx hsm hsH
  refine callsIn_of_wp Tryz.func90 rfl trivial ?_ rfl
  simp only [Tryz.ntmps90, List.size_toArray, List.length_cons, List.length_nil, Nat.reduceAdd, Nat.reduceSub, Array.replicate_succ, Array.replicate_zero, List.push_toArray, List.append_toArray, List.nil_append, List.cons_append]
  gi_wp2
  clear c1
  gi_loopw [9] (fun v9 wr => ∃ i : Nat, i ≤ n ∧ v9 = .int .i64 i ∧ Hid (J (toldQ q L x 0 i) wr ∧ w.heap.size ≤ wr.heap.size)) (fun v9 _ => n - (RowKit.intOf v9).toNat)
  case atStart => exact ⟨0, by omega, rfl, hJ0⟩
  case round =>
    obtain ⟨i, hi, rfl, hJi⟩ := hrel
    by_cases hlt : i < n
    · obtain ⟨r1, r2, r3⟩ := hR'.out _ _ hJi.out.1
      obtain ⟨⟨⟨t, k, id⟩, hq, hn', hc, wq, wn, wc⟩, d, hd, hon, A, hqA, hcl⟩ := r3 i hlt rfl
      have i0 : (0 : Int) ≤ i := by omega
      have i1 : (i : Int) < n := by omega
      have i2 : (i : Int) ≤ 1000000 := by omega
      clear r3
      subst hqA
      gi_wp2
      have hcl' : Hid (∀ u, Below wr.heap.size wr u → ∀ j y, ([.int .i64 t, .bool k, .int .u16 id, .slice hq hn' hc, .slice wq wn wc] : List Value)[j]? = some y → u.cell? ((A.add (i * 5)).add j) = some y) := fun u hu j y hj => cell_kept hu (Nat.le_refl _) (hcl j y hj)
      have hdm := List.mem_of_getElem? hd
      have hs2 := hsm'.out d hdm
      have hh1 : hn' ≤ 1000000 := by have h1 : d.hs.length = hn' := hon.hs.len; have h2 := hs2.1; omega
      have hw1 : wn ≤ 1000000 := by have h1 : d.ws.length = wn := hon.ws.len; have h2 := hs2.2; omega
      obtain ⟨m, hm⟩ : ∃ m, heldH d.hs x = m := ⟨_, rfl⟩
      obtain ⟨z, hzz⟩ : ∃ z, waitI d.ws x = z := ⟨_, rfl⟩
      have hc47 : Hid (∀ u, Below wr.heap.size wr u → Calls Tryz.prog 47 #[.agg #[.int .i64 t, .bool k, .int .u16 id, .slice hq hn' hc, .slice wq wn wc], .int .i64 x] u (fun e w' => e = .returned (.int .i64 m) ∧ Below u.heap.size u w')) := by
        rw [← hm]
        exact fun u hu => held_any t k id hq hn' hc wq wn wc d.hs x u (hon.hs.below hu (Nat.le_refl _)) (hsH'.out d hdm) hh1
      have hc89 : Hid (∀ u, Below wr.heap.size wr u → Calls Tryz.prog 89 #[.agg #[.int .i64 t, .bool k, .int .u16 id, .slice hq hn' hc, .slice wq wn wc], .int .i64 x] u (fun e w' => e = .returned (.int .i64 z) ∧ Below u.heap.size u w')) := by
        rw [← hzz]
        exact fun u hu => waiter_any t k id hq hn' hc wq wn wc d.ws x u (hon.ws.below hu (Nat.le_refl _)) hw1
      have htc : Hid (touch L x i = (m != 0 || decide (0 ≤ z))) := by show _ = _; rw [touch_at hd]; unfold touchD; rw [hm, hzz]
      have r2 := Lib.hid r2
      clear hcl hon hd hdm hs2 hh1 hw1 hm hzz
      by_cases hm : m = 0
      · subst hm
        by_cases hz : 0 ≤ z
        · replace htc : Hid (touch L x i = true) := by show _ = _; rw [htc.out]; simp [hz]
          have hz : Hid (¬ z < 0) := by show ¬ _; omega
          refine wpIn_region_held (by kernel_rfl) (fun u => Below wr.heap.size wr u) ?_
          change inH _ _ _ _ _ _ _ _ _ _ (World.drew wr)
          have hS0 : Below wr.heap.size wr wr.drew := below_drew' wr
          refine inH_take (i := 0) (dst := some 16) (v := .pointer (some (A.add (i * 5)))) rfl rfl rfl (by kernel_rfl) (by kernel_rfl) (by kernel_rfl) (fun _ _ _ h => h) ⟨y_move (.tmp 5) rfl rfl rfl, fun _ => rfl⟩ hS0 ?_
          go_frame
          refine inH_take (i := 1) (dst := some 17) (v := .pointer (some (A.add (i * 5)))) rfl rfl rfl (by kernel_rfl) (by kernel_rfl) (by kernel_rfl) (fun _ _ _ h => h) ⟨.inl ⟨rfl, fun u hu => by go_simp⟩, fun _ => rfl⟩ hS0 ?_
          go_frame
          refine inH_take (i := 2) (dst := some 18) (v := .agg #[.int .i64 t, .bool k, .int .u16 id, .slice hq hn' hc, .slice wq wn wc]) rfl rfl rfl (by kernel_rfl) (by kernel_rfl) (by kernel_rfl) (fun _ _ _ h => h) ⟨y_load_agg 43 (.tmp 17) rfl rfl rfl (fun u hu => run_loadVar_at Tryz.underlying43 rfl (sizeQue _ _ _ _ _) _ (hcl'.out u hu)), fun _ => rfl⟩ hS0 ?_
          go_frame
          refine inH_take (i := 3) (dst := some 19) (v := .int .i64 x) rfl rfl rfl (by kernel_rfl) (by kernel_rfl) (by kernel_rfl) (fun _ _ _ h => h) ⟨.inl ⟨rfl, fun u hu => by have c2 := cell_kept hu (Nat.le_refl _) r2.out; go_simp⟩, fun _ => rfl⟩ hS0 ?_
          go_frame
          refine inH_call (i := 4) (dst := some 20) rfl rfl (fun h => by cases h) (fun _ => trivial) rfl (by kernel_rfl) rfl (by go_simp) (callsIn_wide.2 (hc47.out _ hS0)) ?_
          rintro e u1 ⟨rfl, hb1⟩
          have hS1 : Below wr.heap.size wr u1 := below_step hb1 hS0
          refine ⟨_, rfl, hS1, ?_⟩
          go_frame
          refine inH_take (i := 5) (dst := some 21) (v := .bool true) rfl rfl rfl (by kernel_rfl) (by kernel_rfl) (by kernel_rfl) (fun _ _ _ h => h) ⟨.inl ⟨rfl, fun u hu => by go_simp⟩, fun _ => rfl⟩ hS1 ?_
          go_frame
          refine inH_take (i := 6) (dst := some 22) (v := .bool true) rfl rfl rfl (by kernel_rfl) (by kernel_rfl) (by kernel_rfl) (fun _ _ _ h => h) ⟨y_move (.tmp 21) rfl rfl rfl, fun _ => rfl⟩ hS1 ?_
          go_frame
          refine inH_take (i := 7) (dst := some 23) (v := .pointer (some (A.add (i * 5)))) rfl rfl rfl (by kernel_rfl) (by kernel_rfl) (by kernel_rfl) (fun _ _ _ h => h) ⟨y_move (.tmp 5) rfl rfl rfl, fun _ => rfl⟩ hS1 ?_
          go_frame
          refine inH_take (i := 8) (dst := some 24) (v := .pointer (some (A.add (i * 5)))) rfl rfl rfl (by kernel_rfl) (by kernel_rfl) (by kernel_rfl) (fun _ _ _ h => h) ⟨.inl ⟨rfl, fun u hu => by go_simp⟩, fun _ => rfl⟩ hS1 ?_
          go_frame
          refine inH_take (i := 9) (dst := some 25) (v := .agg #[.int .i64 t, .bool k, .int .u16 id, .slice hq hn' hc, .slice wq wn wc]) rfl rfl rfl (by kernel_rfl) (by kernel_rfl) (by kernel_rfl) (fun _ _ _ h => h) ⟨y_load_agg 43 (.tmp 24) rfl rfl rfl (fun u hu => run_loadVar_at Tryz.underlying43 rfl (sizeQue _ _ _ _ _) _ (hcl'.out u hu)), fun _ => rfl⟩ hS1 ?_
          go_frame
          refine inH_take (i := 10) (dst := some 26) (v := .int .i64 x) rfl rfl rfl (by kernel_rfl) (by kernel_rfl) (by kernel_rfl) (fun _ _ _ h => h) ⟨.inl ⟨rfl, fun u hu => by have c2 := cell_kept hu (Nat.le_refl _) r2.out; go_simp⟩, fun _ => rfl⟩ hS1 ?_
          go_frame
          refine inH_call (i := 11) (dst := some 27) rfl rfl (fun h => by cases h) (fun _ => trivial) rfl (by kernel_rfl) rfl (by go_simp) (callsIn_wide.2 (hc89.out _ hS1)) ?_
          rintro e u2 ⟨rfl, hb2⟩
          have hS2 : Below wr.heap.size wr u2 := below_step hb2 hS1
          refine ⟨_, rfl, hS2, ?_⟩
          go_frame
          refine inH_take (i := 12) (dst := some 28) (v := .bool false) rfl rfl rfl (by kernel_rfl) (by kernel_rfl) (by kernel_rfl) (fun _ _ _ h => h) ⟨.inl ⟨rfl, fun u hu => by have e5 := hz.out; go_simp⟩, fun _ => rfl⟩ hS2 ?_
          go_frame
          refine inH_take (i := 13) (dst := some 29) (v := .bool false) rfl rfl rfl (by kernel_rfl) (by kernel_rfl) (by kernel_rfl) (fun _ _ _ h => h) ⟨.inl ⟨rfl, fun u hu => by go_simp⟩, fun _ => rfl⟩ hS2 ?_
          go_frame
          refine inH_done (by kernel_rfl) ?_
          have hSW := Lib.hid hS2
          clear hS1 hb1 hS0 hS2 hb2
          gi_wp2
          have hJ2 : Hid (J (toldQ (some A) L x 0 i) u2 ∧ w.heap.size ≤ u2.heap.size) := ⟨hJ'.out _ _ _ hJi.out.1 (hSW.out.mono hJi.out.2), Nat.le_trans hJi.out.2 hSW.out.size⟩
          obtain ⟨fn, tmps, assign, body, hy, hRd⟩ := hY'.out (toldQ (some A) L x 0 i) #[.pointer (some (A.add (i * 5)))] _ u2 (toldQ_split hlt htc.out) hJ2.out.2 hJ2.out.1
          have hnx := Lib.hid (toldQ_next (q := some A) htc.out)
          gi_wp2
          first
            | refine hRd.mono ?_
            | (rw [hy, Oper.uponIn_round]; refine ⟨fun h => (by first | omega | cases h), ?_⟩; refine hRd.mono ?_)
          rintro e W3 ⟨_, hz3, (⟨rfl, hJ3⟩ | ⟨rfl, hx⟩)⟩
          · have hJ4 : Hid (J (toldQ (some A) L x 0 (i + 1)) W3 ∧ w.heap.size ≤ W3.heap.size) := ⟨by rw [hnx.out]; exact hJ3, Nat.le_trans hJ2.out.2 hz3⟩
            clear hJ3 hz3
            gi_wp2
            go_roundw
            case rel => exact ⟨i + 1, by omega, by go_num, hJ4⟩
            case measure => simp [RowKit.intOf]; omega
          · have hx' := Lib.hid hx
            clear hx
            gi_wp2
            refine bodyPost_ret (results_none rfl _ _ _) rfl ?_
            exact ⟨⟨_, rfl⟩, .inr hx'.out⟩
        · replace htc : Hid (touch L x i = false) := by show _ = _; rw [htc.out]; simp [hz]
          have hz : Hid (z < 0) := by show _ < _; omega
          refine wpIn_region_held (by kernel_rfl) (fun u => Below wr.heap.size wr u) ?_
          change inH _ _ _ _ _ _ _ _ _ _ (World.drew wr)
          have hS0 : Below wr.heap.size wr wr.drew := below_drew' wr
          refine inH_take (i := 0) (dst := some 16) (v := .pointer (some (A.add (i * 5)))) rfl rfl rfl (by kernel_rfl) (by kernel_rfl) (by kernel_rfl) (fun _ _ _ h => h) ⟨y_move (.tmp 5) rfl rfl rfl, fun _ => rfl⟩ hS0 ?_
          go_frame
          refine inH_take (i := 1) (dst := some 17) (v := .pointer (some (A.add (i * 5)))) rfl rfl rfl (by kernel_rfl) (by kernel_rfl) (by kernel_rfl) (fun _ _ _ h => h) ⟨.inl ⟨rfl, fun u hu => by go_simp⟩, fun _ => rfl⟩ hS0 ?_
          go_frame
          refine inH_take (i := 2) (dst := some 18) (v := .agg #[.int .i64 t, .bool k, .int .u16 id, .slice hq hn' hc, .slice wq wn wc]) rfl rfl rfl (by kernel_rfl) (by kernel_rfl) (by kernel_rfl) (fun _ _ _ h => h) ⟨y_load_agg 43 (.tmp 17) rfl rfl rfl (fun u hu => run_loadVar_at Tryz.underlying43 rfl (sizeQue _ _ _ _ _) _ (hcl'.out u hu)), fun _ => rfl⟩ hS0 ?_
          go_frame
          refine inH_take (i := 3) (dst := some 19) (v := .int .i64 x) rfl rfl rfl (by kernel_rfl) (by kernel_rfl) (by kernel_rfl) (fun _ _ _ h => h) ⟨.inl ⟨rfl, fun u hu => by have c2 := cell_kept hu (Nat.le_refl _) r2.out; go_simp⟩, fun _ => rfl⟩ hS0 ?_
          go_frame
          refine inH_call (i := 4) (dst := some 20) rfl rfl (fun h => by cases h) (fun _ => trivial) rfl (by kernel_rfl) rfl (by go_simp) (callsIn_wide.2 (hc47.out _ hS0)) ?_
          rintro e u1 ⟨rfl, hb1⟩
          have hS1 : Below wr.heap.size wr u1 := below_step hb1 hS0
          refine ⟨_, rfl, hS1, ?_⟩
          go_frame
          refine inH_take (i := 5) (dst := some 21) (v := .bool true) rfl rfl rfl (by kernel_rfl) (by kernel_rfl) (by kernel_rfl) (fun _ _ _ h => h) ⟨.inl ⟨rfl, fun u hu => by go_simp⟩, fun _ => rfl⟩ hS1 ?_
          go_frame
          refine inH_take (i := 6) (dst := some 22) (v := .bool true) rfl rfl rfl (by kernel_rfl) (by kernel_rfl) (by kernel_rfl) (fun _ _ _ h => h) ⟨y_move (.tmp 21) rfl rfl rfl, fun _ => rfl⟩ hS1 ?_
          go_frame
          refine inH_take (i := 7) (dst := some 23) (v := .pointer (some (A.add (i * 5)))) rfl rfl rfl (by kernel_rfl) (by kernel_rfl) (by kernel_rfl) (fun _ _ _ h => h) ⟨y_move (.tmp 5) rfl rfl rfl, fun _ => rfl⟩ hS1 ?_
          go_frame
          refine inH_take (i := 8) (dst := some 24) (v := .pointer (some (A.add (i * 5)))) rfl rfl rfl (by kernel_rfl) (by kernel_rfl) (by kernel_rfl) (fun _ _ _ h => h) ⟨.inl ⟨rfl, fun u hu => by go_simp⟩, fun _ => rfl⟩ hS1 ?_
          go_frame
          refine inH_take (i := 9) (dst := some 25) (v := .agg #[.int .i64 t, .bool k, .int .u16 id, .slice hq hn' hc, .slice wq wn wc]) rfl rfl rfl (by kernel_rfl) (by kernel_rfl) (by kernel_rfl) (fun _ _ _ h => h) ⟨y_load_agg 43 (.tmp 24) rfl rfl rfl (fun u hu => run_loadVar_at Tryz.underlying43 rfl (sizeQue _ _ _ _ _) _ (hcl'.out u hu)), fun _ => rfl⟩ hS1 ?_
          go_frame
          refine inH_take (i := 10) (dst := some 26) (v := .int .i64 x) rfl rfl rfl (by kernel_rfl) (by kernel_rfl) (by kernel_rfl) (fun _ _ _ h => h) ⟨.inl ⟨rfl, fun u hu => by have c2 := cell_kept hu (Nat.le_refl _) r2.out; go_simp⟩, fun _ => rfl⟩ hS1 ?_
          go_frame
          refine inH_call (i := 11) (dst := some 27) rfl rfl (fun h => by cases h) (fun _ => trivial) rfl (by kernel_rfl) rfl (by go_simp) (callsIn_wide.2 (hc89.out _ hS1)) ?_
          rintro e u2 ⟨rfl, hb2⟩
          have hS2 : Below wr.heap.size wr u2 := below_step hb2 hS1
          refine ⟨_, rfl, hS2, ?_⟩
          go_frame
          refine inH_take (i := 12) (dst := some 28) (v := .bool true) rfl rfl rfl (by kernel_rfl) (by kernel_rfl) (by kernel_rfl) (fun _ _ _ h => h) ⟨.inl ⟨rfl, fun u hu => by have e5 := hz.out; go_simp⟩, fun _ => rfl⟩ hS2 ?_
          go_frame
          refine inH_take (i := 13) (dst := some 29) (v := .bool true) rfl rfl rfl (by kernel_rfl) (by kernel_rfl) (by kernel_rfl) (fun _ _ _ h => h) ⟨.inl ⟨rfl, fun u hu => by go_simp⟩, fun _ => rfl⟩ hS2 ?_
          go_frame
          refine inH_done (by kernel_rfl) ?_
          have hSW := Lib.hid hS2
          clear hS1 hb1 hS0 hS2 hb2
          gi_wp2
          go_roundw
          case rel => exact ⟨i + 1, by omega, by go_num, ⟨by rw [toldQ_same htc.out]; exact hJ'.out _ _ _ hJi.out.1 (hSW.out.mono hJi.out.2), Nat.le_trans hJi.out.2 hSW.out.size⟩⟩
          case measure => simp [RowKit.intOf]; omega
      · replace htc : Hid (touch L x i = true) := by show _ = _; rw [htc.out]; simp [hm]
        have he : Hid ((m == 0) = false) := by show _ = _; simpa using hm
        refine wpIn_region_held (by kernel_rfl) (fun u => Below wr.heap.size wr u) ?_
        change inH _ _ _ _ _ _ _ _ _ _ (World.drew wr)
        have hS0 : Below wr.heap.size wr wr.drew := below_drew' wr
        refine inH_take (i := 0) (dst := some 16) (v := .pointer (some (A.add (i * 5)))) rfl rfl rfl (by kernel_rfl) (by kernel_rfl) (by kernel_rfl) (fun _ _ _ h => h) ⟨y_move (.tmp 5) rfl rfl rfl, fun _ => rfl⟩ hS0 ?_
        go_frame
        refine inH_take (i := 1) (dst := some 17) (v := .pointer (some (A.add (i * 5)))) rfl rfl rfl (by kernel_rfl) (by kernel_rfl) (by kernel_rfl) (fun _ _ _ h => h) ⟨.inl ⟨rfl, fun u hu => by go_simp⟩, fun _ => rfl⟩ hS0 ?_
        go_frame
        refine inH_take (i := 2) (dst := some 18) (v := .agg #[.int .i64 t, .bool k, .int .u16 id, .slice hq hn' hc, .slice wq wn wc]) rfl rfl rfl (by kernel_rfl) (by kernel_rfl) (by kernel_rfl) (fun _ _ _ h => h) ⟨y_load_agg 43 (.tmp 17) rfl rfl rfl (fun u hu => run_loadVar_at Tryz.underlying43 rfl (sizeQue _ _ _ _ _) _ (hcl'.out u hu)), fun _ => rfl⟩ hS0 ?_
        go_frame
        refine inH_take (i := 3) (dst := some 19) (v := .int .i64 x) rfl rfl rfl (by kernel_rfl) (by kernel_rfl) (by kernel_rfl) (fun _ _ _ h => h) ⟨.inl ⟨rfl, fun u hu => by have c2 := cell_kept hu (Nat.le_refl _) r2.out; go_simp⟩, fun _ => rfl⟩ hS0 ?_
        go_frame
        refine inH_call (i := 4) (dst := some 20) rfl rfl (fun h => by cases h) (fun _ => trivial) rfl (by kernel_rfl) rfl (by go_simp) (callsIn_wide.2 (hc47.out _ hS0)) ?_
        rintro e u1 ⟨rfl, hb1⟩
        have hS1 : Below wr.heap.size wr u1 := below_step hb1 hS0
        refine ⟨_, rfl, hS1, ?_⟩
        go_frame
        refine inH_take (i := 5) (dst := some 21) (v := .bool false) rfl rfl rfl (by kernel_rfl) (by kernel_rfl) (by kernel_rfl) (fun _ _ _ h => h) ⟨.inl ⟨rfl, fun u hu => by have e5 := he.out; go_simp⟩, fun _ => rfl⟩ hS1 ?_
        go_frame
        refine inH_take (i := 6) (dst := some 22) (v := .bool false) rfl rfl rfl (by kernel_rfl) (by kernel_rfl) (by kernel_rfl) (fun _ _ _ h => h) ⟨y_move (.tmp 21) rfl rfl rfl, fun _ => rfl⟩ hS1 ?_
        go_frame
        refine inH_take (i := 7) (dst := some 23) (v := undef) rfl rfl rfl (by kernel_rfl) (by kernel_rfl) (by kernel_rfl) (fun _ _ _ h => h) ⟨.inr ⟨rfl, rfl⟩, fun _ => rfl⟩ hS1 ?_
        go_frame
        refine inH_take (i := 8) (dst := some 24) (v := undef) rfl rfl rfl (by kernel_rfl) (by kernel_rfl) (by kernel_rfl) (fun _ _ _ h => h) ⟨.inr ⟨rfl, rfl⟩, fun _ => rfl⟩ hS1 ?_
        go_frame
        refine inH_take (i := 9) (dst := some 25) (v := undef) rfl rfl rfl (by kernel_rfl) (by kernel_rfl) (by kernel_rfl) (fun _ _ _ h => h) ⟨.inr ⟨rfl, rfl⟩, fun _ => rfl⟩ hS1 ?_
        go_frame
        refine inH_take (i := 10) (dst := some 26) (v := undef) rfl rfl rfl (by kernel_rfl) (by kernel_rfl) (by kernel_rfl) (fun _ _ _ h => h) ⟨.inr ⟨rfl, rfl⟩, fun _ => rfl⟩ hS1 ?_
        go_frame
        refine inH_pass (i := 11) (dst := some 27) (fun _ => trivial) rfl rfl (by kernel_rfl) rfl hS1 ?_
        go_frame
        refine inH_take (i := 12) (dst := some 28) (v := undef) rfl rfl rfl (by kernel_rfl) (by kernel_rfl) (by kernel_rfl) (fun _ _ _ h => h) ⟨.inr ⟨rfl, rfl⟩, fun _ => rfl⟩ hS1 ?_
        go_frame
        refine inH_take (i := 13) (dst := some 29) (v := .bool false) rfl rfl rfl (by kernel_rfl) (by kernel_rfl) (by kernel_rfl) (fun _ _ _ h => h) ⟨.inl ⟨rfl, fun u hu => by go_simp⟩, fun _ => rfl⟩ hS1 ?_
        go_frame
        refine inH_done (by kernel_rfl) ?_
        have hSW := Lib.hid hS1
        clear hS1 hb1 hS0
        gi_wp2
        have hJ2 : Hid (J (toldQ (some A) L x 0 i) u1 ∧ w.heap.size ≤ u1.heap.size) := ⟨hJ'.out _ _ _ hJi.out.1 (hSW.out.mono hJi.out.2), Nat.le_trans hJi.out.2 hSW.out.size⟩
        obtain ⟨fn, tmps, assign, body, hy, hRd⟩ := hY'.out (toldQ (some A) L x 0 i) #[.pointer (some (A.add (i * 5)))] _ u1 (toldQ_split hlt htc.out) hJ2.out.2 hJ2.out.1
        have hnx := Lib.hid (toldQ_next (q := some A) htc.out)
        gi_wp2
        first
          | refine hRd.mono ?_
          | (rw [hy, Oper.uponIn_round]; refine ⟨fun h => (by first | omega | cases h), ?_⟩; refine hRd.mono ?_)
        rintro e W3 ⟨_, hz3, (⟨rfl, hJ3⟩ | ⟨rfl, hx⟩)⟩
        · have hJ4 : Hid (J (toldQ (some A) L x 0 (i + 1)) W3 ∧ w.heap.size ≤ W3.heap.size) := ⟨by rw [hnx.out]; exact hJ3, Nat.le_trans hJ2.out.2 hz3⟩
          clear hJ3 hz3
          gi_wp2
          go_roundw
          case rel => exact ⟨i + 1, by omega, by go_num, hJ4⟩
          case measure => simp [RowKit.intOf]; omega
        · have hx' := Lib.hid hx
          clear hx
          gi_wp2
          refine bodyPost_ret (results_none rfl _ _ _) rfl ?_
          exact ⟨⟨_, rfl⟩, .inr hx'.out⟩
    · obtain rfl : n = i := by omega
      have hend := Lib.hid hJi.out.1
      gi_wp2
      go_end0
      exact ⟨⟨_, rfl⟩, .inl hend.out⟩
end Go.Proofs.YtbgpppbcffpdbaaGreatDoor
