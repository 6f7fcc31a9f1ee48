/- without of locks. -/
import Derived.Test.YtbgpppbcffpdbaaGreatDoorLWb
import Derived.Test.YtbgpppbcffpdbaaGreatDoorPair
import Derived.Test.YtbgpppbcffpdbaaGreatDoorLGb
namespace Go.Proofs.YtbgpppbcffpdbaaGreatDoor
open Go.RowKit Go.Maps
attribute [local go_sem] Oper.semAt_some

theorem pump_len : ∀ (ws : List WaitD) (hs : List HoldD), (pumpH hs ws).2.2.length ≤ ws.length
  | [], hs => by simp [pumpH]
  | a :: ws, hs => by
    unfold pumpH
    split
    · simp
    · have := pump_len ws (grantH hs ⟨a.x, a.m⟩)
      simp only [List.length_cons]; omega
theorem run_append_op {P : Program} {w : World} {o : Oper} {a : Act} {s x : Operand} {t : TypeId} (ho : o.op = .call { callee := .builtin .append, args := #[s, x], argTypes := #[t, t] }) {v u v' : Value} {w' : World} (hs : a.eval s = v) (hx : a.eval x = u)
    (hr : (Builtin.append_ #[t, t] o.type #[v, u]).run P w = .ok v' w') : (execOp a.eval o).run P w = .ok (.value v') w' := by
  unfold execOp
  simp only [ho, resolve, invoke, builtin, Sem.run_bind, Sem.run_pure, Result.andThen_ok, List.map_toArray, List.map_cons, List.map_nil, hs, hx, hr]
theorem inH_skip {F : Fence} {n : Nat} {P : Program} {ops : Array Oper} {Q : Exit → Act → World → Prop} {md : Region.Mode} {S : World → Prop} {i : Nat} {o : Oper} {dst : Option Tmp} (hd : o.dst = dst) {k : Nat} {l : Array Bool} {a : Act} {w w' : World} (hro : F.round = none) (hF : ∀ f, F.fn f)
    (hi : ops[i]? = some o) (hr : Region.ready md ops l = [i]) (hw : Region.wanted o (yielded ops a.tmps) = true) (hrun : (execOp a.eval o).run P w = .ok .skip w') (hS : S w')
    (h : inH F n P md ops Q S k (l.setIfInBounds i true) (a.put dst undef) w') : inH F n P md ops Q S (k + 1) l a w := by
  subst hd
  refine inH_one hi hr hw ⟨fun f _ => hF f, ?_⟩
  rw [hro, Oper.semAt_none, hrun, Oper.uponIn_skip]
  exact ⟨hS, h⟩
/-- what stands behind, where nothing panics -/
def np (Q : Exit → Act → World → Prop) : Exit → Act → World → Prop
  | .panic _, _, _ => False
  | e, a, w => Q e a w
theorem np_normal {Q : Exit → Act → World → Prop} {a : Act} {w : World} (h : Q .normal a w) : np Q .normal a w := h
theorem wpIn_np {F : Fence} {n : Nat} {P : Program} {c : Code} {Q : Exit → Act → World → Prop} {a : Act} {w : World} (h : c.wpIn F n P (np Q) a w) : c.wpIn F n P Q a w := wpIn_mono h (by
  intro e a w h
  cases e with
  | panic _ => exact h.elim
  | normal => exact h
  | ret => exact h
  | exit _ => exact h
  | goto _ => exact h
  | outgrown => exact h)
def woL (f : QueD → QueD) (x : Int) (L : List QueD) : List QueD := (L.map (fun d => (doneD f x d).1)).filter (fun d => !decide (d.hs.length = 0))
def woG (f : QueD → QueD) (x : Int) (L : List QueD) : List Int := L.flatMap (fun d => (doneD f x d).2)
def WoPost (L : List QueD) (g : List Int) (w : World) (e : Ending) (w' : World) : Prop := ∃ q' n' c' V' gq gn gc, e = .returned (.tuple #[.agg #[.slice q' n' c'], .slice gq gn gc]) ∧ LkP w' w.heap.size q' n' c' V' L ∧ OwnS 3 w' w.heap.size (.slice gq gn gc) g ∧ Below w.heap.size w w'
/-- what a closure leaves may go on -/
def FOk (f : QueD → QueD) (L : List QueD) : Prop := ∀ d ∈ L, SortH (f d).hs ∧ (f d).hs.length ≤ 100000 ∧ (f d).ws.length ≤ 100000 ∧ (f d).res = d.res
theorem woG_len {f : QueD → QueD} {x : Int} {L : List QueD} (h : FOk f L) : ∀ k, ((L.take k).flatMap (fun d => (doneD f x d).2)).length ≤ k * 100000
  | 0 => by simp
  | k + 1 => by
    have ih := woG_len (x := x) h k
    rw [List.take_add_one, List.flatMap_append, List.length_append, Nat.add_mul, Nat.one_mul]
    refine Nat.add_le_add ih ?_
    cases hd : L[k]? with
    | none => exact Nat.zero_le _
    | some d =>
      have h1 := h d (List.mem_of_getElem? hd)
      have h2 : (doneD f x d).2.length ≤ 100000 := by
        unfold doneD
        split
        · have h3 := pump_len (f d).ws (f d).hs
          exact Nat.le_trans h3 h1.2.2.1
        · exact Nat.zero_le _
      have h4 : (some d).toList.flatMap (fun d => (doneD f x d).2) = (doneD f x d).2 := by simp only [Option.toList_some, List.flatMap_cons, List.flatMap_nil, List.append_nil]
      rw [h4]; exact h2

set_option maxRecDepth 100000 in
set_option maxHeartbeats 4000000 in
theorem withoutR_any (cap : Nat) (q : Option Addr) (n c : Nat) (V : List QV) (L : List QueD) (x : Int) (f : QueD → QueD) (w : World) (hG : LaidG w) (h : LkOn w q n c V L) (hsm : Sm L) (hn6 : n ≤ 900000) (hsH : ∀ d ∈ L, SortH d.hs)
    (hdo : DoIt 60 cap L ⟨0, false, 0⟩ f w) (hfo : FOk f L) :
    Calls Tryz.prog 59 #[.agg #[.slice q n c], .int .i64 x, .func (.func 60) #[] #[.pointer (some ⟨cap, 0, none⟩)]] w (WoPost (woL f x L) (woG f x L) w) := by
  obtain ⟨W0, hW0⟩ : ∃ W, w.alloc (.cells #[.slice q n c] 24) = W := ⟨_, rfl⟩
  have hb0 := Lib.hid (one_box (xs := [.slice q n c]) hW0)
  obtain ⟨W1, hW1⟩ : ∃ W, W0.alloc (.cells #[.func (.func 60) #[] #[.pointer (some ⟨cap, 0, none⟩)]] 102) = W := ⟨_, rfl⟩
  have hb1 := Lib.hid (one_box (xs := [.func (.func 60) #[] #[.pointer (some ⟨cap, 0, none⟩)]]) hW1)
  obtain ⟨W, hW⟩ : ∃ W, W1.alloc (.cells #[.slice none 0 0] 24) = W := ⟨_, rfl⟩
  have hb2 := Lib.hid (one_box (xs := [.slice none 0 0]) hW)
  have hr2 : Hid (RowV 24 W W1.heap.size [.slice none 0 0]) := RowV.made' (cs := [.slice none 0 0]) hW
  have hs0 : Hid (W0.heap.size = w.heap.size + 1) := hb0.out.2.2
  have hs1 : Hid (W1.heap.size = w.heap.size + 2) := by show _ = _; have h1 := hb1.out.2.2; have h2 := hs0.out; omega
  have hs2 : Hid (W.heap.size = w.heap.size + 3) := by show _ = _; have h1 := hb2.out.2.2; have h2 := hs1.out; omega
  have hb12 := Lib.hid (below_step hb2.out.1 hb1.out.1)
  have hbW := Lib.hid (below_step hb12.out hb0.out.1)
  have x0 := Lib.hid (hb0.out.2.1.below hb12.out (Nat.le_refl _))
  have x1 := Lib.hid (hb1.out.2.1.below hb2.out.1 (Nat.le_refl _))
  have hh := Lib.hid (h.below hbW.out (Nat.le_refl _))
  have hl := Lib.hid h.len
  have hc := Lib.hid (cloned_any q n c V L W hh.out hsm (by omega))
  have s1 := sizeLks (.slice q n c)
  have hdo' := Lib.hid hdo
  have hfo' := Lib.hid hfo
  have hsm' := Lib.hid hsm
  have hsH' := Lib.hid hsH
  have hn6' := Lib.hid hn6
  have hGw := Lib.hid hG
  clear h hsm hdo hfo hsH hn6 hG
  refine (callsIn_wide (n := 10)).1 ?_
  refine callsIn_of_wp_marks Tryz.func59 rfl trivial ?_ rfl
  simp only [Tryz.ntmps59, List.size_toArray, List.length_cons, List.length_nil, Nat.reduceAdd, Nat.reduceSub, Array.replicate_succ, Array.replicate_zero, List.push_toArray, List.append_toArray, List.nil_append, List.cons_append]
  have hfK : Fence.wide.fn 46 := trivial
  have hfC : Fence.wide.fn 65 := trivial
  gi_wp2_with (first
    | (with_reducible refine wpListIn_load_at rfl 24 (.tmp 3) rfl Tryz.underlying24 rfl s1 rfl x0.out.all ?_)
    | (gi_at_call 65
       refine (callsIn_wide.2 hc.out).mono ?_
       rintro e w1 ⟨q1, n1, c1, V1, rfl, hlk, hb⟩
       obtain rfl : n = n1 := by have h1 := hlk.len; have h2 := hl.out; omega
       have hbw1 := Lib.hid (below_step hb hbW.out)
       have hlk1 := Lib.hid hlk
       have y1 := Lib.hid (x1.out.below hb (Nat.le_refl _))
       have r1 := Lib.hid (hr2.out.below hb)
       have hz1 : Hid (W.heap.size ≤ w1.heap.size) := hb.size
       clear hlk hb hc hW hW1 hW0
       obtain ⟨WB, hWB⟩ : ∃ WB, w1.alloc (.cells #[.slice q1 n c1] 24) = WB := ⟨_, rfl⟩
       have hb3 := Lib.hid (one_box (xs := [.slice q1 n c1]) hWB)
       have hrB : Hid (RowV 24 WB w1.heap.size [.slice q1 n c1]) := RowV.made' (cs := [.slice q1 n c1]) hWB
       obtain ⟨W9, hW9⟩ : ∃ W9, WB.alloc (.cells #[.slice none 0 0] 33) = W9 := ⟨_, rfl⟩
       have hb4 := Lib.hid (one_box (xs := [.slice none 0 0]) hW9)
       have hr9 : Hid (RowV 33 W9 WB.heap.size [.slice none 0 0]) := RowV.made' (cs := [.slice none 0 0]) hW9
       have hb34 := Lib.hid (below_step hb4.out.1 hb3.out.1)
       have hrB9 := Lib.hid (hrB.out.below hb4.out.1)
       have t1 := sizeLks (.slice q1 n c1))
    | (with_reducible refine wpListIn_load_at rfl 24 (.tmp 8) rfl Tryz.underlying24 rfl t1 rfl hrB9.out.boxed.all ?_)
    | (gi_at_call 46; refine (callsIn_wide.2 (queuesOf_any q1 n c1 x _)).mono ?_; rintro e WQ ⟨rfl, hWQ⟩; have hQ := Lib.hid hWQ; clear hWQ))
  clear hW9 hWB hfK hfC
  have hsB : Hid (WB.heap.size = w1.heap.size + 1) := hb3.out.2.2
  have hs9 : Hid (W9.heap.size = w1.heap.size + 2) := by show _ = _; have h1 := hb4.out.2.2; have h2 := hsB.out; omega
  have hqs : Hid (Below W9.heap.size W9 WQ ∧ RowV 24 WQ W9.heap.size [.slice q1 n c1] ∧ RowV 3 WQ (W9.heap.size + 1) [.int .i64 x] ∧ WQ.heap.size = W9.heap.size + 2) := by
    have h1 := one_box (w := W9) (xs := [.slice q1 n c1]) (T1 := 24) rfl
    have r1 := RowV.made (T := 24) W9 [.slice q1 n c1]
    have h2 := one_box (w := W9.alloc (.cells #[.slice q1 n c1] 24)) (xs := [.int .i64 x]) (T1 := 3) rfl
    have r2 := RowV.made (T := 3) (W9.alloc (.cells #[.slice q1 n c1] 24)) [.int .i64 x]
    rw [World.size_alloc] at r2
    rw [← hQ.out] at h2 r2
    exact ⟨below_step h2.1 h1.1, r1.below h2.1, r2, by have a := h1.2.2; have b := h2.2.2; omega⟩
  have hbQ1 : Hid (Below w1.heap.size w1 WQ) := below_step hqs.out.1 hb34.out
  have hbwQ : Hid (Below w.heap.size w WQ) := below_step hbQ1.out hbw1.out
  have hlkQ : Hid (LkW WQ W.heap.size q1 n c1 V1 L) := hlk1.out.below hbQ1.out
  have yQ : Hid (Boxed WQ W0.heap.size [.func (.func 60) #[] #[.pointer (some ⟨cap, 0, none⟩)]]) := y1.out.below hbQ1.out (Nat.le_refl _)
  have rQ : Hid (RowV 24 WQ W1.heap.size [.slice none 0 0]) := r1.out.below hbQ1.out
  have hrBQ : Hid (RowV 24 WQ w1.heap.size [.slice q1 n c1]) := hrB9.out.below hqs.out.1
  have hr9Q : Hid (RowV 33 WQ WB.heap.size [.slice none 0 0]) := hr9.out.below hqs.out.1
  have hfarQ : Hid (∀ a, q1 = some a → W.heap.size ≤ a.block ∧ a.block < w1.heap.size) := hlk1.out.row.far
  have hfarV : Hid (∀ b ∈ bl V1, W.heap.size ≤ b ∧ b < w1.heap.size) := fun b hb => by
    obtain ⟨i, v, hv, hbv⟩ := bl_or hb
    have hvl := hlk1.out.vlen
    have hi := (List.getElem?_eq_some_iff.1 hv).1
    have hll := hl.out
    exact (hlk1.out.on i v _ hv (List.getElem?_eq_getElem (by omega))).lt b hbv
  have hzQ : Hid (WQ.heap.size = w1.heap.size + 4) := by show _ = _; have h1 := hqs.out.2.2.2; have h2 := hs9.out; omega
  have hWB : Hid (WoB WQ W.heap.size WB.heap.size q1 n V1 L) := ⟨fun a ha => by have h1 := hfarQ.out a ha; have h2 := hzQ.out; omega, fun b hb => by have h1 := hfarV.out b hb; have h2 := hzQ.out; omega, by have h1 := hsB.out; have h2 := hzQ.out; omega, fun hm => by have h1 := hfarV.out _ hm; have h2 := hsB.out; omega, fun a ha e => by have h1 := hfarQ.out a ha; have h2 := hsB.out; omega, hl.out⟩
  have hW0S : Hid (WoS (doneD f x) WQ W.heap.size WB.heap.size q1 n c1 V1 L 0 WQ) := ⟨V1, none, 0, 0, hlkQ.out.row, fun j v d hj => absurd hj (Nat.not_lt_zero _), fun j v d _ h1 h2 => hlkQ.out.on j v d h1 h2, hlkQ.out.nd, hlkQ.out.ne, fun b hb => .inl hb, hr9Q.out, OwnS.nil _ _ _, fun a ha => (by cases ha), Fr.refl _ _⟩
  refine range_tells2 (fn := 90) (pre := #[]) (post := #[.pointer (some ⟨W9.heap.size, 0, none⟩), .pointer (some ⟨W9.heap.size + 1, 0, none⟩)]) (R := ReadQ W9.heap.size (W9.heap.size + 1) q1 n c1 L x) (L := toldQ q1 L x 0 n)
    rfl (enters_of Tryz.func90 (by kernel_rfl) rfl) (fun y hy => by
      obtain ⟨s, t, e⟩ := List.append_of_mem hy
      obtain ⟨i, _, _, _, rfl⟩ := toldQ_at e
      rfl) (fun U _ => queues_tells2 _ _ q1 n c1 L x (by have := hn6'.out; omega) hsm'.out hsH'.out U)
    (fun s U => ∃ k, k ≤ n ∧ s = toldQ q1 L x 0 k ∧ WoS (doneD f x) WQ W.heap.size WB.heap.size q1 n c1 V1 L k U)
    (fun c' U => False) ?hIb ?hXb ?hR ?hI0 ?hround ?hdone ?hleft
  case hIb =>
    rintro s U U' ⟨k, h1, h2, Vk, gq, gn, gc, h3⟩ hb
    exact ⟨k, h1, h2, Vk, gq, gn, gc, h3.fr2 hWB.out hb⟩
  case hXb => exact fun c' U U' h _ => h
  case hR =>
    rintro s U ⟨k, h1, h2, Vk, gq, gn, gc, h3⟩
    have hkeep : ∀ b, w1.heap.size ≤ b → b < WQ.heap.size → b ≠ WB.heap.size → U.heap[b]? = WQ.heap[b]? := fun b hb hb2 hb3 => h3.fr.block b hb2 (fun e => by
      rcases e with e | ⟨a, ha, e⟩ | e
      · exact hb3 e
      · have := hfarQ.out a ha; omega
      · have := hfarV.out b e; omega)
    refine ⟨(hqs.out.2.1.block (hkeep _ (by have := hs9.out; omega) (by have := hzQ.out; have := hs9.out; omega) (by have := hs9.out; have := hsB.out; omega))).cell 0, (hqs.out.2.2.1.block (hkeep _ (by have := hs9.out; omega) (by have := hzQ.out; have := hs9.out; omega) (by have := hs9.out; have := hsB.out; omega))).cell 0, fun i hi hs => ?_⟩
    have hvl := h3.vl
    have hll := hl.out
    obtain ⟨v, hv⟩ : ∃ v, Vk[i]? = some v := ⟨_, List.getElem?_eq_getElem (by omega)⟩
    have hd : L[i]? = some (L[i]'(by omega)) := List.getElem?_eq_getElem (by omega)
    obtain ⟨A, v', hqA, hv', hc⟩ := h3.row.reads.at (i := i) hi
    rw [hv] at hv'; cases hv'
    refine ⟨v, _, hd, ?_, A, hqA, hc⟩
    rcases Nat.lt_or_ge i k with h4 | h4
    · have h5 := toldQ_gap (q := q1) (L := L) (x := x) (a := i) (b := k) (hs.symm.trans h2) (Nat.le_refl _) h4
      rw [touch_at hd] at h5
      have h6 := h3.did i v _ h4 hv hd
      rw [doneD_not h5] at h6
      exact h6.on
    · exact (h3.todo i v _ h4 hv hd).on
  case hI0 => exact ⟨0, Nat.zero_le _, by simp [toldQ], hW0S.out⟩
  case hround =>
    rintro l2 s y t U hsp hU ⟨k, hk, hs, hWo⟩
    obtain ⟨i, hi, htc, hsi, rfl⟩ := toldQ_at hsp
    have hki : k ≤ i := by
      rcases Nat.lt_or_ge i k with h4 | h4
      · have h5 := toldQ_gap (q := q1) (L := L) (x := x) (a := i) (b := k) (hsi.symm.trans hs) (Nat.le_refl _) h4
        rw [htc] at h5; cases h5
      · exact h4
    have hWi : WoS (doneD f x) WQ W.heap.size WB.heap.size q1 n c1 V1 L i U := by
      have h5 := hWo.ext (e := i - k) (by have := hl.out; omega) (fun j h6 h7 => toldQ_gap (q := q1) (L := L) (x := x) (a := k) (b := i) (hs.symm.trans hsi) h6 (by omega))
      rw [show k + (i - k) = i by omega] at h5
      exact h5
    obtain ⟨Vk, gq, gn, gc, hE⟩ := hWi
    have hd : L[i]? = some (L[i]'(by have := hl.out; omega)) := List.getElem?_eq_getElem (by have := hl.out; omega)
    obtain ⟨d, hd⟩ : ∃ d, L[i]? = some d := ⟨_, hd⟩
    obtain ⟨A, v, hqA, hv, hcl⟩ := hE.row.reads.at (i := i) hi
    subst hqA
    obtain ⟨G, cur, rfl, _⟩ := openedQ hE.row
    have hE' := Lib.hid hE
    have hd' := Lib.hid hd
    have hv' := Lib.hid hv
    have hnx := Lib.hid (toldQ_next (q := some ⟨G, 0, none⟩) htc)
    have hsi' := Lib.hid hsi
    have hUz := Lib.hid hU
    have htd : Hid (touchD x d = true) := by show _ = _; rw [← touch_at hd]; exact htc
    clear hsp hWo hs hk hki hE hcl hd hv hsi htc hU
    gi_wp2
    refine ⟨fun _ _ _ => rfl, Nat.le_refl _, fun U2 hz hblk hos htp hout => ?_⟩
    have hE2 : Hid (WoE (doneD f x) WQ W.heap.size WB.heap.size (some ⟨G, 0, none⟩) n c1 V1 L i U2 Vk gq gn gc) := hE'.out.fr2 hWB.out ⟨hos, htp, hout, by omega, fun k hk hn => hblk k (fun e => hn (.inr e))⟩
    have hzU : Hid (WQ.heap.size + 2 ≤ U2.heap.size) := by show _ ≤ _; have := hUz.out; omega
    clear hz hblk hos htp hout
    have hGl : Hid (W.heap.size ≤ G ∧ G < w1.heap.size) := hfarQ.out _ rfl
    have hFrU : Hid (Fr (fun j => j = WB.heap.size ∨ j = G ∨ j ∈ bl V1) WQ U2) := hE2.out.fr.mono (fun j _ e => by
      rcases e with e | ⟨a, ha, e⟩ | e
      · exact .inl e
      · cases ha; exact .inr (.inl e)
      · exact .inr (.inr e))
    have hbwU : Hid (Below w.heap.size w U2) := hbwQ.out.trans (hFrU.out.below hbwQ.out.size (fun j e => by
      rcases e with e | e | e
      · have h1 := hsB.out; have h2 := hbw1.out.size; omega
      · have h1 := hGl.out; have h2 := hs2.out; omega
      · have h1 := hfarV.out j e; have h2 := hs2.out; omega))
    have cf : U2.cell? ⟨W0.heap.size, 0, none⟩ = some (.func (.func 60) #[] #[.pointer (some ⟨cap, 0, none⟩)]) := by
      have h1 := yQ.out.cell 0 rfl
      rw [World.cell?_of_block (w := WQ) (hFrU.out.block _ (cell_in h1) (fun e => by
        have h2 := hs0.out; have h3 := hs2.out; have h4 := hz1.out; have h5 := hsB.out
        rcases e with e | e | e
        · have e2 : W0.heap.size = WB.heap.size := e
          omega
        · have e2 : W0.heap.size = G := e
          have h1 := hGl.out; omega
        · have h1 := hfarV.out _ e; have e3 : W.heap.size ≤ W0.heap.size := h1.1; omega))]
      exact h1
    have hvk := hE2.out.vl
    have hng : G ∉ hbs v := fun hm => hE2.out.ne _ rfl (bl_mem hv'.out hm)
    have hnd : (hbs v).Nodup := by have h1 := hE2.out.nd; rw [bl_split hv'.out] at h1; exact (List.nodup_append.1 (List.nodup_append.1 h1).2.1).1
    have hqo := hE2.out.todo i v d (Nat.le_refl _) hv'.out hd'.out
    have hdm := List.mem_of_getElem? hd'.out
    have hcall := Lib.hid (hdo'.out U2 W.heap.size G n c1 i Vk v d hbwU.out hbW.out.size (by have h1 := hzU.out; have h2 := hzQ.out; have h3 := hz1.out; omega) hE2.out.row hv'.out hqo hng hnd (.inl hdm))
    have hfd := Lib.hid (hfo'.out d hdm)
    have hqo' := Lib.hid hqo
    have hng' := Lib.hid hng
    have hfF : Fence.wide.fn 60 := trivial
    clear hvk hng hnd hqo hdm
    gi_wp2_with (first
      | (gi_at_call 60
         refine (callsIn_wide.2 hcall.out).mono ?_
         rintro e u1 ⟨v1, rfl, a1, a2, a3, a4, a5⟩
         have ha1 := Lib.hid a1
         have ha2 := Lib.hid a2
         have ha3 := Lib.hid a3
         have ha4 := Lib.hid a4
         have ha5 := Lib.hid a5
         clear a1 a2 a3 a4 a5))
    clear cf hcall hfF
    have hGl' := hGl.out
    have hv1 : Hid ((Vk.set i v1)[i]? = some v1) := by show _ = _; rw [List.getElem?_set, if_pos rfl, if_pos (List.getElem?_eq_some_iff.1 hv'.out).1]
    have hng1 : Hid (G ∉ hbs v1) := fun hm => by
      rcases ha3.out G hm with h7 | h7
      · exact hng'.out h7
      · have h1 := hzU.out; have h2 := hzQ.out; omega
    have hE2' := hE2.out
    have hb9V : Hid (∀ b ∈ bl Vk, b ≠ WB.heap.size) := fun b hb e => by
      rcases hE2'.sub b hb with h7 | h7
      · exact hWB.out.b9V (by rw [← e]; exact h7)
      · have h1 := hWB.out.z9; omega
    have hbd : Hid (Below U2.heap.size U2 U2) := Below.refl _ _
    have hbd1 : Hid (Below u1.heap.size u1 u1.drew) := below_drew' u1
    have hz21 : Hid (U2.heap.size ≤ u1.heap.size) := ha5.out.size
    have hbw1' : Hid (Below w.heap.size w u1.drew) := below_step hbd1.out (hbwU.out.trans (ha5.out.below hbwU.out.size (fun j e => by
      rcases e with e | e
      · have h2 := hs2.out; omega
      · have h3 := ((hqo'.out.lt j e).1); have h2 := hs2.out; omega)))
    have hpm := Lib.hid (pump_any W.heap.size G n c1 i (i * 5) rfl (Vk.set i v1) v1 (f d).hs (f d).ws u1.drew w hGw.out (by have := hs2.out; omega) hbw1'.out (by have h1 := hbd1.out.size; have h2 := hz21.out; have h3 := hzU.out; have h4 := hzQ.out; have h5 := hz1.out; omega) (ha1.out.below hbd1.out) hv1.out (ha2.out.hs.below hbd1.out) ((ha2.out.ws.oo).fr (S := fun _ => False) (Fr.of_below hbd1.out) (fun _ _ e => e)) ha4.out hng1.out hfd.out.1 (by have h1 := hfd.out.2.1; have h2 := hfd.out.2.2.1; omega))
    have bx1 : Hid (RowV 33 u1.drew WB.heap.size [.slice gq gn gc]) := (hE2'.box.block (ha5.out.block _ hE2'.box.lt (fun e => by
      rcases e with e | e
      · exact hWB.out.b9q _ rfl e.symm
      · exact hb9V.out _ (bl_mem hv'.out e) rfl))).below hbd1.out
    have og1 : Hid (OwnS 3 u1.drew (WQ.heap.size + 2) (.slice gq gn gc) ((L.take i).flatMap (fun d => (doneD f x d).2))) := (hE2'.own.fr ha5.out (fun a ha e => by
      rcases e with e | e
      · have h1 := (hE2'.own.far a ha).1; have h2 := hzQ.out; omega
      · exact hE2'.gap a ha (bl_mem hv'.out e))).below hbd1.out
    have hb9v1 : Hid (WB.heap.size ∉ hbs v1 ∧ WB.heap.size ≠ G) := ⟨fun hm => by
      rcases ha3.out _ hm with h7 | h7
      · exact hb9V.out _ (bl_mem hv'.out h7) rfl
      · have h1 := hzU.out; have h2 := hWB.out.z9; omega, fun e => hWB.out.b9q _ rfl e.symm⟩
    have hgv1 : Hid (∀ a, gq = some a → a.block ∉ hbs v1 ∧ a.block ≠ G ∧ a.block < U2.heap.size) := fun a ha => by
      have h8 := hE2'.own.far a ha
      refine ⟨fun hm => ?_, by have h2 := hzQ.out; omega, h8.2⟩
      rcases ha3.out _ hm with h7 | h7
      · exact hE2'.gap a ha (bl_mem hv'.out h7)
      · omega
    have hgn : Hid (gn ≤ 100000 * 900000) := by
      show _ ≤ _
      have h1 := hE2'.own.len
      have h2 := woG_len (x := x) hfo'.out i
      have h3 := hn6'.out
      have h4 : i * 100000 ≤ 900000 * 100000 := Nat.mul_le_mul_right _ (by omega)
      omega
    have hpn : Hid ((pumpH (f d).hs (f d).ws).2.2.length ≤ 100000) := by show _ ≤ _; have h1 := pump_len (f d).ws (f d).hs; have h2 := hfd.out.2.2.1; omega
    have cb1 := bx1.out.cell 0
    simp only [List.getElem?_cons_zero] at cb1
    clear hE2' hbd
    refine wpIn_region_any (by kernel_rfl) (any_lift l2 8 (by kernel_rfl) (by rintro ⟨_, _, h⟩; exact h) _ _ _ _ (wpAny_of_held (S := fun _ => True) _ _ _ _ ?_))
    change wpAnyH _ _ _ _ _ _ _ _ (World.drew u1)
    refine held_take (i := 1) (dst := some 21) (v := .pointer (some ⟨G, i * 5, none⟩)) rfl rfl (by kernel_rfl) (by kernel_rfl) (by kernel_rfl) (fun _ _ _ h => h) (y_move (.tmp 10) rfl rfl rfl) trivial ?_
    go_frame
    have hld : Hid (∀ u, u.cell? ⟨WB.heap.size, 0, none⟩ = some (.slice gq gn gc) → (loadVar 33 ⟨WB.heap.size, 0, none⟩).run Tryz.prog u = .ok (.slice gq gn gc) u) := fun u hu => by go_simp
    have hbk : Hid (∀ e u2, PmPost W.heap.size G n c1 i (Vk.set i v1) v1 (f d).hs (f d).ws u1.drew e u2 → RowV 33 u2 WB.heap.size [.slice gq gn gc]) := fun e u2 hp => by
      obtain ⟨_, _, _, _, _, _, _, _, _, _, _, _, _, hfr⟩ := hp
      exact bx1.out.block (hfr.block _ bx1.out.lt (fun e => by
        rcases e with e | e
        · exact hb9v1.out.2 e
        · exact hb9v1.out.1 e))
    refine held_pair2 (i := 2) (j := 0) (di := some 22) (dj := some 20) (Z := fun v' u' u9 => u' = .slice gq gn gc ∧ PmPost W.heap.size G n c1 i (Vk.set i v1) v1 (f d).hs (f d).ws u1.drew (.returned v') u9) rfl rfl rfl rfl (by kernel_rfl) (by kernel_rfl) (by kernel_rfl) rfl rfl rfl (fun _ => rfl) (fun _ => rfl) (fun _ _ => rfl) (by go_simp) hpm.out ?_ ?_ ?_
    · intro e u2 hp
      obtain ⟨_, gq2, gn2, gc2, rfl, _⟩ := id hp
      have cb2 := (hbk.out _ _ hp).cell 0
      simp only [List.getElem?_cons_zero] at cb2
      exact ⟨_, _, u2, rfl, trivial, by go_simp, trivial, rfl, hp⟩
    · refine ⟨.slice gq gn gc, u1.drew, _, by go_simp, trivial, by go_simp, hpm.out, ?_⟩
      intro e u2 hp
      obtain ⟨_, gq2, gn2, gc2, rfl, _⟩ := id hp
      exact ⟨_, rfl, trivial, rfl, hp⟩
    intro v' u' u2 hZ
    obtain ⟨rfl, hp⟩ := hZ
    have bx2 := Lib.hid (hbk.out _ _ hp)
    obtain ⟨v2, pq, pn, pc, he, p1, p2, p3, p4, p5, p6, p7, p8, p9⟩ := hp
    obtain rfl : v' = .slice pq pn pc := by injection he
    have og2 : Hid (OwnS 3 u2 (WQ.heap.size + 2) (.slice gq gn gc) ((L.take i).flatMap (fun d => (doneD f x d).2))) := og1.out.fr p9 (fun a ha e => by
      rcases e with e | e
      · exact (hgv1.out a ha).2.1 e
      · exact (hgv1.out a ha).1 e)
    have hpl : pn = (pumpH (f d).hs (f d).ws).2.2.length := p2.len
    have hz12 := p9.size
    have hzd : u1.drew.heap.size = u1.heap.size := rfl
    obtain ⟨q3, c3, u3, hrun, o3, g3, h3⟩ := run_append_l (P := Tryz.prog) Tryz.underlying33 infoInt rfl 33 og2.out p2.reads (by have h1 := hgn.out; have h2 := hpn.out; omega) (by have h1 := hgn.out; have h2 := hpn.out; omega) (by have h1 := hzU.out; have h2 := hz21.out; omega)
    go_frame
    refine held_value (i := 3) (dst := some 23) (v := .slice q3 (gn + pn) c3) rfl rfl (by kernel_rfl) rfl (run_append_op (s := .tmp 20) (x := .tmp 22) rfl rfl rfl hrun) trivial ?_
    go_frame
    have bx3 : Hid (RowV 33 u3 WB.heap.size [.slice gq gn gc]) := bx2.out.block (g3.block _ bx2.out.lt (fun e => by
      cases gq with
      | none => cases e
      | some a =>
        have e2 : WB.heap.size = a.block := by simpa using e
        have h1 := (og2.out.far a rfl).1
        have h2 := hWB.out.z9
        omega))
    have c9 := bx3.out.cell 0
    have f9 := bx3.out.free 0
    simp only [List.getElem?_cons_zero] at c9
    have hst : (storeVar 33 ⟨WB.heap.size, 0, none⟩ (.slice q3 (gn + pn) c3)).run Tryz.prog u3 = .ok () (u3.setCell ⟨WB.heap.size, 0, none⟩ (.slice q3 (gn + pn) c3)) := by go_simp
    refine held_skip (i := 4) (dst := none) rfl rfl (by kernel_rfl) rfl (run_store_op (x := .tmp 9) (y := .tmp 23) rfl rfl rfl hst) trivial ?_
    go_frame
    refine wpAnyH_done (by kernel_rfl) ?_ _
    obtain ⟨u4, hu4⟩ : ∃ u4, u3.setCell ⟨WB.heap.size, 0, none⟩ (.slice q3 (gn + pn) c3) = u4 := ⟨_, rfl⟩
    have hg4 : u3.grownBy u4 (some WB.heap.size) := by rw [← hu4]; exact setCell_grown u3 _ _ _
    have bx4 : RowV 33 u4 WB.heap.size [.slice q3 (gn + pn) c3] := by rw [← hu4]; exact bx3.out.set 0 _
    rw [hu4]
    have hfin : Hid ((∃ k, k ≤ n ∧ toldQ (some ⟨G, 0, none⟩) L x 0 (i + 1) = toldQ (some ⟨G, 0, none⟩) L x 0 k ∧ WoS (doneD f x) WQ W.heap.size WB.heap.size (some ⟨G, 0, none⟩) n c1 V1 L k u4) ∧ Same WQ.heap.size (WQ.heap.size + 2) U2 u4 ∧ U2.heap.size ≤ u4.heap.size) := by
      refine Lib.hid ?_
      have hdd := doneD_yes (f := f) htd.out
      have hf34 : Fr (fun j => some j = gq.map (·.block) ∨ j = WB.heap.size) u2 u4 := (Fr.of_grown g3 (fun j e => .inl e.symm)).trans (Fr.of_grown hg4 (fun j e => by cases e; exact .inr rfl))
      have hv2v : ∀ b ∈ hbs v2, b ∈ hbs v ∨ U2.heap.size ≤ b := fun b hb => by
        rcases p6 b hb with h7 | h7
        · rcases ha3.out b h7 with h8 | h8
          · exact .inl h8
          · exact .inr h8
        · exact .inr (by have := hz21.out; omega)
      have hq2 : ∀ b ∈ hbs v2, ¬ (some b = gq.map (·.block) ∨ b = WB.heap.size) := fun b hb e => by
        rcases e with e | e
        · cases gq with
          | none => cases e
          | some a =>
            have e2 : b = a.block := by simpa using e
            rcases p6 b hb with h7 | h7
            · exact (hgv1.out a rfl).1 (by rw [← e2]; exact h7)
            · have h8 := (hgv1.out a rfl).2.2; have h9 := hz21.out; omega
        · rcases hv2v b hb with h7 | h7
          · exact hb9V.out b (bl_mem hv'.out h7) e
          · have h1 := hWB.out.z9; have h2 := hzU.out; omega
      have hcase : ∀ a, q3 = some a → (∃ b, gq = some b ∧ a.block = b.block) ∨ a.block = u2.heap.size := fun a ha => by
        rw [ha] at h3
        rcases h3 with e | e
        · cases gq with
          | none => cases e
          | some b => exact .inl ⟨b, rfl, by simpa using e⟩
        · exact .inr (by simpa using e)
      have hb9u2 := bx2.out.lt
      have hfr5 : Fr (fun j => j = WB.heap.size ∨ j = G ∨ j ∈ hbs v ∨ ∃ a, gq = some a ∧ j = a.block) U2 u4 := by
        refine (((ha5.out.mono (T := fun j => j = WB.heap.size ∨ j = G ∨ j ∈ hbs v ∨ ∃ a, gq = some a ∧ j = a.block) (fun j _ e => e.elim (fun e => .inr (.inl e)) (fun e => .inr (.inr (.inl e))))).then (Fr.of_below (S := fun _ => False) hbd1.out) (fun j _ e => e.elim)).then p9 (fun j hj e => ?_)).then hf34 (fun j hj e => ?_)
        · rcases e with e | e
          · exact .inr (.inl e)
          · rcases ha3.out j e with h7 | h7
            · exact .inr (.inr (.inl h7))
            · omega
        · rcases e with e | e
          · cases gq with
            | none => cases e
            | some a => exact .inr (.inr (.inr ⟨a, rfl, by simpa using e⟩))
          · exact .inl e
      refine ⟨⟨i + 1, hi, rfl, Vk.set i v2, q3, gn + pn, c3, hE2.out.step hWB.out hzU.out hv'.out hd'.out ?_ ?_ hv2v p7 p8 bx4 ?_ ?_ ?_ hfr5⟩, fun j h1 h2 => hfr5.block j (by have := hzU.out; omega) (fun e => ?_), hfr5.size⟩
      · rw [List.set_set] at p3
        exact p3.fr hf34 (fun a ha e => by
          cases ha
          rcases e with e | e
          · cases gq with
            | none => cases e
            | some b => exact (hgv1.out b rfl).2.1 (by simpa using e.symm)
          · exact hWB.out.b9q _ rfl e)
      · rw [hdd]
        exact ⟨by rw [p1]; exact ha2.out.res.trans hfd.out.2.2.2, by have h7 := ha2.out.ok; rw [hfd.out.2.2.2] at h7; exact h7, p4.fr hf34 (fun a ha => hq2 _ (hbs_h ha)), p5.fr hf34 (fun a ha => hq2 _ (hbs_w ha))⟩
      · rw [hdd]
        exact o3.kept (fun a ha => hg4.block _ (o3.far a ha).2 (fun e => by
          have e2 : a.block = WB.heap.size := by simpa using e
          have h1 := (o3.far a ha).1
          have h2 := hWB.out.z9
          omega))
      · intro a ha
        rcases hcase a ha with h7 | h7
        · exact .inl h7
        · exact .inr (by have := hz21.out; omega)
      · intro a ha hm
        rcases hcase a ha with ⟨b, h7, h8⟩ | h7
        · exact hq2 _ hm (.inl (by rw [h7, h8]; rfl))
        · have h8 : a.block < u2.heap.size := by
            rcases hbs_or hm with ⟨a', h9, h10⟩ | ⟨a', h9, h10⟩
            · rw [h10]; exact (p4.far a' h9).2
            · rw [h10]; exact (p5.far a' h9).2
          omega
      · rcases e with e | e | e | ⟨a, ha, e⟩
        · have h7 := hWB.out.z9; omega
        · have h7 := hGl.out; have h8 := hzQ.out; omega
        · rcases hE2.out.sub j (bl_mem hv'.out e) with h7 | h7
          · have h8 := hWB.out.bV j h7; omega
          · omega
        · have h7 := (hE2.out.own.far a ha).1; omega
    clear hst c9 f9 hu4 hrun o3 g3 h3 p2 p3 p4 p5 p6 p7 p8 p9 bx4 hg4
    gi_wp2
    have hfin' := hfin.out
    rw [hnx.out, ← hsi'.out] at hfin'
    simp only [Option.map_some, addr0] at hfin'
    exact hfin'
  case hdone =>
    rintro D U rfl ⟨k, hk, hs, hWo⟩ hKD hDl
    have hWn : WoS (doneD f x) WQ W.heap.size WB.heap.size q1 n c1 V1 L n U := by
      have h5 := hWo.ext (e := n - k) (by have := hl.out; omega) (fun j h6 h7 => toldQ_gap (q := q1) (L := L) (x := x) (a := k) (b := n) hs.symm h6 (by omega))
      rw [show k + (n - k) = n by omega] at h5
      exact h5
    obtain ⟨Vk, gq, gn, gc, hE⟩ := hWn
    have hE' := Lib.hid hE
    have hKD' := Lib.hid hKD
    have hDl' := Lib.hid hDl
    have hFrU : Hid (Fr (fun j => j = WB.heap.size ∨ (∃ a, q1 = some a ∧ j = a.block) ∨ j ∈ bl V1) WQ U) := hE.fr
    have hno : Hid (∀ b, b < w1.heap.size + 1 → W.heap.size ≤ b → b = w1.heap.size → ¬ (b = WB.heap.size ∨ (∃ a, q1 = some a ∧ b = a.block) ∨ b ∈ bl V1)) := fun b hb hb2 hb3 e => by
      rcases e with e | ⟨a, ha, e⟩ | e
      · have := hsB.out; omega
      · have := hfarQ.out a ha; omega
      · have := hfarV.out b e; omega
    have hbwU : Hid (Below w.heap.size w U) := hbwQ.out.trans (hFrU.out.below hbwQ.out.size (fun j e => by
      rcases e with e | ⟨a, ha, e⟩ | e
      · have h1 := hsB.out; have h2 := hbw1.out.size; omega
      · have h1 := hfarQ.out a ha; have h2 := hs2.out; omega
      · have h1 := hfarV.out j e; have h2 := hs2.out; omega))
    have hrBU : Hid (RowV 24 U w1.heap.size [.slice q1 n c1]) := hrBQ.out.block (hFrU.out.block _ hrBQ.out.lt (hno.out _ (by omega) hz1.out rfl))
    have rU : Hid (RowV 24 U W1.heap.size [.slice none 0 0]) := rQ.out.block (hFrU.out.block _ rQ.out.lt (fun e => by
      have h3 := hs1.out; have h4 := hs2.out; have h5 := hz1.out
      rcases e with e | ⟨a, ha, e⟩ | e
      · have := hsB.out; omega
      · have := hfarQ.out a ha; omega
      · have := hfarV.out _ e; omega))
    have hdel := Lib.hid (fun u (hu : Below U.heap.size U u) => delQ (fun a => decide (a.hn = 0)) q1 n c1 W.heap.size Vk u (hE'.out.row.below hu) (by have := hn6'.out; omega) (fun a u' _ => withoutFn_any a.res.t a.res.k a.res.id a.hq a.hn a.hc a.wq a.wn a.wc u'))
    have k0 := hrBU.out.cell 0
    have f0 := hrBU.out.free 0
    simp only [List.getElem?_cons_zero] at k0
    clear hs hWo hk hE hKD hDl
    have hfD : Fence.wide.fn 100 := trivial
    gi_wp2_with (first
      | (gi_at_call 100
         refine (callsIn_wide.2 (hdel.out _ (Below.refl _ _))).mono ?_
         rintro e u1 ⟨n9, rfl, d1, d2⟩
         have hd1 := Lib.hid d1
         have hd2 := Lib.hid d2
         have hrB1 : Hid (RowV 24 u1 w1.heap.size [.slice q1 n c1]) := hrBU.out.block (d2.block _ hrBU.out.lt (fun e => by
           cases q1 with
           | none => cases e
           | some a => have e2 : w1.heap.size = a.block := by simpa using e
                       have := (hfarQ.out a rfl).2
                       omega))
         have k1 := hrB1.out.cell 0
         have f1 := hrB1.out.free 0
         simp only [List.getElem?_cons_zero] at k1
         obtain ⟨u2, hu2⟩ : ∃ u2, u1.setCell ⟨w1.heap.size, 0, none⟩ (.slice q1 n9 c1) = u2 := ⟨_, rfl⟩
         have hg2 : Hid (u1.grownBy u2 (some w1.heap.size)) := by rw [← hu2]; exact setCell_grown u1 _ _ _
         have hrB2 : Hid (RowV 24 u2 w1.heap.size [.slice q1 n9 c1]) := by rw [← hu2]; exact hrB1.out.set 0 _
         clear d1 d2))
    clear k0 f0 k1 f1 hu2
    have hz19 : Hid (W1.heap.size < w1.heap.size ∧ w1.heap.size < WB.heap.size ∧ WB.heap.size < WQ.heap.size) := ⟨by have h1 := hs1.out; have h2 := hs2.out; have h3 := hz1.out; omega, by have := hsB.out; omega, hWB.out.z9⟩
    have hfU2 : Hid (Fr (fun j => (∃ a, q1 = some a ∧ j = a.block) ∨ j = w1.heap.size) U u2) := ((Fr.of_grown hd2.out (fun j e => by
      cases q1 with
      | none => cases e
      | some a => exact .inl ⟨a, rfl, by simpa using e.symm⟩)).trans (Fr.of_grown hg2.out (fun j e => by cases e; exact .inr rfl)))
    have hnq : Hid (∀ b, b = W1.heap.size ∨ b = WB.heap.size → ¬ ((∃ a, q1 = some a ∧ b = a.block) ∨ b = w1.heap.size)) := fun b hb e => by
      have h1 := hz19.out
      have h2 := hs1.out
      have h3 := hs2.out
      rcases e with ⟨a, ha, e⟩ | e
      · have := hfarQ.out a ha; omega
      · omega
    have rU2 : Hid (RowV 24 u2.drew W1.heap.size [.slice none 0 0]) := (rU.out.block (hfU2.out.block _ rU.out.lt (hnq.out _ (.inl rfl)))).below (below_drew' u2)
    have b9U2 : Hid (RowV 33 u2.drew WB.heap.size [.slice gq gn gc]) := (hE'.out.box.block (hfU2.out.block _ hE'.out.box.lt (hnq.out _ (.inr rfl)))).below (below_drew' u2)
    have b8U2 : Hid (RowV 24 u2.drew w1.heap.size [.slice q1 n9 c1]) := hrB2.out.below (below_drew' u2)
    have t2 := sizeLks (.slice q1 n9 c1)
    have hone : ∀ y ∈ ([.slice q1 n9 c1] : List Value), y.oneCell' = true := fun y hy => by obtain rfl := List.mem_singleton.1 hy; rfl
    obtain ⟨X, hst, hX, hgX⟩ := run_storeVar_at (P := Tryz.prog) (ty := 24) (o := 0) (vs := [.slice q1 n9 c1]) rU2.out t2 (Nat.le_refl _) hone
    have hS0 : Boxed u2.drew w1.heap.size [.slice q1 n9 c1] ∧ Boxed u2.drew WB.heap.size [.slice gq gn gc] := ⟨b8U2.out.boxed, b9U2.out.boxed⟩
    have hx1 : w1.heap.size ≠ W1.heap.size := by have := hz19.out; omega
    have hx2 : WB.heap.size ≠ W1.heap.size := by have := hz19.out; omega
    have hSX : Boxed X w1.heap.size [.slice q1 n9 c1] ∧ Boxed X WB.heap.size [.slice gq gn gc] := ⟨(b8U2.out.block (hgX.block _ b8U2.out.lt (fun e => hx1 (by simpa using e)))).boxed, (b9U2.out.block (hgX.block _ b9U2.out.lt (fun e => hx2 (by simpa using e)))).boxed⟩
    clear hx1 hx2
    refine wpIn_np ?_
    refine wpIn_region_held (by kernel_rfl) (fun u => Boxed u w1.heap.size [.slice q1 n9 c1] ∧ Boxed u WB.heap.size [.slice gq gn gc]) ?_
    change inH _ _ _ _ _ _ _ _ _ _ (World.drew u2)
    refine inH_take (i := 0) (dst := some 28) (v := .agg #[.slice q1 n9 c1]) rfl rfl rfl (by kernel_rfl) (by kernel_rfl) (by kernel_rfl) (fun _ _ _ h => h) ⟨y_load_agg 24 (.tmp 8) rfl rfl rfl (fun u hu => run_loadVar_at Tryz.underlying24 rfl (sizeLks _) _ (hu.1.all)), fun _ => rfl⟩ hS0 ?_
    go_frame
    refine inH_take (i := 1) (dst := some 29) (v := .slice gq gn gc) rfl rfl rfl (by kernel_rfl) (by kernel_rfl) (by kernel_rfl) (fun _ _ _ h => h) ⟨.inl ⟨rfl, fun u hu => by have c9 := hu.2.cell 0 rfl; go_simp⟩, fun _ => rfl⟩ hS0 ?_
    go_frame
    refine inH_skip (i := 2) (dst := none) rfl rfl (fun _ => trivial) rfl (by kernel_rfl) rfl (run_store_op (x := .tmp 6) (y := .tmp 28) rfl rfl rfl hst) hSX ?_
    go_frame
    refine inH_take (i := 3) (dst := some 7) (v := .slice gq gn gc) rfl rfl rfl (by kernel_rfl) (by kernel_rfl) (by kernel_rfl) (fun _ _ _ h => h) ⟨.inl ⟨rfl, fun u hu => by go_simp⟩, fun _ => rfl⟩ hSX ?_
    go_frame
    refine inH_done (by kernel_rfl) (np_normal ?_)
    have hX' : Hid (RowV 24 X W1.heap.size [.slice q1 n9 c1]) := hX
    have hgX' := Lib.hid hgX
    clear hst hSX hS0 hX hgX
    gi_wp2
    have hzu2 := hfU2.out.size
    have hKX : X.heap[WQ.heap.size]? = some (.deferred (some [])) := by
      rw [hgX'.out.block _ (by have h1 : u2.drew.heap.size = u2.heap.size := rfl; have h2 := hDl'.out; omega) (by simp; have := hz19.out; omega)]
      show u2.heap[WQ.heap.size]? = _
      rw [hfU2.out.block _ hDl'.out (fun e => by
        have h1 := hz19.out
        rcases e with ⟨a, ha, e⟩ | e
        · have := hfarQ.out a ha; omega
        · omega)]
      exact hKD'.out
    refine ⟨by simp, .inl ⟨_, _, rfl, run_takeDeferred hKX, ?_⟩⟩
    obtain ⟨Y, hY⟩ : ∃ Y, X.putObj WQ.heap.size (.deferred none) = Y := ⟨_, rfl⟩
    have hXY : Fr (fun j => j = WQ.heap.size) X Y := by rw [← hY]; exact ⟨rfl, rfl, rfl, by simp, fun k hk hn => World.putObj_heap_other (by omega)⟩
    rw [hY]
    have hf1Y : Fr (fun j => j = w1.heap.size ∨ j = W1.heap.size ∨ j = WQ.heap.size) u1 Y := (((Fr.of_grown hg2.out (fun j e => by cases e; exact .inl rfl)).trans ((Fr.of_below (below_drew' u2)).trans (Fr.of_grown hgX'.out (fun j e => by cases e; exact .inr (.inl rfl))))).trans (hXY.mono (fun j _ e => .inr (.inr e))))
    have hfUY : Fr (fun j => (∃ a, q1 = some a ∧ j = a.block) ∨ j = w1.heap.size ∨ j = W1.heap.size ∨ j = WQ.heap.size) U Y := ((Fr.of_grown hd2.out (fun j e => by
      cases q1 with
      | none => cases e
      | some a => exact .inl ⟨a, rfl, by simpa using e.symm⟩)).trans (hf1Y.mono (fun j _ e => .inr e)))
    have hres : RowV 24 Y W1.heap.size [.slice q1 n9 c1] := hX'.out.block (hXY.block _ hX'.out.lt (by have := hz19.out; omega))
    have m0 := hres.cell 0
    simp only [List.getElem?_cons_zero] at m0
    have hbY : Below w.heap.size w Y := hbwU.out.trans (hfUY.below hbwU.out.size (fun j e => by
      have h1 := hz19.out
      have h2 := hs1.out
      have h3 := hs2.out
      rcases e with ⟨a, ha, e⟩ | e | e | e
      · have := hfarQ.out a ha; omega
      · omega
      · omega
      · omega))
    have hnb : ∀ b ∈ bl Vk, ¬ ((∃ a, q1 = some a ∧ b = a.block) ∨ b = w1.heap.size ∨ b = W1.heap.size ∨ b = WQ.heap.size) := fun b hb e => by
      have h1 := hz19.out
      have h2 := hs1.out
      have h3 := hs2.out
      rcases e with ⟨a, ha, e⟩ | e
      · exact hE'.out.ne a ha (by rw [← e]; exact hb)
      · rcases hE'.out.sub b hb with h7 | h7
        · have h8 := hfarV.out b h7
          omega
        · omega
    have hrowY : OwnS 43 Y W.heap.size (.slice q1 n9 c1) (Vk.filter (fun a => !decide (a.hn = 0))) := hd1.out.fr hf1Y (fun a ha e => by
      have h1 := hz19.out
      have h2 := hs1.out
      have h3 := hs2.out
      have h4 := hfarQ.out a ha
      omega)
    have htwo := two_filter (R := fun v d => QP Y W.heap.size v d) (p := fun a => !decide (a.hn = 0)) (p' := fun d => !decide (d.hs.length = 0)) (fun v d h => by rw [h.hs.len]) (V := Vk) (L := L.map (fun d => (doneD f x d).1)) (by rw [List.length_map, hE'.out.vl, hl.out]) (fun i v d h1 h2 => by
      rw [List.getElem?_map] at h2
      cases h3 : L[i]? with
      | none => rw [h3] at h2; cases h2
      | some d0 =>
        rw [h3] at h2
        cases h2
        exact (hE'.out.did i v d0 (by have := (List.getElem?_eq_some_iff.1 h3).1; have := hl.out; omega) h1 h3).fr hfUY (fun b hb => hnb b (bl_mem h1 hb)))
    have hsub := bl_sub (List.filter_sublist (p := fun a : QV => !decide (a.hn = 0)) (l := Vk))
    have hlkp : LkP Y W.heap.size q1 n9 c1 (Vk.filter (fun a => !decide (a.hn = 0))) (woL f x L) := ⟨hrowY, by unfold woL; rw [← htwo.1]; exact hrowY.len.symm, htwo.2, hE'.out.nd.sublist hsub, fun a ha hm => hE'.out.ne a ha (hsub.subset hm)⟩
    have hown : OwnS 3 Y (WQ.heap.size + 2) (.slice gq gn gc) (woG f x L) := by
      have h1 := hE'.out.own
      rw [List.take_of_length_le (by have := hl.out; omega)] at h1
      exact h1.fr hfUY (fun a ha e => by
        have h2 := (hE'.out.own.far a ha).1
        have h1 := hz19.out
        rcases e with ⟨b, hb, e⟩ | e
        · have := hfarQ.out b hb; omega
        · omega)
    refine ⟨.tuple #[.agg #[.slice q1 n9 c1], .slice gq gn gc], ?_, q1, n9, c1, _, gq, gn, gc, rfl, hlkp.mono (by have := hs2.out; omega), hown.mono (by have h1 := hzQ.out; have h2 := hbw1.out.size; omega), hbY⟩
    simp [results, Tryz.results59, go_sem, m0]
  case hleft => exact fun D c' U _ h => h.elim

end Go.Proofs.YtbgpppbcffpdbaaGreatDoor
