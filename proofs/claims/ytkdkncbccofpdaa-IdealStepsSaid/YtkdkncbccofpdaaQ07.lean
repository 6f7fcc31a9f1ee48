/- Parts of the proof: Plain mathematics of Put and Take: there and back; The document's Without and With; The document's With; Plain mathematics of RowChanges -/
import Derived.Test.YtkdkncbccofpdaaQ06
namespace Go.Proofs.Ytkdkncbccofpdaa
open Go.RowKit
def Sorted (l : List RowD) : Prop := l.Pairwise fun a b => cmpK a.key b.key < 0
theorem rising_iff (l : List RowD) : Rising l ↔ Sorted l := by
 unfold Sorted
 rw [List.pairwise_iff_getElem]
 constructor
 · intro h i j hi hj hij
   obtain ⟨d, rfl⟩ : ∃ d, j = i + d + 1 := ⟨j - i - 1, by omega⟩
   exact h.lt d i _ _ (List.getElem?_eq_getElem hi) (List.getElem?_eq_getElem hj)
 · intro h i a b ha hb
   obtain ⟨h1, rfl⟩ := List.getElem?_eq_some_iff.1 ha
   obtain ⟨h2, rfl⟩ := List.getElem?_eq_some_iff.1 hb
   exact h i (i + 1) h1 h2 (by omega)
theorem okL_good (bs : List BdD) (l : List RowD) : okL bs l = true ↔ l.length ≤ 60 ∧ Sorted l ∧ ∀ r ∈ l, rowE bs r = 0 := by
 rw [okL_iff, ← rising_iff]
 constructor
 · rintro ⟨h1, h2⟩
   refine ⟨h1, fun i a b ha hb => (h2 (i + 1) b hb).2 i a rfl ha, fun r hr => ?_⟩
   obtain ⟨i, hi⟩ := List.mem_iff_getElem?.1 hr
   exact (h2 i r hi).1
 · rintro ⟨h1, h2, h3⟩
   exact ⟨h1, fun i r hr => ⟨h3 r (List.mem_of_getElem? hr), fun j p hj hp => by subst hj; exact h2 j p r hp hr⟩⟩
theorem split_at (p : RowD → Bool) : ∀ l : List RowD, ∃ T R, l = T ++ R ∧ (∀ x ∈ T, p x = true) ∧ (∀ y R', R = y :: R' → p y = false)
 | [] => ⟨[], [], rfl, (fun x h => by cases h), fun y R' h => by cases h⟩
 | a :: l => by
   cases hp : p a with
   | false => exact ⟨[], a :: l, rfl, (fun x h => by cases h), fun y R' h => by cases h; exact hp⟩
   | true =>
     obtain ⟨T, R, h1, h2, h3⟩ := split_at p l
     refine ⟨a :: T, R, by rw [h1]; rfl, fun x hx => ?_, h3⟩
     rcases List.mem_cons.1 hx with rfl | hx
     · exact hp
     · exact h2 x hx
/-- what stands ahead of a key, and behind it -/
structure Parts (l : List RowD) (k : KeyD) (T D : List RowD) (o : Option RowD) : Prop where
 eq : l = T ++ (o.toList ++ D)
 lo : ∀ x ∈ T, cmpK x.key k < 0
 hi : ∀ x ∈ D, 0 < cmpK x.key k
 at_ : ∀ x, o = some x → x.key = k
theorem parts_of {l : List RowD} (hs : Sorted l) (k : KeyD) : ∃ T D o, Parts l k T D o := by
 obtain ⟨T, R, h1, h2, h3⟩ := split_at (fun x => decide (cmpK x.key k < 0)) l
 have h2' : ∀ x ∈ T, cmpK x.key k < 0 := fun x hx => by simpa using h2 x hx
 cases R with
 | nil => exact ⟨T, [], none, by rw [h1]; rfl, h2', (fun x h => by cases h), fun x h => by cases h⟩
 | cons y D =>
   have hy : ¬ cmpK y.key k < 0 := by simpa using h3 y D rfl
   have hsD : ∀ x ∈ D, cmpK y.key x.key < 0 := fun x hx => by
    rw [h1] at hs
    have := (List.pairwise_append.1 hs).2.1
    exact (List.pairwise_cons.1 this).1 x hx
   by_cases he : cmpK y.key k = 0
   · have hk := cmpK_zero.1 he
     refine ⟨T, D, some y, by rw [h1]; rfl, h2', fun x hx => ?_, fun x h => by cases h; exact hk⟩
     have := hsD x hx
     rw [hk, cmpK_anti] at this
     omega
   · refine ⟨T, y :: D, none, by rw [h1]; rfl, h2', fun x hx => ?_, fun x h => by cases h⟩
     rcases List.mem_cons.1 hx with rfl | hx
     · omega
     · have a1 : cmpK k y.key < 0 := by rw [cmpK_anti]; omega
       have := cmpK_trans' a1 (hsD x hx)
       rw [cmpK_anti] at this
       omega
theorem posK_cut {T R : List RowD} {k : KeyD} (h : ∀ x ∈ T, cmpK x.key k < 0) (h2 : ∀ y R', R = y :: R' → ¬ cmpK y.key k < 0) : posK (T ++ R) k = T.length := by
 unfold posK
 rw [List.takeWhile_append_of_pos (fun x hx => by simpa using h x hx)]
 cases R with
 | nil => simp
 | cons y R' =>
   have := h2 y R' rfl
   rw [List.takeWhile_cons, if_neg (by simpa using this), List.append_nil]
theorem at_mid (T D : List RowD) (y : RowD) : (T ++ y :: D)[T.length]? = some y := by simp
section
variable {l T D : List RowD} {k : KeyD} {o : Option RowD} {bs : List BdD} {r : RowD}
theorem Parts.pos (h : Parts l k T D o) : posK l k = T.length := by
 rw [h.eq]
 refine posK_cut h.lo fun y R' e => ?_
 cases o with
 | none =>
   have : y ∈ D := by rw [show D = y :: R' from e]; exact List.mem_cons_self ..
   have := h.hi y this
   omega
 | some x =>
   have e2 : x = y := by injection e
   rw [← e2, h.at_ x rfl, cmpK_zero.2 rfl]
   omega
theorem Parts.at_none (h : Parts l k T D none) : atB l k (posK l k) = false := by
 rw [h.pos, h.eq]
 unfold atB
 cases D with
 | nil => simp
 | cons d D =>
   have : (T ++ (([] : List RowD) ++ d :: D))[T.length]? = some d := by simp
   rw [show (Option.toList none : List RowD) = [] from rfl, this]
   have h0 := h.hi d (List.mem_cons_self ..)
   show eqK d.key k = false
   rw [eqK_cmp]
   simp
   omega
theorem Parts.at_some {x : RowD} (h : Parts l k T D (some x)) : atB l k (posK l k) = true := by
 rw [h.pos, h.eq]
 unfold atB
 rw [show (T ++ ((some x).toList ++ D))[T.length]? = some x from at_mid T D x]
 show eqK x.key k = true
 exact eqK_iff.2 (h.at_ x rfl)
/-- the list with the row -/
theorem Parts.put (h : Parts l r.key T D o) : putL l r = T ++ r :: D := by
 unfold putL
 cases o with
 | none =>
   have he : l = T ++ D := h.eq
   rw [h.at_none, if_neg (by simp), h.pos, he]
   simp
 | some x =>
   have he : l = T ++ x :: D := h.eq
   rw [h.at_some, if_pos rfl, h.pos, he]
   have e1 : (T ++ x :: D).drop (T.length + 1) = D := by rw [← List.drop_drop]; simp
   rw [e1]
   simp
theorem Parts.mid (h : Parts l r.key T D o) : Parts (T ++ r :: D) r.key T D (some r) := ⟨rfl, h.lo, h.hi, fun x e => by cases e; rfl⟩
theorem Parts.out (h : Parts l k T D o) : Parts (T ++ D) k T D none := ⟨rfl, h.lo, h.hi, fun x e => by cases e⟩
theorem Parts.sorted (h : Parts l k T D o) (hs : Sorted l) (hk : r.key = k) : Sorted (T ++ r :: D) ∧ Sorted (T ++ D) := by
 have hs2 : Sorted (T ++ (o.toList ++ D)) := by rw [← h.eq]; exact hs
 obtain ⟨a1, a2, a3⟩ := List.pairwise_append.1 hs2
 obtain ⟨_, b2, _⟩ := List.pairwise_append.1 a2
 have hTD : ∀ a ∈ T, ∀ b ∈ D, cmpK a.key b.key < 0 := fun a ha b hb => a3 a ha b (List.mem_append.2 (.inr hb))
 refine ⟨List.pairwise_append.2 ⟨a1, List.pairwise_cons.2 ⟨fun x hx => ?_, b2⟩, fun a ha b hb => ?_⟩, List.pairwise_append.2 ⟨a1, b2, hTD⟩⟩
 · have := h.hi x hx
   rw [hk, cmpK_anti]
   omega
 · rcases List.mem_cons.1 hb with rfl | hb
   · rw [hk]; exact h.lo a ha
   · exact hTD a ha b hb
theorem Parts.len (h : Parts l k T D o) : l.length = T.length + o.toList.length + D.length := by rw [h.eq]; simp; omega
theorem chk_zero (hS : okS bs = true) (hL : okL bs l = true) : chkList bs l = 0 := by unfold chkList; rw [if_pos hS, if_pos hL]
theorem rowE_keyE (h : rowE bs r = 0) : keyE bs r.key = 0 := by
 by_cases hk : keyE bs r.key = 0
 · exact hk
 · rw [rowE_key hk] at h; cases h
/-- Put went well: what is there then -/
structure Put0 (bs : List BdD) (l : List RowD) (r : RowD) (T D : List RowD) (o : Option RowD) : Prop where
 parts : Parts l r.key T D o
 okS : okS bs = true
 okl : okL bs l = true
 row : rowE bs r = 0
 res : putR bs l r = T ++ r :: D
 okn : okL bs (T ++ r :: D) = true
 oko : okL bs (T ++ D) = true
theorem put0_of (h : putE bs l r = 0) : ∃ T D o, Put0 bs l r T D o := by
 have hc : chkList bs l = 0 := by
  by_cases hc : chkList bs l = 0
  · exact hc
  · unfold putE at h; rw [if_neg hc] at h; exact absurd h hc
 have hr : rowE bs r = 0 := by
  by_cases hr : rowE bs r = 0
  · exact hr
  · unfold putE at h; rw [if_pos hc, if_neg hr] at h; exact absurd h hr
 have hf : ¬ (atB l r.key (posK l r.key) = false ∧ l.length = 60) := fun hf => by
  unfold putE at h; rw [if_pos hc, if_pos hr, if_pos hf] at h; cases h
 obtain ⟨hS, hL⟩ := chkList_zero hc
 obtain ⟨h60, hs, hall⟩ := (okL_good bs l).1 hL
 obtain ⟨T, D, o, hp⟩ := parts_of hs r.key
 have hm : ∀ x, x ∈ T ∨ x ∈ D → x ∈ l := fun x hx => by
  rw [hp.eq]
  rcases hx with hx | hx
  · exact List.mem_append.2 (.inl hx)
  · exact List.mem_append.2 (.inr (List.mem_append.2 (.inr hx)))
 have hlen := hp.len
 have hls := hp.sorted (r := r) hs rfl
 have hle : (T ++ r :: D).length ≤ 60 := by
  cases o with
  | none =>
    have := hp.at_none
    have h6 : l.length ≠ 60 := fun e => hf ⟨this, e⟩
    simp at hlen ⊢
    omega
  | some x => simp at hlen ⊢; omega
 refine ⟨T, D, o, hp, hS, hL, hr, ?_, (okL_good _ _).2 ⟨hle, hls.1, fun x hx => ?_⟩, (okL_good _ _).2 ⟨by simp at hle ⊢; omega, hls.2, fun x hx => hall x (hm x (List.mem_append.1 hx))⟩⟩
 · unfold putR; rw [if_pos h, hp.put]
 · rcases List.mem_append.1 hx with hx | hx
   · exact hall x (hm x (.inl hx))
   · rcases List.mem_cons.1 hx with rfl | hx
     · exact hr
     · exact hall x (hm x (.inr hx))
theorem Put0.found (h : Put0 bs l r T D o) : findK (T ++ r :: D) r.key = some T.length :=
 findK_some (at_mid T D r) (eqK_iff.2 rfl) fun j x hj hx => by
  rw [List.getElem?_append_left hj] at hx
  have := h.parts.lo x (List.mem_of_getElem? hx)
  rw [eqK_cmp]
  simp
  omega
theorem take_mid (hp : Parts (T ++ r :: D) k T D (some r)) (hS : okS bs = true) (hL : okL bs (T ++ r :: D) = true) (hk : keyE bs k = 0) : takeE bs (T ++ r :: D) k = 0 ∧ takeL bs (T ++ r :: D) k = T ++ D ∧ takeX bs (T ++ r :: D) k = r := by
 have e : takeE bs (T ++ r :: D) k = 0 := by unfold takeE; rw [if_pos (chk_zero hS hL), if_pos hk, if_pos hp.at_some]
 refine ⟨e, ?_, ?_⟩
 · unfold takeL
   rw [if_pos e, hp.pos]
   have e1 : (T ++ r :: D).drop (T.length + 1) = D := by rw [← List.drop_drop]; simp
   rw [e1]
   simp
 · unfold takeX
   rw [if_pos e, hp.pos, at_mid]
   rfl
theorem Put0.take (h : Put0 bs l r T D o) : takeE bs (T ++ r :: D) r.key = 0 ∧ takeL bs (T ++ r :: D) r.key = T ++ D ∧ takeX bs (T ++ r :: D) r.key = r :=
 take_mid h.parts.mid h.okS h.okn (rowE_keyE h.row)
end
end Go.Proofs.Ytkdkncbccofpdaa
namespace Go.Proofs.Ytkdkncbccofpdaa
open Go.RowKit
theorem neq_key (w : World) (a b c d : Int) : (binOp .neq 28 (.agg #[.int .i64 a, .int .u16 b]) (.agg #[.int .i64 c, .int .u16 d])).run Try.prog w = .ok (.bool (!eqK ⟨a, b⟩ ⟨c, d⟩)) w := by
 rw [run_neq_struct]
 have hS : Try.prog.underlying 28 = some (.struct (Try.prog.fieldsOf 28)) := by kernel_rfl
 have hp : Try.prog.stoodInHeld 28 = false := by kernel_rfl
 have u3 := Try.underlying3
 have u4 := Try.underlying26
 have a3 := Try.isAgg3
 have a4 := Try.isAgg26
 have z3 := Try.sizeOf3
 have z4 := Try.sizeOf26
 rw [show (10000 : Nat) = 9999 + 1 from rfl, run_equalIn_agg w 9999 28 _ _ hS hp]
 simp only [Program.fieldsOf, Try.underlying28]
 clear hS hp
 unfold eqK
 go_simp
 by_cases h1 : a = c <;> by_cases h2 : b = d <;> simp [h1, h2]
def gatL (p : RowD → Bool) (l : List RowD) : List RowD := l.filter p
theorem gatL_ok {l : List RowD} {p : RowD → Bool} (h : ∀ r ∈ l, RowOk r) : ∀ r ∈ gatL p l, RowOk r := fun r hr => h r (List.mem_filter.1 hr).1
theorem gatL_step {l : List RowD} {p : RowD → Bool} {k : Nat} {r : RowD} (h : l[k]? = some r) : gatL p (l.take (k + 1)) = if p r = true then gatL p (l.take k) ++ [r] else gatL p (l.take k) := by
 unfold gatL
 rw [List.take_add_one, h, List.filter_append]
 by_cases hk : p r = true
 · rw [if_pos hk]; simp [hk]
 · rw [if_neg hk]; simp [hk]
theorem gatL_len (l : List RowD) (p : RowD → Bool) (k : Nat) : (gatL p (l.take k)).length ≤ k := Nat.le_trans (List.length_filter_le _ _) (by rw [List.length_take]; omega)
/-- a list without the rows of a key -/
def notP (k : KeyD) (r : RowD) : Bool := !eqK r.key k
def outL (l : List RowD) (k : KeyD) : List RowD := gatL (notP k) l
theorem outL_len (l : List RowD) (k : KeyD) : (outL l k).length ≤ l.length := List.length_filter_le _ _
/-- what a list of the call's own holds in the middle of a loop -/
def AccRel (w wr : World) (L : List RowD) (v : Value) : Prop := Below w.heap.size w wr ∧ OwnR 68 wr w.heap.size v L
theorem AccRel.hit {w wr W2 w' : World} {L : List RowD} {q0 q' : Option Addr} {n0 c0 n' c' : Nat} {r : RowD} (h : AccRel w wr L (.slice q0 n0 c0)) (hb : Below wr.heap.size wr W2)
 (ho : OwnR 68 w' w.heap.size (.slice q' n' c') (L ++ [r])) (hg : W2.grownBy w' (q0.map (·.block))) : AccRel w w' (L ++ [r]) (.slice q' n' c') := by
 refine ⟨?_, ho⟩
 have h2 := h.1.trans (hb.mono h.1.size)
 exact h2.trans (grown_belowN hg h2.size (fun j hj => by
  cases q0 with
  | none => cases hj
  | some a => cases hj; exact (h.2.far a rfl).1))
theorem AccRel.on {w wr W2 : World} {L : List RowD} {q0 : Option Addr} {n0 c0 : Nat} (h : AccRel w wr L (.slice q0 n0 c0)) (hb : Below wr.heap.size wr W2) : AccRel w W2 L (.slice q0 n0 c0) := ⟨h.1.trans (hb.mono h.1.size), h.2.below hb⟩
set_option maxRecDepth 100000 in
set_option maxHeartbeats 2000000 in
theorem without_any (q : Option Addr) (n c : Nat) (l : List RowD) (t id : Int) (w : World) (hr : RowsOn w q n c l) (hn : n ≤ 1000000) :
 Calls Try.prog 47 #[.slice q n c, .agg #[.int .i64 t, .int .u16 id]] w (RowsPost w (outL l ⟨t, id⟩)) := by
 obtain ⟨W, hW⟩ : ∃ W, w.alloc (.cells #[.int .i64 t, .int .u16 id] 28) = W := ⟨_, rfl⟩
 have hbx := Lib.hid (one_box (xs := [.int .i64 t, .int .u16 id]) hW)
 have hrr := Lib.hid (hr.below hbx.out.1 (Nat.le_refl _))
 have hll := Lib.hid hr.len
 clear hr
 have hr0 : Hid (AccRel W W (outL (l.take 0) ⟨t, id⟩) (.slice none 0 0)) := ⟨Below.refl _ _, OwnR.nil _ _ _⟩
 go_enter Try.func47, Try.ntmps47
 go_wp2
 clear hW
 go_loopw [5, 6] (fun v5 v6 wr => ∃ (k : Nat) (q0 : Option Addr) (n0 c0 : Nat), k ≤ n ∧ v6 = .int .i64 k ∧ v5 = .slice q0 n0 c0 ∧ Hid (AccRel W wr (outL (l.take k) ⟨t, id⟩) (.slice q0 n0 c0))) (fun _ v6 _ => n - (intOf v6).toNat)
 case atStart => exact ⟨0, none, 0, 0, Nat.zero_le _, rfl, rfl, hr0⟩
 case round =>
  obtain ⟨k, q0, n0, c0, hk, rfl, rfl, hrl⟩ := hrel
  by_cases hlt : k < n
  · obtain ⟨a, ⟨⟨pt, pid⟩, pv, ps⟩, rfl, hx, hok, hc⟩ := (hrr.out.below hrl.out.1 (Nat.le_refl _)).at hlt
    have hcell : Hid (∀ j x, ([.int .i64 pt, .int .u16 pid, .int .i64 pv, .string ps] : List Value)[j]? = some x → wr.cell? ((a.add (k * 4)).add j) = some x) := hc
    have p0 : wr.cell? (a.add (k * 4)) = some (.int .i64 pt) := by have h := hc 0 _ rfl; rwa [add0] at h
    have p1 : wr.cell? ⟨(a.add (k * 4)).block, (a.add (k * 4)).off + 1, none⟩ = some (.int .u16 pid) := hc 1 _ rfl
    have b0 := (hbx.out.2.1.below hrl.out.1 (Nat.le_refl _)).cell 0 rfl
    have b1 := (hbx.out.2.1.below hrl.out.1 (Nat.le_refl _)).cell 1 rfl
    have hx' := Lib.hid hx
    have hok' := Lib.hid hok
    have hs2 := sizeRow pt pid pv ps
    have i0 : (0 : Int) ≤ k := by omega
    have i1 : (k : Int) < n := by omega
    have hn0 : n0 ≤ k := by rw [hrl.out.2.len]; exact gatL_len l _ k
    have heq := fun u => neq_key u pt pid t id
    obtain ⟨E, hE⟩ : ∃ E, eqK ⟨pt, pid⟩ ⟨t, id⟩ = E := ⟨_, rfl⟩
    rw [hE] at heq
    have hE' := Lib.hid hE
    clear hE hx hok hc
    cases E with
    | false =>
      have hst : Hid (outL (l.take (k + 1)) ⟨t, id⟩ = outL (l.take k) ⟨t, id⟩ ++ [⟨⟨pt, pid⟩, pv, ps⟩]) := by
       show outL _ _ = _
       unfold outL
       rw [gatL_step hx'.out, if_pos]
       unfold notP
       rw [show eqK (⟨⟨pt, pid⟩, pv, ps⟩ : RowD).key ⟨t, id⟩ = false from hE'.out]
       rfl
      go_wp2
      go_quiet (fail)
      rename_i nq
      obtain ⟨W1, hW1⟩ : ∃ W1, wr.drewN nq = W1 := ⟨_, rfl⟩
      have hd1 : Hid (Below wr.heap.size wr W1) := by rw [← hW1]; exact below_drewN _ _
      have hcell1 : Hid (∀ j x, ([.int .i64 pt, .int .u16 pid, .int .i64 pv, .string ps] : List Value)[j]? = some x → W1.cell? ((a.add (k * 4)).add j) = some x) := fun j x hj => cell_keeps hd1.out (Nat.le_refl _) (hcell.out j x hj)
      obtain ⟨W2, hW2⟩ : ∃ W2, W1.alloc (.cells #[.int .i64 pt, .int .u16 pid, .int .i64 pv, .string ps] 68) = W2 := ⟨_, rfl⟩
      have hb2 := Lib.hid (one_box (xs := [.int .i64 pt, .int .u16 pid, .int .i64 pv, .string ps]) hW2)
      have hb3 := Lib.hid (hd1.out.trans (hb2.out.1.mono hd1.out.size))
      have hrow : Hid (RowsOn W2 (some ⟨W1.heap.size, 0, none⟩) 1 1 [⟨⟨pt, pid⟩, pv, ps⟩]) := by
       have h0 := RowV.made (T := 68) W1 [.int .i64 pt, .int .u16 pid, .int .i64 pv, .string ps]
       rw [hW2] at h0
       exact RowV.rows1 (r := ⟨⟨pt, pid⟩, pv, ps⟩) h0 hok'.out
      have hown := Lib.hid (hrl.out.2.below hb3.out)
      have hsz : Hid (W.heap.size ≤ W2.heap.size) := Nat.le_trans hrl.out.1.size hb3.out.size
      have h40 : Hid ((n0 + 1) * 40 ≤ 140737488355328) := by show _ ≤ _; omega
      have h41 : Hid (n0 + 1 ≤ 140737488355328) := by show _ ≤ _; omega
      clear p0 p1 b0 b1
      go_wp2_with (first
       | (with_reducible refine wpList_load_at rfl 68 (.tmp 23) rfl Try.underlying68 rfl hs2 rfl hcell1.out ?_)
       | (at_builtin
          refine wpList_append_r Try.underlying25 infoRow rfl rfl (.tmp 20) (.tmp 25) rfl rfl rfl hown.out hrow.out h40.out h41.out hsz.out ?_
          intro q' c' w' h1 h2 h3
          have hnew : Hid (AccRel W w' (outL (l.take (k + 1)) ⟨t, id⟩) (.slice q' (n0 + 1) c')) := by
           rw [hst.out]
           exact hrl.out.hit hb3.out h1 h2
          clear h1 h2 h3))
      go_roundw
      case rel => exact ⟨k + 1, q', n0 + 1, c', by omega, by go_num, rfl, hnew⟩
      case measure => simp [intOf]; omega
    | true =>
      have hst : Hid (outL (l.take (k + 1)) ⟨t, id⟩ = outL (l.take k) ⟨t, id⟩) := by
       show outL _ _ = _
       unfold outL
       rw [gatL_step hx'.out, if_neg]
       unfold notP
       rw [show eqK (⟨⟨pt, pid⟩, pv, ps⟩ : RowD).key ⟨t, id⟩ = true from hE'.out]
       simp
      go_wp2
      go_quiet (fail)
      rename_i nq
      clear p0 p1 b0 b1
      go_wp2
      go_roundw
      case rel =>
       refine ⟨k + 1, q0, n0, c0, by omega, by go_num, rfl, ?_⟩
       have h := hrl.out.on (below_drewN wr nq)
       rw [← hst.out] at h
       exact h
      case measure => simp [intOf]; omega
  · obtain rfl : n = k := by omega
    have ho := hrl.out.2
    rw [List.take_of_length_le (by rw [hll.out]; exact Nat.le_refl _)] at ho
    have ho' := Lib.hid ho
    clear ho
    go_wp2
    go_ret
    exact ⟨q0, n0, c0, rfl, ho'.out.mono hbx.out.1.size, ho'.out.reads (gatL_ok hrr.out.ok), hbx.out.1.trans (hrl.out.1.mono hbx.out.1.size)⟩
end Go.Proofs.Ytkdkncbccofpdaa
namespace Go.Proofs.Ytkdkncbccofpdaa
open Go.RowKit
def insL : List RowD → RowD → List RowD
 | [], r => [r]
 | x :: t, r => if cmpK r.key x.key < 0 then r :: x :: t else x :: insL t r
def donB (L : List RowD) (r : RowD) : Bool := L.any fun x => decide (cmpK r.key x.key < 0)
theorem insL_skip : ∀ {L : List RowD} (M : List RowD) {r : RowD}, donB L r = false → insL (L ++ M) r = L ++ insL M r
 | [], M, r, _ => rfl
 | x :: L, M, r, h => by
   unfold donB at h
   rw [List.any_cons, Bool.or_eq_false_iff] at h
   have h1 : ¬ cmpK r.key x.key < 0 := by simpa using h.1
   show (if cmpK r.key x.key < 0 then _ else _) = _
   rw [if_neg h1]
   show x :: insL (L ++ M) r = _
   rw [insL_skip M h.2]
   rfl
theorem insL_done : ∀ {L : List RowD} (M : List RowD) {r : RowD}, donB L r = true → insL (L ++ M) r = insL L r ++ M
 | [], M, r, h => by cases h
 | x :: L, M, r, h => by
   show (if cmpK r.key x.key < 0 then _ else _) = (if cmpK r.key x.key < 0 then _ else _) ++ M
   by_cases h1 : cmpK r.key x.key < 0
   · rw [if_pos h1, if_pos h1]; rfl
   · have h2 : donB L r = true := by
      unfold donB at h
      rw [List.any_cons, Bool.or_eq_true] at h
      rcases h with h | h
      · exact absurd (by simpa using h) h1
      · exact h
     rw [if_neg h1, if_neg h1]
     show x :: insL (L ++ M) r = _
     rw [insL_done M h2]
     rfl
def accL (L : List RowD) (r : RowD) : List RowD := if donB L r = true then insL L r else L
theorem donB_step {L : List RowD} {k : Nat} {x r : RowD} (h : L[k]? = some x) : donB (L.take (k + 1)) r = (donB (L.take k) r || decide (cmpK r.key x.key < 0)) := by
 unfold donB
 rw [List.take_add_one, h, List.any_append]
 simp
theorem accL_done {L : List RowD} {k : Nat} {x r : RowD} (h : L[k]? = some x) (hd : donB (L.take k) r = true) : accL (L.take (k + 1)) r = accL (L.take k) r ++ [x] := by
 unfold accL
 rw [donB_step h, hd, if_pos (by rfl), if_pos rfl, List.take_add_one, h]
 exact insL_done [x] hd
theorem accL_here {L : List RowD} {k : Nat} {x r : RowD} (h : L[k]? = some x) (hd : donB (L.take k) r = false) (hc : cmpK r.key x.key < 0) : accL (L.take (k + 1)) r = (accL (L.take k) r ++ [r]) ++ [x] := by
 unfold accL
 rw [donB_step h, hd, if_pos (by simpa using hc), if_neg (by simp), List.take_add_one, h]
 rw [show (some x).toList = [x] from rfl, insL_skip [x] hd]
 show _ ++ (if cmpK r.key x.key < 0 then _ else _) = _
 rw [if_pos hc]
 simp
theorem accL_past {L : List RowD} {k : Nat} {x r : RowD} (h : L[k]? = some x) (hd : donB (L.take k) r = false) (hc : ¬ cmpK r.key x.key < 0) : accL (L.take (k + 1)) r = accL (L.take k) r ++ [x] := by
 unfold accL
 rw [donB_step h, hd, if_neg (by simpa using hc), if_neg (by simp), List.take_add_one, h]
 rfl
theorem accL_end {L : List RowD} {r : RowD} : (donB L r = true → accL L r = insL L r) ∧ (donB L r = false → accL L r ++ [r] = insL L r) := by
 refine ⟨fun h => if_pos h, fun h => ?_⟩
 have := insL_skip [] h
 rw [List.append_nil] at this
 rw [this]
 unfold accL
 rw [if_neg (by rw [h]; simp)]
 rfl
theorem insL_len : ∀ (L : List RowD) (r : RowD), (insL L r).length = L.length + 1
 | [], r => rfl
 | x :: t, r => by
   show (if cmpK r.key x.key < 0 then _ else _ : List RowD).length = _
   split
   · rfl
   · simp [insL_len t r]
theorem insL_ok : ∀ {L : List RowD} {r : RowD}, (∀ x ∈ L, RowOk x) → RowOk r → ∀ x ∈ insL L r, RowOk x
 | [], r, _, hr, x, hx => by
   have : x = r := by simpa [insL] using hx
   rw [this]; exact hr
 | y :: t, r, h, hr, x, hx => by
   by_cases hc : cmpK r.key y.key < 0
   · rw [show insL (y :: t) r = r :: y :: t from if_pos hc] at hx
     rcases List.mem_cons.1 hx with rfl | hx
     · exact hr
     · exact h x hx
   · rw [show insL (y :: t) r = y :: insL t r from if_neg hc] at hx
     rcases List.mem_cons.1 hx with rfl | hx
     · exact h _ (List.mem_cons_self ..)
     · exact insL_ok (fun z hz => h z (List.mem_cons_of_mem _ hz)) hr x hx
theorem accL_len (L : List RowD) (r : RowD) (k : Nat) : (accL (L.take k) r).length ≤ k + 1 := by
 unfold accL
 split
 · rw [insL_len, List.length_take]; omega
 · rw [List.length_take]; omega
def withL (l : List RowD) (r : RowD) : List RowD := insL (outL l r.key) r
set_option maxRecDepth 100000 in
set_option maxHeartbeats 4000000 in
theorem with_any (q : Option Addr) (n c : Nat) (l : List RowD) (t id v : Int) (s : ByteArray) (w : World) (hr : RowsOn w q n c l) (hn : n ≤ 100000) (hro : RowOk ⟨⟨t, id⟩, v, s⟩) :
 Calls Try.prog 46 #[.slice q n c, .agg #[.int .i64 t, .int .u16 id, .int .i64 v, .string s]] w (RowsPost w (withL l ⟨⟨t, id⟩, v, s⟩)) := by
 obtain ⟨W, hW⟩ : ∃ W, w.alloc (.cells #[.int .i64 t, .int .u16 id, .int .i64 v, .string s] 68) = W := ⟨_, rfl⟩
 have hbx := Lib.hid (one_box (xs := [.int .i64 t, .int .u16 id, .int .i64 v, .string s]) hW)
 have hs1 := sizeRow t id v s
 have hs3 := sizeKey t id
 have hrow := Lib.hid hro
 have hwo := Lib.hid (without_any q n c l t id W (hr.below hbx.out.1 (Nat.le_refl _)) (by omega))
 have hll := Lib.hid hr.len
 have hkey := Lib.hid hbx.out.2.1.key
 clear hr hro
 go_enter Try.func46, Try.ntmps46
 go_wp2_with (first
  | (with_reducible refine wpList_load_at rfl 28 (.tmp 10) rfl Try.underlying28 rfl hs3 rfl hkey.out ?_))
 refine hwo.out.mono ?_
 clear hwo
 rintro e X ⟨mq, m, mc, rfl, _, hrd, hb⟩
 obtain ⟨L, hL⟩ : ∃ L, outL l ⟨t, id⟩ = L := ⟨_, rfl⟩
 have hlen := outL_len l ⟨t, id⟩
 rw [hL] at hrd hlen
 rw [hll.out] at hlen
 have hLw : Hid (withL l ⟨⟨t, id⟩, v, s⟩ = insL L ⟨⟨t, id⟩, v, s⟩) := by show insL (outL l ⟨t, id⟩) _ = _; rw [hL]
 have hm : m ≤ n := by rw [← hrd.len]; exact hlen
 have hrr := Lib.hid hrd
 have hbX := Lib.hid hb
 have hbox := Lib.hid (hbx.out.2.1.below hb (Nat.le_refl _))
 have hr0 : Hid (AccRel X X (accL (L.take 0) ⟨⟨t, id⟩, v, s⟩) (.slice none 0 0)) := ⟨Below.refl _ _, OwnR.nil _ _ _⟩
 have hd0 : Hid (false = donB (L.take 0) ⟨⟨t, id⟩, v, s⟩) := by show false = _; rfl
 clear hL hlen hrd hb hW
 go_wp2
 go_loopw [5, 6, 8] (fun v5 v6 v8 wr => ∃ (k : Nat) (q0 : Option Addr) (n0 c0 : Nat) (b : Bool), k ≤ m ∧ v8 = .int .i64 k ∧ v5 = .slice q0 n0 c0 ∧ v6 = .bool b ∧ Hid (b = donB (L.take k) ⟨⟨t, id⟩, v, s⟩) ∧ Hid (AccRel X wr (accL (L.take k) ⟨⟨t, id⟩, v, s⟩) (.slice q0 n0 c0))) (fun _ _ v8 _ => m - (intOf v8).toNat)
 case atStart => exact ⟨0, none, 0, 0, false, Nat.zero_le _, rfl, rfl, rfl, hd0, hr0⟩
 case round =>
  obtain ⟨k, q0, n0, c0, b, hk, rfl, rfl, rfl, hdb, hrl⟩ := hrel
  have hboxr := Lib.hid (hbox.out.below hrl.out.1 (Nat.le_refl _))
  have hn0 : n0 ≤ k + 1 := by rw [hrl.out.2.len]; exact accL_len L _ k
  by_cases hlt : k < m
  · obtain ⟨a, ⟨⟨pt, pid⟩, pv, ps⟩, rfl, hx, hok, hc⟩ := hrr.out.at hlt
    have hcellX : Hid (∀ j x, ([.int .i64 pt, .int .u16 pid, .int .i64 pv, .string ps] : List Value)[j]? = some x → X.cell? ((a.add (k * 4)).add j) = some x) := hc
    have hcell : Hid (∀ j x, ([.int .i64 pt, .int .u16 pid, .int .i64 pv, .string ps] : List Value)[j]? = some x → wr.cell? ((a.add (k * 4)).add j) = some x) := fun j x hj => cell_keeps hrl.out.1 (Nat.le_refl _) (hcellX.out j x hj)
    have hx' := Lib.hid hx
    have hok' := Lib.hid hok
    have hs2 := sizeRow pt pid pv ps
    have i0 : (0 : Int) ≤ k := by omega
    have i1 : (k : Int) < m := by omega
    clear hx hok hc
    cases b with
    | true =>
      have hst := Lib.hid (accL_done (r := ⟨⟨t, id⟩, v, s⟩) hx'.out hdb.out.symm)
      have hdn : Hid (true = donB (L.take (k + 1)) ⟨⟨t, id⟩, v, s⟩) := by show true = _; rw [donB_step hx'.out, ← hdb.out]; rfl
      go_wp2
      go_quiet (fail)
      rename_i nq
      obtain ⟨W1, hW1⟩ : ∃ W1, wr.drewN nq = W1 := ⟨_, rfl⟩
      have hd1 : Hid (Below wr.heap.size wr W1) := by rw [← hW1]; exact below_drewN _ _
      have hcell1 : Hid (∀ j x, ([.int .i64 pt, .int .u16 pid, .int .i64 pv, .string ps] : List Value)[j]? = some x → W1.cell? ((a.add (k * 4)).add j) = some x) := fun j x hj => cell_keeps hd1.out (Nat.le_refl _) (hcell.out j x hj)
      obtain ⟨W2, hW2⟩ : ∃ W2, W1.alloc (.cells #[.int .i64 pt, .int .u16 pid, .int .i64 pv, .string ps] 68) = W2 := ⟨_, rfl⟩
      have hb2 := Lib.hid (one_box (xs := [.int .i64 pt, .int .u16 pid, .int .i64 pv, .string ps]) hW2)
      have hb3 := Lib.hid (hd1.out.trans (hb2.out.1.mono hd1.out.size))
      have hrw : Hid (RowsOn W2 (some ⟨W1.heap.size, 0, none⟩) 1 1 [⟨⟨pt, pid⟩, pv, ps⟩]) := by
       have h0 := RowV.made (T := 68) W1 [.int .i64 pt, .int .u16 pid, .int .i64 pv, .string ps]
       rw [hW2] at h0
       exact RowV.rows1 (r := ⟨⟨pt, pid⟩, pv, ps⟩) h0 hok'.out
      have hown := Lib.hid (hrl.out.2.below hb3.out)
      have hsz : Hid (X.heap.size ≤ W2.heap.size) := Nat.le_trans hrl.out.1.size hb3.out.size
      have h40 : Hid ((n0 + 1) * 40 ≤ 140737488355328) := by show _ ≤ _; omega
      have h41 : Hid (n0 + 1 ≤ 140737488355328) := by show _ ≤ _; omega
      go_wp2_with (first
       | (with_reducible refine wpList_load_at rfl 68 (.tmp 39) rfl Try.underlying68 rfl hs2 rfl hcell1.out ?_)
       | (at_builtin
          refine wpList_append_r Try.underlying25 infoRow rfl rfl (.tmp 36) (.tmp 41) rfl rfl rfl hown.out hrw.out h40.out h41.out hsz.out ?_
          intro q' c' w' h1 h2 h3
          have hnew : Hid (AccRel X w' (accL (L.take (k + 1)) ⟨⟨t, id⟩, v, s⟩) (.slice q' (n0 + 1) c')) := by
           rw [hst.out]
           exact hrl.out.hit hb3.out h1 h2
          clear h1 h2 h3))
      go_roundw
      case rel => exact ⟨k + 1, q', n0 + 1, c', true, by omega, by go_num, rfl, rfl, hdn, hnew⟩
      case measure => simp [intOf]; omega
    | false =>
      have p0 : wr.cell? (a.add (k * 4)) = some (.int .i64 pt) := by have h := hcell.out 0 _ rfl; rwa [add0] at h
      have p1 : wr.cell? ⟨(a.add (k * 4)).block, (a.add (k * 4)).off + 1, none⟩ = some (.int .u16 pid) := hcell.out 1 _ rfl
      have b0 := hboxr.out.cell 0 rfl
      have b1 := hboxr.out.cell 1 rfl
      have hcmp := Lib.hid (fun u => refCompare_any t id pt pid u)
      obtain ⟨z, hz⟩ : ∃ x, cmpK ⟨t, id⟩ ⟨pt, pid⟩ = x := ⟨_, rfl⟩
      rw [hz] at hcmp
      have hz' := Lib.hid hz
      clear hz
      by_cases hz0 : z < 0
      · have hst := Lib.hid (accL_here (r := ⟨⟨t, id⟩, v, s⟩) hx'.out hdb.out.symm (by rw [show cmpK (⟨⟨t, id⟩, v, s⟩ : RowD).key (⟨⟨pt, pid⟩, pv, ps⟩ : RowD).key = z from hz'.out]; exact hz0))
        have hdn : Hid (true = donB (L.take (k + 1)) ⟨⟨t, id⟩, v, s⟩) := by
         show true = _
         rw [donB_step hx'.out, show cmpK (⟨⟨t, id⟩, v, s⟩ : RowD).key (⟨⟨pt, pid⟩, pv, ps⟩ : RowD).key = z from hz'.out, decide_eq_true hz0]
         simp
        go_wp2
        go_region_held3 (fun u => u.cell? ⟨w.heap.size, 0, none⟩ = some (.int .i64 t) ∧ u.cell? ⟨w.heap.size, 1, none⟩ = some (.int .u16 id) ∧ u.cell? (a.add (k * 4)) = some (.int .i64 pt) ∧ u.cell? ⟨(a.add (k * 4)).block, (a.add (k * 4)).off + 1, none⟩ = some (.int .u16 pid) ∧ Below wr.heap.size wr u)
         (first | exact ⟨b0, b1, p0, p1, below_drew _⟩ | (go_split_ands; exact ⟨cell_keeps hb6.out (Nat.le_refl _) (by assumption), cell_keeps hb6.out (Nat.le_refl _) (by assumption), cell_keeps hb6.out (Nat.le_refl _) (by assumption), cell_keeps hb6.out (Nat.le_refl _) (by assumption), below_step hb6.out (by assumption)⟩))
         (first
           | (go_at_call 42; refine (hcmp.out _).mono ?_; rintro e x4 ⟨rfl, hb6'⟩; have hb6 := Lib.hid hb6'; clear hb6'))
        have hv4 : Hid (Below wr.heap.size wr x4) := by
         show Below _ _ _
         go_split_ands
         assumption
        clear p0 p1 b0 b1 hcmp
        have hbox4 := Lib.hid (hboxr.out.below hv4.out (Nat.le_refl _))
        obtain ⟨W1, hW1⟩ : ∃ W1, x4.alloc (.cells #[.int .i64 t, .int .u16 id, .int .i64 v, .string s] 68) = W1 := ⟨_, rfl⟩
        have hb2 := Lib.hid (one_box (xs := [.int .i64 t, .int .u16 id, .int .i64 v, .string s]) hW1)
        have hb3 := Lib.hid (hv4.out.trans (hb2.out.1.mono hv4.out.size))
        have hrw : Hid (RowsOn W1 (some ⟨x4.heap.size, 0, none⟩) 1 1 [⟨⟨t, id⟩, v, s⟩]) := by
         have h0 := RowV.made (T := 68) x4 [.int .i64 t, .int .u16 id, .int .i64 v, .string s]
         rw [hW1] at h0
         exact RowV.rows1 (r := ⟨⟨t, id⟩, v, s⟩) h0 hrow.out
        have hown := Lib.hid (hrl.out.2.below hb3.out)
        have hsz : Hid (X.heap.size ≤ W1.heap.size) := Nat.le_trans hrl.out.1.size hb3.out.size
        have h40 : Hid ((n0 + 1) * 40 ≤ 140737488355328) := by show _ ≤ _; omega
        have h41 : Hid (n0 + 1 ≤ 140737488355328) := by show _ ≤ _; omega
        have h42 : Hid ((n0 + 1 + 1) * 40 ≤ 140737488355328) := by show _ ≤ _; omega
        have h43 : Hid (n0 + 1 + 1 ≤ 140737488355328) := by show _ ≤ _; omega
        go_wp2_with (first
         | (with_reducible refine wpList_load_at rfl 68 (.tmp 3) rfl Try.underlying68 rfl hs1 rfl hbox4.out.all ?_)
         | (at_builtin
            refine wpList_append_r Try.underlying25 infoRow rfl rfl (.tmp 32) (.tmp 34) rfl rfl rfl hown.out hrw.out h40.out h41.out hsz.out ?_
            intro q1 c1 w5 h1 h2 h3
            have hmid := Lib.hid (hrl.out.hit hb3.out h1 h2)
            have hcell5 : Hid (∀ j x, ([.int .i64 pt, .int .u16 pid, .int .i64 pv, .string ps] : List Value)[j]? = some x → w5.cell? ((a.add (k * 4)).add j) = some x) := fun j x hj => cell_keeps hmid.out.1 (Nat.le_refl _) (hcellX.out j x hj)
            obtain ⟨W6, hW6⟩ : ∃ W6, w5.alloc (.cells #[.int .i64 pt, .int .u16 pid, .int .i64 pv, .string ps] 68) = W6 := ⟨_, rfl⟩
            have hb7 := Lib.hid (one_box (xs := [.int .i64 pt, .int .u16 pid, .int .i64 pv, .string ps]) hW6)
            have hrw6 : Hid (RowsOn W6 (some ⟨w5.heap.size, 0, none⟩) 1 1 [⟨⟨pt, pid⟩, pv, ps⟩]) := by
             have h0 := RowV.made (T := 68) w5 [.int .i64 pt, .int .u16 pid, .int .i64 pv, .string ps]
             rw [hW6] at h0
             exact RowV.rows1 (r := ⟨⟨pt, pid⟩, pv, ps⟩) h0 hok'.out
            have hown6 := Lib.hid (hmid.out.2.below hb7.out.1)
            have hsz6 : Hid (X.heap.size ≤ W6.heap.size) := Nat.le_trans hmid.out.1.size hb7.out.1.size
            clear h1 h2 h3)
         | (with_reducible refine wpList_load_at rfl 68 (.tmp 39) rfl Try.underlying68 rfl hs2 rfl hcell5.out ?_)
         | (at_builtin
            refine wpList_append_r Try.underlying25 infoRow rfl rfl (.tmp 36) (.tmp 41) rfl rfl rfl hown6.out hrw6.out h42.out h43.out hsz6.out ?_
            intro q' c' w' h1 h2 h3
            have hnew : Hid (AccRel X w' (accL (L.take (k + 1)) ⟨⟨t, id⟩, v, s⟩) (.slice q' (n0 + 1 + 1) c')) := by
             rw [hst.out]
             exact hmid.out.hit hb7.out.1 h1 h2
            clear h1 h2 h3))
        go_roundw
        case rel => exact ⟨k + 1, q', n0 + 1 + 1, c', true, by omega, by go_num, rfl, rfl, hdn, hnew⟩
        case measure => simp [intOf]; omega
      · have hst := Lib.hid (accL_past (r := ⟨⟨t, id⟩, v, s⟩) hx'.out hdb.out.symm (by rw [show cmpK (⟨⟨t, id⟩, v, s⟩ : RowD).key (⟨⟨pt, pid⟩, pv, ps⟩ : RowD).key = z from hz'.out]; exact hz0))
        have hdn : Hid (false = donB (L.take (k + 1)) ⟨⟨t, id⟩, v, s⟩) := by
         show false = _
         rw [donB_step hx'.out, show cmpK (⟨⟨t, id⟩, v, s⟩ : RowD).key (⟨⟨pt, pid⟩, pv, ps⟩ : RowD).key = z from hz'.out, decide_eq_false hz0, ← hdb.out]
         rfl
        go_wp2
        go_region_held3 (fun u => u.cell? ⟨w.heap.size, 0, none⟩ = some (.int .i64 t) ∧ u.cell? ⟨w.heap.size, 1, none⟩ = some (.int .u16 id) ∧ u.cell? (a.add (k * 4)) = some (.int .i64 pt) ∧ u.cell? ⟨(a.add (k * 4)).block, (a.add (k * 4)).off + 1, none⟩ = some (.int .u16 pid) ∧ Below wr.heap.size wr u)
         (first | exact ⟨b0, b1, p0, p1, below_drew _⟩ | (go_split_ands; exact ⟨cell_keeps hb6.out (Nat.le_refl _) (by assumption), cell_keeps hb6.out (Nat.le_refl _) (by assumption), cell_keeps hb6.out (Nat.le_refl _) (by assumption), cell_keeps hb6.out (Nat.le_refl _) (by assumption), below_step hb6.out (by assumption)⟩))
         (first
           | (go_at_call 42; refine (hcmp.out _).mono ?_; rintro e x4 ⟨rfl, hb6'⟩; have hb6 := Lib.hid hb6'; clear hb6'))
        have hv4 : Hid (Below wr.heap.size wr x4) := by
         show Below _ _ _
         go_split_ands
         assumption
        clear p0 p1 b0 b1 hcmp
        have hcell4 : Hid (∀ j x, ([.int .i64 pt, .int .u16 pid, .int .i64 pv, .string ps] : List Value)[j]? = some x → x4.cell? ((a.add (k * 4)).add j) = some x) := fun j x hj => cell_keeps hv4.out (Nat.le_refl _) (hcell.out j x hj)
        obtain ⟨W2, hW2⟩ : ∃ W2, x4.alloc (.cells #[.int .i64 pt, .int .u16 pid, .int .i64 pv, .string ps] 68) = W2 := ⟨_, rfl⟩
        have hb2 := Lib.hid (one_box (xs := [.int .i64 pt, .int .u16 pid, .int .i64 pv, .string ps]) hW2)
        have hb3 := Lib.hid (hv4.out.trans (hb2.out.1.mono hv4.out.size))
        have hrw : Hid (RowsOn W2 (some ⟨x4.heap.size, 0, none⟩) 1 1 [⟨⟨pt, pid⟩, pv, ps⟩]) := by
         have h0 := RowV.made (T := 68) x4 [.int .i64 pt, .int .u16 pid, .int .i64 pv, .string ps]
         rw [hW2] at h0
         exact RowV.rows1 (r := ⟨⟨pt, pid⟩, pv, ps⟩) h0 hok'.out
        have hown := Lib.hid (hrl.out.2.below hb3.out)
        have hsz : Hid (X.heap.size ≤ W2.heap.size) := Nat.le_trans hrl.out.1.size hb3.out.size
        have h40 : Hid ((n0 + 1) * 40 ≤ 140737488355328) := by show _ ≤ _; omega
        have h41 : Hid (n0 + 1 ≤ 140737488355328) := by show _ ≤ _; omega
        go_wp2_with (first
         | (with_reducible refine wpList_load_at rfl 68 (.tmp 39) rfl Try.underlying68 rfl hs2 rfl hcell4.out ?_)
         | (at_builtin
            refine wpList_append_r Try.underlying25 infoRow rfl rfl (.tmp 36) (.tmp 41) rfl rfl rfl hown.out hrw.out h40.out h41.out hsz.out ?_
            intro q' c' w' h1 h2 h3
            have hnew : Hid (AccRel X w' (accL (L.take (k + 1)) ⟨⟨t, id⟩, v, s⟩) (.slice q' (n0 + 1) c')) := by
             rw [hst.out]
             exact hrl.out.hit hb3.out h1 h2
            clear h1 h2 h3))
        go_roundw
        case rel => exact ⟨k + 1, q', n0 + 1, c', false, by omega, by go_num, rfl, rfl, hdn, hnew⟩
        case measure => simp [intOf]; omega
  · obtain rfl : m = k := by omega
    have ho := hrl.out
    have hdb2 := hdb.out
    rw [List.take_of_length_le (by rw [hrr.out.len]; exact Nat.le_refl _)] at ho hdb2
    have ho' := Lib.hid ho
    have hdb' := Lib.hid hdb2
    have hup := Lib.hid (hbx.out.1.trans ((hbX.out.trans (hrl.out.1.mono hbX.out.size)).mono hbx.out.1.size))
    have hXw : Hid (w.heap.size ≤ X.heap.size) := Nat.le_trans hbx.out.1.size hbX.out.size
    clear ho hdb2
    cases b with
    | true =>
      go_wp2
      go_ret
      have he := accL_end.1 hdb'.out.symm
      have h1 := ho'.out.2
      rw [he] at h1
      rw [hLw.out]
      exact ⟨q0, n0, c0, rfl, h1.mono hXw.out, h1.reads (insL_ok hrr.out.ok hrow.out), hup.out⟩
    | false =>
      obtain ⟨W1, hW1⟩ : ∃ W1, wr.alloc (.cells #[.int .i64 t, .int .u16 id, .int .i64 v, .string s] 68) = W1 := ⟨_, rfl⟩
      have hb2 := Lib.hid (one_box (xs := [.int .i64 t, .int .u16 id, .int .i64 v, .string s]) hW1)
      have hrw : Hid (RowsOn W1 (some ⟨wr.heap.size, 0, none⟩) 1 1 [⟨⟨t, id⟩, v, s⟩]) := by
       have h0 := RowV.made (T := 68) wr [.int .i64 t, .int .u16 id, .int .i64 v, .string s]
       rw [hW1] at h0
       exact RowV.rows1 (r := ⟨⟨t, id⟩, v, s⟩) h0 hrow.out
      have hown := Lib.hid (ho'.out.2.below hb2.out.1)
      have hsz : Hid (X.heap.size ≤ W1.heap.size) := Nat.le_trans hrl.out.1.size hb2.out.1.size
      have h40 : Hid ((n0 + 1) * 40 ≤ 140737488355328) := by show _ ≤ _; omega
      have h41 : Hid (n0 + 1 ≤ 140737488355328) := by show _ ≤ _; omega
      go_wp2_with (first
       | (with_reducible refine wpList_load_at rfl 68 (.tmp 3) rfl Try.underlying68 rfl hs1 rfl hboxr.out.all ?_)
       | (at_builtin
          refine wpList_append_r Try.underlying25 infoRow rfl rfl (.tmp 45) (.tmp 47) rfl rfl rfl hown.out hrw.out h40.out h41.out hsz.out ?_
          intro q' c' w' h1 h2 h3
          have hnew := Lib.hid (ho'.out.hit hb2.out.1 h1 h2)
          clear h1 h2 h3))
      go_ret
      have he := accL_end.2 hdb'.out.symm
      have h1 := hnew.out.2
      rw [he] at h1
      rw [hLw.out]
      exact ⟨q', n0 + 1, c', rfl, h1.mono hXw.out, h1.reads (insL_ok hrr.out.ok hrow.out), hbx.out.1.trans ((hbX.out.trans (hnew.out.1.mono hbX.out.size)).mono hbx.out.1.size)⟩
end Go.Proofs.Ytkdkncbccofpdaa
namespace Go.Proofs.Ytkdkncbccofpdaa
open Go.RowKit
section
variable {l T D : List RowD} {k : KeyD} {o : Option RowD} {bs : List BdD} {r : RowD}
theorem gatL_append (p : RowD → Bool) (a b : List RowD) : gatL p (a ++ b) = gatL p a ++ gatL p b := List.filter_append a b
theorem gatL_all {p : RowD → Bool} {a : List RowD} (h : ∀ x ∈ a, p x = true) : gatL p a = a := List.filter_eq_self.2 h
theorem notP_of {x : RowD} (h : cmpK x.key k ≠ 0) : notP k x = true := by
 unfold notP
 rw [eqK_cmp]
 simpa using h
theorem Parts.out_eq (h : Parts l k T D o) : outL l k = T ++ D := by
 have hT : gatL (notP k) T = T := gatL_all fun x hx => notP_of (by have := h.lo x hx; omega)
 have hD : gatL (notP k) D = D := gatL_all fun x hx => notP_of (by have := h.hi x hx; omega)
 have ho : gatL (notP k) o.toList = [] := by
  cases o with
  | none => rfl
  | some y =>
    have : notP k y = false := by
     unfold notP
     rw [eqK_iff.2 (h.at_ y rfl)]
     rfl
    show List.filter (notP k) [y] = []
    rw [List.filter_cons, this]
    rfl
 unfold outL
 rw [h.eq, gatL_append, gatL_append, hT, hD, ho]
 rfl
theorem Parts.find_none (h : Parts l k T D none) : findAt l k = -1 := by
 have he : l = T ++ D := h.eq
 unfold findAt
 rw [findK_none (fun j x hx => ?_)]
 have hm := List.mem_of_getElem? hx
 rw [he] at hm
 rw [eqK_cmp]
 rcases List.mem_append.1 hm with hm | hm
 · have := h.lo x hm; simp; omega
 · have := h.hi x hm; simp; omega
theorem Parts.find_some {x : RowD} (h : Parts l k T D (some x)) : findAt l k = T.length ∧ l[T.length]? = some x := by
 have he : l = T ++ x :: D := h.eq
 have hx : l[T.length]? = some x := by rw [he]; exact at_mid T D x
 unfold findAt
 rw [findK_some hx (eqK_iff.2 (h.at_ x rfl)) (fun j y hj hy => ?_)]
 · exact ⟨rfl, hx⟩
 · rw [he, List.getElem?_append_left hj] at hy
   have := h.lo y (List.mem_of_getElem? hy)
   rw [eqK_cmp]
   simp
   omega
theorem Parts.with_eq (h : Parts l r.key T D o) : withL l r = T ++ r :: D := by
 unfold withL
 rw [h.out_eq]
 have hd : donB T r = false := by
  unfold donB
  rw [List.any_eq_false]
  intro x hx
  have := h.lo x hx
  rw [cmpK_anti]
  simp
  omega
 rw [insL_skip D hd]
 cases D with
 | nil => rfl
 | cons y D =>
   have := h.hi y (List.mem_cons_self ..)
   show T ++ (if cmpK r.key y.key < 0 then _ else _) = _
   rw [if_pos (by rw [cmpK_anti]; omega)]
/-- all that the law asks of a list that may be -/
structure Says (bs : List BdD) (l : List RowD) (r : RowD) (at_ E F : Int) : Prop where
 no : (rowE bs r = 0 ∧ at_ < 0 ∧ l.length = 60 ∧ E = 6) ∨ (¬ (rowE bs r = 0 ∧ at_ < 0 ∧ l.length = 60) ∧ E = rowE bs r)
 not : (keyE bs r.key = 0 ∧ at_ < 0 ∧ F = 4) ∨ (¬ (keyE bs r.key = 0 ∧ at_ < 0) ∧ F = keyE bs r.key)
 put : E = 0 → putR bs l r = withL l r
 take : F = 0 → takeL bs l r.key = outL l r.key ∧ 0 ≤ at_ ∧ l[at_.toNat]? = some (takeX bs l r.key)
 range : -1 ≤ at_ ∧ at_ < 1000
 tie : keyE bs r.key ≠ 0 → rowE bs r ≠ 0
theorem says_of (hc : chkList bs l = 0) : Says bs l r (findAt l r.key) (putE bs l r) (takeE bs l r.key) := by
 obtain ⟨hS, hL⟩ := chkList_zero hc
 obtain ⟨h60, hs, _⟩ := (okL_good bs l).1 hL
 obtain ⟨T, D, o, hp⟩ := parts_of hs r.key
 have hlen := hp.len
 have htie : keyE bs r.key ≠ 0 → rowE bs r ≠ 0 := fun h e => h (rowE_keyE e)
 cases o with
 | none =>
   have hf := hp.find_none
   have ha := hp.at_none
   have hE : putE bs l r = if rowE bs r = 0 then (if l.length = 60 then 6 else 0) else rowE bs r := by
    unfold putE
    rw [if_pos hc, ha]
    simp
   have hF : takeE bs l r.key = if keyE bs r.key = 0 then 4 else keyE bs r.key := by
    unfold takeE
    rw [if_pos hc, ha]
    simp
   refine ⟨?_, ?_, ?_, ?_, ⟨by omega, by omega⟩, htie⟩
   · rw [hE, hf]
     by_cases h1 : rowE bs r = 0 <;> by_cases h2 : l.length = 60
     · left; rw [if_pos h1, if_pos h2]; exact ⟨h1, by omega, h2, rfl⟩
     · right; rw [if_pos h1, if_neg h2]; exact ⟨fun h => h2 h.2.2, h1.symm⟩
     · right; rw [if_neg h1]; exact ⟨fun h => h1 h.1, rfl⟩
     · right; rw [if_neg h1]; exact ⟨fun h => h1 h.1, rfl⟩
   · rw [hF, hf]
     by_cases h1 : keyE bs r.key = 0
     · left; rw [if_pos h1]; exact ⟨h1, by omega, rfl⟩
     · right; rw [if_neg h1]; exact ⟨fun h => h1 h.1, rfl⟩
   · intro h
     unfold putR
     rw [if_pos h, hp.put, hp.with_eq]
   · intro h
     rw [hF] at h
     by_cases h1 : keyE bs r.key = 0
     · rw [if_pos h1] at h; cases h
     · rw [if_neg h1] at h; exact absurd h h1
 | some x =>
   obtain ⟨hf, hx⟩ := hp.find_some
   have ha := hp.at_some
   have hl : T.length < l.length := by rw [hlen]; simp; omega
   have hE : putE bs l r = rowE bs r := by
    unfold putE
    rw [if_pos hc, ha]
    simp
    intro h; exact h.symm
   have hF : takeE bs l r.key = keyE bs r.key := by
    unfold takeE
    rw [if_pos hc, ha]
    simp
    intro h; exact h.symm
   refine ⟨?_, ?_, ?_, ?_, ⟨by omega, by omega⟩, htie⟩
   · right; exact ⟨fun h => by omega, hE⟩
   · right; exact ⟨fun h => by omega, hF⟩
   · intro h
     unfold putR
     rw [if_pos h, hp.put, hp.with_eq]
   · intro h
     have he : l = T ++ x :: D := hp.eq
     refine ⟨?_, by omega, ?_⟩
     · unfold takeL
       rw [if_pos h, hp.pos, hp.out_eq, he]
       have e1 : (T ++ x :: D).drop (T.length + 1) = D := by rw [← List.drop_drop]; simp
       rw [e1]
       simp
     · unfold takeX
       rw [if_pos h, hp.pos, hf, show ((T.length : Int)).toNat = T.length from rfl, hx]
       rfl
theorem put_none {E : Int} (h : putE bs l r = E) (hE : E ≠ 0) : putR bs l r = [] := by unfold putR; rw [h, if_neg hE]
end
end Go.Proofs.Ytkdkncbccofpdaa
