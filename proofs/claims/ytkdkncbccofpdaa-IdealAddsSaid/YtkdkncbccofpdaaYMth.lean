/- Plain mathematics of Put and Take: there and back. -/
import Derived.Test.YtkdkncbccofpdaaYTak
namespace Go.Proofs.Ytkdkncbccofpdaa
open Go.RowKit

def Sorted (l : List RowD) : Prop := l.Pairwise fun a b => cmpK a.key b.key < 0
theorem rising_iff (l : List RowD) : Rising l ↔ Sorted l := by
  unfold Sorted
  rw [List.pairwise_iff_getElem]
  constructor
  · intro h i j hi hj hij
    obtain ⟨d, rfl⟩ : ∃ d, j = i + d + 1 := ⟨j - i - 1, by omega⟩
    exact h.lt d i _ _ (List.getElem?_eq_getElem hi) (List.getElem?_eq_getElem hj)
  · intro h i a b ha hb
    obtain ⟨h1, rfl⟩ := List.getElem?_eq_some_iff.1 ha
    obtain ⟨h2, rfl⟩ := List.getElem?_eq_some_iff.1 hb
    exact h i (i + 1) h1 h2 (by omega)
theorem okL_good (bs : List BdD) (l : List RowD) : okL bs l = true ↔ l.length ≤ 60 ∧ Sorted l ∧ ∀ r ∈ l, rowE bs r = 0 := by
  rw [okL_iff, ← rising_iff]
  constructor
  · rintro ⟨h1, h2⟩
    refine ⟨h1, fun i a b ha hb => (h2 (i + 1) b hb).2 i a rfl ha, fun r hr => ?_⟩
    obtain ⟨i, hi⟩ := List.mem_iff_getElem?.1 hr
    exact (h2 i r hi).1
  · rintro ⟨h1, h2, h3⟩
    exact ⟨h1, fun i r hr => ⟨h3 r (List.mem_of_getElem? hr), fun j p hj hp => by subst hj; exact h2 j p r hp hr⟩⟩

theorem split_at (p : RowD → Bool) : ∀ l : List RowD, ∃ T R, l = T ++ R ∧ (∀ x ∈ T, p x = true) ∧ (∀ y R', R = y :: R' → p y = false)
  | [] => ⟨[], [], rfl, (fun x h => by cases h), fun y R' h => by cases h⟩
  | a :: l => by
    cases hp : p a with
    | false => exact ⟨[], a :: l, rfl, (fun x h => by cases h), fun y R' h => by cases h; exact hp⟩
    | true =>
      obtain ⟨T, R, h1, h2, h3⟩ := split_at p l
      refine ⟨a :: T, R, by rw [h1]; rfl, fun x hx => ?_, h3⟩
      rcases List.mem_cons.1 hx with rfl | hx
      · exact hp
      · exact h2 x hx

/-- what stands ahead of a key, and behind it -/
structure Parts (l : List RowD) (k : KeyD) (T D : List RowD) (o : Option RowD) : Prop where
  eq : l = T ++ (o.toList ++ D)
  lo : ∀ x ∈ T, cmpK x.key k < 0
  hi : ∀ x ∈ D, 0 < cmpK x.key k
  at_ : ∀ x, o = some x → x.key = k
theorem parts_of {l : List RowD} (hs : Sorted l) (k : KeyD) : ∃ T D o, Parts l k T D o := by
  obtain ⟨T, R, h1, h2, h3⟩ := split_at (fun x => decide (cmpK x.key k < 0)) l
  have h2' : ∀ x ∈ T, cmpK x.key k < 0 := fun x hx => by simpa using h2 x hx
  cases R with
  | nil => exact ⟨T, [], none, by rw [h1]; rfl, h2', (fun x h => by cases h), fun x h => by cases h⟩
  | cons y D =>
    have hy : ¬ cmpK y.key k < 0 := by simpa using h3 y D rfl
    have hsD : ∀ x ∈ D, cmpK y.key x.key < 0 := fun x hx => by
      rw [h1] at hs
      have := (List.pairwise_append.1 hs).2.1
      exact (List.pairwise_cons.1 this).1 x hx
    by_cases he : cmpK y.key k = 0
    · have hk := cmpK_zero.1 he
      refine ⟨T, D, some y, by rw [h1]; rfl, h2', fun x hx => ?_, fun x h => by cases h; exact hk⟩
      have := hsD x hx
      rw [hk, cmpK_anti] at this
      omega
    · refine ⟨T, y :: D, none, by rw [h1]; rfl, h2', fun x hx => ?_, fun x h => by cases h⟩
      rcases List.mem_cons.1 hx with rfl | hx
      · omega
      · have a1 : cmpK k y.key < 0 := by rw [cmpK_anti]; omega
        have := cmpK_trans' a1 (hsD x hx)
        rw [cmpK_anti] at this
        omega

theorem posK_cut {T R : List RowD} {k : KeyD} (h : ∀ x ∈ T, cmpK x.key k < 0) (h2 : ∀ y R', R = y :: R' → ¬ cmpK y.key k < 0) : posK (T ++ R) k = T.length := by
  unfold posK
  rw [List.takeWhile_append_of_pos (fun x hx => by simpa using h x hx)]
  cases R with
  | nil => simp
  | cons y R' =>
    have := h2 y R' rfl
    rw [List.takeWhile_cons, if_neg (by simpa using this), List.append_nil]
theorem at_mid (T D : List RowD) (y : RowD) : (T ++ y :: D)[T.length]? = some y := by simp
section
variable {l T D : List RowD} {k : KeyD} {o : Option RowD} {bs : List BdD} {r : RowD}
theorem Parts.pos (h : Parts l k T D o) : posK l k = T.length := by
  rw [h.eq]
  refine posK_cut h.lo fun y R' e => ?_
  cases o with
  | none =>
    have : y ∈ D := by rw [show D = y :: R' from e]; exact List.mem_cons_self ..
    have := h.hi y this
    omega
  | some x =>
    have e2 : x = y := by injection e
    rw [← e2, h.at_ x rfl, cmpK_zero.2 rfl]
    omega
theorem Parts.at_none (h : Parts l k T D none) : atB l k (posK l k) = false := by
  rw [h.pos, h.eq]
  unfold atB
  cases D with
  | nil => simp
  | cons d D =>
    have : (T ++ (([] : List RowD) ++ d :: D))[T.length]? = some d := by simp
    rw [show (Option.toList none : List RowD) = [] from rfl, this]
    have h0 := h.hi d (List.mem_cons_self ..)
    show eqK d.key k = false
    rw [eqK_cmp]
    simp
    omega
theorem Parts.at_some {x : RowD} (h : Parts l k T D (some x)) : atB l k (posK l k) = true := by
  rw [h.pos, h.eq]
  unfold atB
  rw [show (T ++ ((some x).toList ++ D))[T.length]? = some x from at_mid T D x]
  show eqK x.key k = true
  exact eqK_iff.2 (h.at_ x rfl)
/-- the list with the row -/
theorem Parts.put (h : Parts l r.key T D o) : putL l r = T ++ r :: D := by
  unfold putL
  cases o with
  | none =>
    have he : l = T ++ D := h.eq
    rw [h.at_none, if_neg (by simp), h.pos, he]
    simp
  | some x =>
    have he : l = T ++ x :: D := h.eq
    rw [h.at_some, if_pos rfl, h.pos, he]
    have e1 : (T ++ x :: D).drop (T.length + 1) = D := by rw [← List.drop_drop]; simp
    rw [e1]
    simp
theorem Parts.mid (h : Parts l r.key T D o) : Parts (T ++ r :: D) r.key T D (some r) := ⟨rfl, h.lo, h.hi, fun x e => by cases e; rfl⟩
theorem Parts.out (h : Parts l k T D o) : Parts (T ++ D) k T D none := ⟨rfl, h.lo, h.hi, fun x e => by cases e⟩
theorem Parts.sorted (h : Parts l k T D o) (hs : Sorted l) (hk : r.key = k) : Sorted (T ++ r :: D) ∧ Sorted (T ++ D) := by
  have hs2 : Sorted (T ++ (o.toList ++ D)) := by rw [← h.eq]; exact hs
  obtain ⟨a1, a2, a3⟩ := List.pairwise_append.1 hs2
  obtain ⟨_, b2, _⟩ := List.pairwise_append.1 a2
  have hTD : ∀ a ∈ T, ∀ b ∈ D, cmpK a.key b.key < 0 := fun a ha b hb => a3 a ha b (List.mem_append.2 (.inr hb))
  refine ⟨List.pairwise_append.2 ⟨a1, List.pairwise_cons.2 ⟨fun x hx => ?_, b2⟩, fun a ha b hb => ?_⟩, List.pairwise_append.2 ⟨a1, b2, hTD⟩⟩
  · have := h.hi x hx
    rw [hk, cmpK_anti]
    omega
  · rcases List.mem_cons.1 hb with rfl | hb
    · rw [hk]; exact h.lo a ha
    · exact hTD a ha b hb
theorem Parts.len (h : Parts l k T D o) : l.length = T.length + o.toList.length + D.length := by rw [h.eq]; simp; omega
theorem chk_zero (hS : okS bs = true) (hL : okL bs l = true) : chkList bs l = 0 := by unfold chkList; rw [if_pos hS, if_pos hL]
theorem rowE_keyE (h : rowE bs r = 0) : keyE bs r.key = 0 := by
  by_cases hk : keyE bs r.key = 0
  · exact hk
  · rw [rowE_key hk] at h; cases h
theorem keyE_row (bs : List BdD) (r : RowD) (h : rowE bs r = 0) (k : KeyD) (e : r.key = k) : keyE bs k = 0 := by rw [← e]; exact rowE_keyE h

/-- Put went well: what is there then -/
structure Put0 (bs : List BdD) (l : List RowD) (r : RowD) (T D : List RowD) (o : Option RowD) : Prop where
  parts : Parts l r.key T D o
  okS : okS bs = true
  okl : okL bs l = true
  row : rowE bs r = 0
  res : putR bs l r = T ++ r :: D
  okn : okL bs (T ++ r :: D) = true
  oko : okL bs (T ++ D) = true
theorem put0_of (h : putE bs l r = 0) : ∃ T D o, Put0 bs l r T D o := by
  have hc : chkList bs l = 0 := by
    by_cases hc : chkList bs l = 0
    · exact hc
    · unfold putE at h; rw [if_neg hc] at h; exact absurd h hc
  have hr : rowE bs r = 0 := by
    by_cases hr : rowE bs r = 0
    · exact hr
    · unfold putE at h; rw [if_pos hc, if_neg hr] at h; exact absurd h hr
  have hf : ¬ (atB l r.key (posK l r.key) = false ∧ l.length = 60) := fun hf => by
    unfold putE at h; rw [if_pos hc, if_pos hr, if_pos hf] at h; cases h
  obtain ⟨hS, hL⟩ := chkList_zero hc
  obtain ⟨h60, hs, hall⟩ := (okL_good bs l).1 hL
  obtain ⟨T, D, o, hp⟩ := parts_of hs r.key
  have hm : ∀ x, x ∈ T ∨ x ∈ D → x ∈ l := fun x hx => by
    rw [hp.eq]
    rcases hx with hx | hx
    · exact List.mem_append.2 (.inl hx)
    · exact List.mem_append.2 (.inr (List.mem_append.2 (.inr hx)))
  have hlen := hp.len
  have hls := hp.sorted (r := r) hs rfl
  have hle : (T ++ r :: D).length ≤ 60 := by
    cases o with
    | none =>
      have := hp.at_none
      have h6 : l.length ≠ 60 := fun e => hf ⟨this, e⟩
      simp at hlen ⊢
      omega
    | some x => simp at hlen ⊢; omega
  refine ⟨T, D, o, hp, hS, hL, hr, ?_, (okL_good _ _).2 ⟨hle, hls.1, fun x hx => ?_⟩, (okL_good _ _).2 ⟨by simp at hle ⊢; omega, hls.2, fun x hx => hall x (hm x (List.mem_append.1 hx))⟩⟩
  · unfold putR; rw [if_pos h, hp.put]
  · rcases List.mem_append.1 hx with hx | hx
    · exact hall x (hm x (.inl hx))
    · rcases List.mem_cons.1 hx with rfl | hx
      · exact hr
      · exact hall x (hm x (.inr hx))
theorem Put0.found (h : Put0 bs l r T D o) : findK (T ++ r :: D) r.key = some T.length :=
  findK_some (at_mid T D r) (eqK_iff.2 rfl) fun j x hj hx => by
    rw [List.getElem?_append_left hj] at hx
    have := h.parts.lo x (List.mem_of_getElem? hx)
    rw [eqK_cmp]
    simp
    omega
theorem take_mid (hp : Parts (T ++ r :: D) k T D (some r)) (hS : okS bs = true) (hL : okL bs (T ++ r :: D) = true) (hk : keyE bs k = 0) : takeE bs (T ++ r :: D) k = 0 ∧ takeL bs (T ++ r :: D) k = T ++ D ∧ takeX bs (T ++ r :: D) k = r := by
  have e : takeE bs (T ++ r :: D) k = 0 := by unfold takeE; rw [if_pos (chk_zero hS hL), if_pos hk, if_pos hp.at_some]
  refine ⟨e, ?_, ?_⟩
  · unfold takeL
    rw [if_pos e, hp.pos]
    have e1 : (T ++ r :: D).drop (T.length + 1) = D := by rw [← List.drop_drop]; simp
    rw [e1]
    simp
  · unfold takeX
    rw [if_pos e, hp.pos, at_mid]
    rfl
theorem Put0.take (h : Put0 bs l r T D o) : takeE bs (T ++ r :: D) r.key = 0 ∧ takeL bs (T ++ r :: D) r.key = T ++ D ∧ takeX bs (T ++ r :: D) r.key = r :=
  take_mid h.parts.mid h.okS h.okn (rowE_keyE h.row)
theorem Put0.was_none (h : Put0 bs l r T D none) : takeE bs l r.key = 4 ∧ T ++ D = l := by
  refine ⟨?_, h.parts.eq.symm⟩
  unfold takeE
  rw [if_pos (chk_zero h.okS h.okl), if_pos (rowE_keyE h.row), h.parts.at_none, if_neg (by simp)]
theorem Put0.was_some {x : RowD} (h : Put0 bs l r T D (some x)) : takeE bs l r.key = 0 ∧ takeL bs l r.key = T ++ D ∧ takeX bs l r.key = x ∧ putE bs (T ++ D) x = 0 ∧ putR bs (T ++ D) x = l := by
  have he : l = T ++ x :: D := h.parts.eq
  have hx : x.key = r.key := h.parts.at_ x rfl
  have hp : Parts (T ++ x :: D) r.key T D (some x) := by rw [← he]; exact h.parts
  have hokl := h.okl
  rw [he] at hokl
  obtain ⟨t1, t2, t3⟩ := take_mid hp h.okS hokl (rowE_keyE h.row)
  have hrow : rowE bs x = 0 := ((okL_good _ _).1 hokl).2.2 x (List.mem_append.2 (.inr (List.mem_cons_self ..)))
  have hpo : Parts (T ++ D) x.key T D none := by rw [hx]; exact h.parts.out
  have hlen : (T ++ D).length ≠ 60 := by
    have := ((okL_good _ _).1 hokl).1
    simp at this ⊢
    omega
  have e : putE bs (T ++ D) x = 0 := by
    unfold putE
    rw [if_pos (chk_zero h.okS h.oko), if_pos hrow, if_neg (fun hf => hlen hf.2)]
  rw [he]
  refine ⟨t1, t2, t3, e, ?_⟩
  unfold putR
  rw [if_pos e, hpo.put]
end
end Go.Proofs.Ytkdkncbccofpdaa
