/- Plain mathematics of RowChanges. -/
import Derived.Test.YtcnkelpnoahapaaYWit
namespace Go.Proofs.Ytcnkelpnoahapaa
open Go.RowKit

section
variable {l T D : List RowD} {k : KeyD} {o : Option RowD} {bs : List BdD} {r : RowD}
theorem gatL_append (p : RowD → Bool) (a b : List RowD) : gatL p (a ++ b) = gatL p a ++ gatL p b := List.filter_append a b
theorem gatL_all {p : RowD → Bool} {a : List RowD} (h : ∀ x ∈ a, p x = true) : gatL p a = a := List.filter_eq_self.2 h
theorem notP_of {x : RowD} (h : cmpK x.key k ≠ 0) : notP k x = true := by
  unfold notP
  rw [eqK_cmp]
  simpa using h
theorem Parts.out_eq (h : Parts l k T D o) : outL l k = T ++ D := by
  have hT : gatL (notP k) T = T := gatL_all fun x hx => notP_of (by have := h.lo x hx; omega)
  have hD : gatL (notP k) D = D := gatL_all fun x hx => notP_of (by have := h.hi x hx; omega)
  have ho : gatL (notP k) o.toList = [] := by
    cases o with
    | none => rfl
    | some y =>
      have : notP k y = false := by
        unfold notP
        rw [eqK_iff.2 (h.at_ y rfl)]
        rfl
      show List.filter (notP k) [y] = []
      rw [List.filter_cons, this]
      rfl
  unfold outL
  rw [h.eq, gatL_append, gatL_append, hT, hD, ho]
  rfl
theorem Parts.find_none (h : Parts l k T D none) : findAt l k = -1 := by
  have he : l = T ++ D := h.eq
  unfold findAt
  rw [findK_none (fun j x hx => ?_)]
  have hm := List.mem_of_getElem? hx
  rw [he] at hm
  rw [eqK_cmp]
  rcases List.mem_append.1 hm with hm | hm
  · have := h.lo x hm; simp; omega
  · have := h.hi x hm; simp; omega
theorem Parts.find_some {x : RowD} (h : Parts l k T D (some x)) : findAt l k = T.length ∧ l[T.length]? = some x := by
  have he : l = T ++ x :: D := h.eq
  have hx : l[T.length]? = some x := by rw [he]; exact at_mid T D x
  unfold findAt
  rw [findK_some hx (eqK_iff.2 (h.at_ x rfl)) (fun j y hj hy => ?_)]
  · exact ⟨rfl, hx⟩
  · rw [he, List.getElem?_append_left hj] at hy
    have := h.lo y (List.mem_of_getElem? hy)
    rw [eqK_cmp]
    simp
    omega
theorem Parts.with_eq (h : Parts l r.key T D o) : withL l r = T ++ r :: D := by
  unfold withL
  rw [h.out_eq]
  have hd : donB T r = false := by
    unfold donB
    rw [List.any_eq_false]
    intro x hx
    have := h.lo x hx
    rw [cmpK_anti]
    simp
    omega
  rw [insL_skip D hd]
  cases D with
  | nil => rfl
  | cons y D =>
    have := h.hi y (List.mem_cons_self ..)
    show T ++ (if cmpK r.key y.key < 0 then _ else _) = _
    rw [if_pos (by rw [cmpK_anti]; omega)]

/-- all that the law asks of a list that may be -/
structure Says (bs : List BdD) (l : List RowD) (r : RowD) (at_ E F : Int) : Prop where
  no : (rowE bs r = 0 ∧ at_ < 0 ∧ l.length = 60 ∧ E = 6) ∨ (¬ (rowE bs r = 0 ∧ at_ < 0 ∧ l.length = 60) ∧ E = rowE bs r)
  not : (keyE bs r.key = 0 ∧ at_ < 0 ∧ F = 4) ∨ (¬ (keyE bs r.key = 0 ∧ at_ < 0) ∧ F = keyE bs r.key)
  put : E = 0 → putR bs l r = withL l r
  take : F = 0 → takeL bs l r.key = outL l r.key ∧ 0 ≤ at_ ∧ l[at_.toNat]? = some (takeX bs l r.key)
  range : -1 ≤ at_ ∧ at_ < 1000
  tie : keyE bs r.key ≠ 0 → rowE bs r ≠ 0
theorem says_of (hc : chkList bs l = 0) : Says bs l r (findAt l r.key) (putE bs l r) (takeE bs l r.key) := by
  obtain ⟨hS, hL⟩ := chkList_zero hc
  obtain ⟨h60, hs, _⟩ := (okL_good bs l).1 hL
  obtain ⟨T, D, o, hp⟩ := parts_of hs r.key
  have hlen := hp.len
  have htie : keyE bs r.key ≠ 0 → rowE bs r ≠ 0 := fun h e => h (rowE_keyE e)
  cases o with
  | none =>
    have hf := hp.find_none
    have ha := hp.at_none
    have hE : putE bs l r = if rowE bs r = 0 then (if l.length = 60 then 6 else 0) else rowE bs r := by
      unfold putE
      rw [if_pos hc, ha]
      simp
    have hF : takeE bs l r.key = if keyE bs r.key = 0 then 4 else keyE bs r.key := by
      unfold takeE
      rw [if_pos hc, ha]
      simp
    refine ⟨?_, ?_, ?_, ?_, ⟨by omega, by omega⟩, htie⟩
    · rw [hE, hf]
      by_cases h1 : rowE bs r = 0 <;> by_cases h2 : l.length = 60
      · left; rw [if_pos h1, if_pos h2]; exact ⟨h1, by omega, h2, rfl⟩
      · right; rw [if_pos h1, if_neg h2]; exact ⟨fun h => h2 h.2.2, h1.symm⟩
      · right; rw [if_neg h1]; exact ⟨fun h => h1 h.1, rfl⟩
      · right; rw [if_neg h1]; exact ⟨fun h => h1 h.1, rfl⟩
    · rw [hF, hf]
      by_cases h1 : keyE bs r.key = 0
      · left; rw [if_pos h1]; exact ⟨h1, by omega, rfl⟩
      · right; rw [if_neg h1]; exact ⟨fun h => h1 h.1, rfl⟩
    · intro h
      unfold putR
      rw [if_pos h, hp.put, hp.with_eq]
    · intro h
      rw [hF] at h
      by_cases h1 : keyE bs r.key = 0
      · rw [if_pos h1] at h; cases h
      · rw [if_neg h1] at h; exact absurd h h1
  | some x =>
    obtain ⟨hf, hx⟩ := hp.find_some
    have ha := hp.at_some
    have hl : T.length < l.length := by rw [hlen]; simp; omega
    have hE : putE bs l r = rowE bs r := by
      unfold putE
      rw [if_pos hc, ha]
      simp
      intro h; exact h.symm
    have hF : takeE bs l r.key = keyE bs r.key := by
      unfold takeE
      rw [if_pos hc, ha]
      simp
      intro h; exact h.symm
    refine ⟨?_, ?_, ?_, ?_, ⟨by omega, by omega⟩, htie⟩
    · right; exact ⟨fun h => by omega, hE⟩
    · right; exact ⟨fun h => by omega, hF⟩
    · intro h
      unfold putR
      rw [if_pos h, hp.put, hp.with_eq]
    · intro h
      have he : l = T ++ x :: D := hp.eq
      refine ⟨?_, by omega, ?_⟩
      · unfold takeL
        rw [if_pos h, hp.pos, hp.out_eq, he]
        have e1 : (T ++ x :: D).drop (T.length + 1) = D := by rw [← List.drop_drop]; simp
        rw [e1]
        simp
      · unfold takeX
        rw [if_pos h, hp.pos, hf, show ((T.length : Int)).toNat = T.length from rfl, hx]
        rfl
theorem put_none {E : Int} (h : putE bs l r = E) (hE : E ≠ 0) : putR bs l r = [] := by unfold putR; rw [h, if_neg hE]
theorem take_none {F : Int} (h : takeE bs l k = F) (hF : F ≠ 0) : takeL bs l k = [] ∧ takeX bs l k = zeroR := by
  unfold takeL takeX; rw [h, if_neg hF, if_neg hF]; exact ⟨rfl, rfl⟩
end
end Go.Proofs.Ytcnkelpnoahapaa
