/- Pages: which may be, put plainly; cut in two, joined, and what follows. -/
import Derived.Test.YtaiepdhmlmnggaaKSame
namespace Go.Proofs.Ytaiepdhmlmnggaa
open Go.RowKit

theorem rel_chain {α : Type} {R : α → α → Prop} (tr : ∀ a b c, R a b → R b c → R a c) {L : List α} (h : ∀ (i : Nat) a b, L[i]? = some a → L[i + 1]? = some b → R a b) : L.Pairwise R := by
  rw [List.pairwise_iff_getElem]
  intro i j hi hj hij
  obtain ⟨d, rfl⟩ : ∃ d, j = i + 1 + d := ⟨j - (i + 1), by omega⟩
  clear hij
  induction d with
  | zero => exact h i _ _ (List.getElem?_eq_getElem hi) (List.getElem?_eq_getElem (by omega))
  | succ d ih => exact tr _ _ _ (ih (by omega)) (h (i + 1 + d) _ _ (List.getElem?_eq_getElem (by omega)) (List.getElem?_eq_getElem (by omega)))
theorem chain_rel {α : Type} {R : α → α → Prop} {L : List α} (h : L.Pairwise R) {i j : Nat} {a b : α} (hij : i < j) (ha : L[i]? = some a) (hb : L[j]? = some b) : R a b := by
  obtain ⟨la, rfl⟩ := List.getElem?_eq_some_iff.1 ha
  obtain ⟨lb, rfl⟩ := List.getElem?_eq_some_iff.1 hb
  exact (List.pairwise_iff_getElem.1 h) i j la lb hij
def RlR (a b : RowD) : Prop := cmpK a.key b.key < 0
def RlK (a b : KidD) : Prop := cmpK a.least b.least < 0
theorem RlR.tr (a b c : RowD) (h1 : RlR a b) (h2 : RlR b c) : RlR a c := cmpK_trans' h1 h2
theorem RlK.tr (a b c : KidD) (h1 : RlK a b) (h2 : RlK b c) : RlK a c := cmpK_trans' h1 h2
theorem last_take {α : Type} {L : List α} {i : Nat} {x : α} (h : L[i]? = some x) : (L.take i)[(L.take i).length - 1]? = if i = 0 then none else L[i - 1]? := by
  have hl := (List.getElem?_eq_some_iff.1 h).1
  have e : (L.take i).length = i := by rw [List.length_take]; omega
  rw [e]
  by_cases hi : i = 0
  · subst hi; simp
  · rw [if_neg hi, List.getElem?_take_of_lt (by omega)]
theorem goodR_iff {L : List RowD} : GoodR L ↔ L.length ≤ 4 ∧ (∀ r ∈ L, chkRowC r = 0) ∧ L.Pairwise RlR := by
  have key : ∀ (i : Nat) r, L[i]? = some r → (fitsR (L.take i) r = true ↔ chkRowC r = 0 ∧ ∀ p, i ≠ 0 → L[i - 1]? = some p → cmpK p.key r.key < 0) := fun i r hi => by
    unfold fitsR lastR
    rw [Bool.and_eq_true, decide_eq_true_eq, last_take hi]
    by_cases h0 : i = 0
    · rw [if_pos h0]; simp [h0]
    · rw [if_neg h0]
      obtain ⟨p, hp⟩ : ∃ p, L[i - 1]? = some p := ⟨_, List.getElem?_eq_getElem (by have := (List.getElem?_eq_some_iff.1 hi).1; omega)⟩
      rw [hp]
      simp only [decide_eq_true_eq]
      exact ⟨fun h => ⟨h.1, fun q _ e => by cases e; exact h.2⟩, fun h => ⟨h.1, h.2 p h0 rfl⟩⟩
  constructor
  · intro h
    refine ⟨h.len, fun r hr => ?_, rel_chain RlR.tr fun i a b ha hb => ((key (i + 1) b hb).1 (h.fits _ _ hb)).2 a (by omega) ha⟩
    obtain ⟨i, hi⟩ := List.mem_iff_getElem?.1 hr
    exact ((key i r hi).1 (h.fits i r hi)).1
  · rintro ⟨h1, h2, h3⟩
    exact ⟨h1, fun i r hi => (key i r hi).2 ⟨h2 r (List.mem_of_getElem? hi), fun p h0 hp => chain_rel h3 (show i - 1 < i by omega) hp hi⟩⟩
def okKid (k : KidD) : Prop := tabB k.least.t = true ∧ 1 ≤ k.page ∧ k.page < 64
def zK : KeyD := ⟨0, 0⟩
theorem hasP_iff {L : List KidD} {p : Int} : hasP L p = false ↔ ∀ k ∈ L, k.page ≠ p := by
  unfold hasP
  rw [List.any_eq_false]
  exact ⟨fun h k hk e => h k hk (by simpa using e), fun h k hk e => h k hk (by simpa using e)⟩
theorem goodK_iff {L : List KidD} : GoodK L ↔ 2 ≤ L.length ∧ L.length ≤ 4 ∧ (∀ k ∈ L, okKid k) ∧ (∀ k, L[0]? = some k → k.least = zK) ∧ L.Pairwise RlK ∧ (L.map (·.page)).Nodup := by
  have key : ∀ (i : Nat) k, L[i]? = some k → (fitsK (L.take i) k = true ↔ okKid k ∧ (i = 0 → k.least = zK) ∧ (∀ p, i ≠ 0 → L[i - 1]? = some p → cmpK p.least k.least < 0 ∧ hasP (L.take i) k.page = false)) := fun i k hi => by
    unfold fitsK lastK okKid
    rw [Bool.and_eq_true, Bool.and_eq_true, Bool.and_eq_true, decide_eq_true_eq, decide_eq_true_eq, last_take hi]
    by_cases h0 : i = 0
    · rw [if_pos h0]
      simp only [eqK_iff]
      exact ⟨fun h => ⟨h.1, fun _ => h.2, fun _ h1 => absurd h0 h1⟩, fun h => ⟨h.1, h.2.1 h0⟩⟩
    · rw [if_neg h0]
      obtain ⟨p, hp⟩ : ∃ p, L[i - 1]? = some p := ⟨_, List.getElem?_eq_getElem (by have := (List.getElem?_eq_some_iff.1 hi).1; omega)⟩
      rw [hp]
      simp only [Bool.and_eq_true, decide_eq_true_eq, Bool.not_eq_true']
      exact ⟨fun h => ⟨h.1, fun e => absurd e h0, fun q _ e => by cases e; exact h.2⟩, fun h => ⟨h.1, h.2.2 p h0 rfl⟩⟩
  constructor
  · intro h
    refine ⟨h.few, h.len, fun k hk => ?_, fun k hk => ((key 0 k hk).1 (h.fits 0 k hk)).2.1 rfl, rel_chain RlK.tr fun i a b ha hb => (((key (i + 1) b hb).1 (h.fits _ _ hb)).2.2 a (by omega) ha).1, ?_⟩
    · obtain ⟨i, hi⟩ := List.mem_iff_getElem?.1 hk
      exact ((key i k hi).1 (h.fits i k hi)).1
    · unfold List.Nodup
      rw [List.pairwise_map, List.pairwise_iff_getElem]
      intro i j hi hj hij
      have hb : L[j]? = some L[j] := List.getElem?_eq_getElem hj
      obtain ⟨p, hp⟩ : ∃ p, L[j - 1]? = some p := ⟨_, List.getElem?_eq_getElem (by omega)⟩
      have h1 := (((key j _ hb).1 (h.fits _ _ hb)).2.2 p (by omega) hp).2
      refine hasP_iff.1 h1 L[i] ?_
      exact List.mem_iff_getElem?.2 ⟨i, by rw [List.getElem?_take_of_lt hij]; exact List.getElem?_eq_getElem hi⟩
  · rintro ⟨h1, h2, h3, h4, h5, h6⟩
    refine ⟨h1, h2, fun i k hi => (key i k hi).2 ⟨h3 k (List.mem_of_getElem? hi), fun e => h4 k (by rw [e] at hi; exact hi), fun p h0 hp => ⟨chain_rel h5 (show i - 1 < i by omega) hp hi, hasP_iff.2 fun x hx e => ?_⟩⟩⟩
    unfold List.Nodup at h6
    rw [List.pairwise_map, List.pairwise_iff_getElem] at h6
    obtain ⟨j, hj⟩ := List.mem_iff_getElem?.1 hx
    have hji : j < i := by
      have := (List.getElem?_eq_some_iff.1 hj).1
      rw [List.length_take] at this
      omega
    rw [List.getElem?_take_of_lt hji] at hj
    obtain ⟨lj, rfl⟩ := List.getElem?_eq_some_iff.1 hj
    obtain ⟨li, rfl⟩ := List.getElem?_eq_some_iff.1 hi
    exact h6 j i lj li hji e

def leastAt (s : KeyD) : List KidD → List KidD
  | [] => []
  | x :: r => ⟨s, x.page⟩ :: r
theorem leastAt_len (s : KeyD) : ∀ L : List KidD, (leastAt s L).length = L.length
  | [] => rfl
  | _ :: _ => rfl
theorem leastAt_page (s : KeyD) : ∀ L : List KidD, (leastAt s L).map (·.page) = L.map (·.page)
  | [] => rfl
  | _ :: _ => rfl
theorem leastAt_two (s t : KeyD) : ∀ L : List KidD, leastAt s (leastAt t L) = leastAt s L
  | [] => rfl
  | _ :: _ => rfl
theorem leastAt_own {s : KeyD} : ∀ {L : List KidD}, (∀ k, L[0]? = some k → k.least = s) → leastAt s L = L
  | [], _ => rfl
  | x :: r, h => by
    have h0 : x.least = s := h x rfl
    show (⟨s, x.page⟩ : KidD) :: r = x :: r
    rw [← h0]
def sizeC (c : ContD) : Nat := c.rows.length + c.kids.length
def cutA (c : ContD) (i : Nat) : ContD := if c.kind = 1 then ⟨1, c.rows.take i, []⟩ else ⟨2, [], c.kids.take i⟩
def cutB (c : ContD) (i : Nat) : ContD := if c.kind = 1 then ⟨1, c.rows.drop i, []⟩ else ⟨2, [], leastAt zK (c.kids.drop i)⟩
def cutS (c : ContD) (i : Nat) : KeyD := if c.kind = 1 then ((c.rows[i]?).map (·.key)).getD zK else ((c.kids[i]?).map (·.least)).getD zK
def joinC (a b : ContD) (s : KeyD) : ContD := if a.kind = 1 then ⟨1, a.rows ++ b.rows, []⟩ else ⟨2, [], a.kids ++ leastAt s b.kids⟩
theorem good_leaf {c : ContD} (h : GoodC c) (hk : c.kind = 1) : GoodR c.rows ∧ c.kids = [] := by
  obtain ⟨k, r, d⟩ := c
  exact (good1 hk).1 h
theorem good_inner {c : ContD} (h : GoodC c) (hk : c.kind = 2) : GoodK c.kids ∧ c.rows = [] := by
  obtain ⟨k, r, d⟩ := c
  exact (good2 hk).1 h
theorem good_free {c : ContD} (h : GoodC c) (hk : c.kind = 0) : c.rows = [] ∧ c.kids = [] := by
  obtain ⟨k, r, d⟩ := c
  exact (good0 hk).1 h
theorem good_kind {c : ContD} (h : GoodC c) : c.kind = 0 ∨ c.kind = 1 ∨ c.kind = 2 := by
  rcases h with ⟨h, _⟩ | ⟨h, _⟩ | ⟨h, _⟩
  · exact .inl h
  · exact .inr (.inl h)
  · exact .inr (.inr h)
theorem join_cut {c : ContD} (h : GoodC c) (hk : c.kind ≠ 0) (i : Nat) : joinC (cutA c i) (cutB c i) (cutS c i) = c := by
  obtain ⟨k, rows, kids⟩ := c
  rcases good_kind h with e | e | e
  · exact absurd e hk
  · have h1 : GoodR rows ∧ kids = [] := good_leaf h e
    have e : k = 1 := e
    obtain ⟨_, rfl⟩ := h1
    subst e
    simp [joinC, cutA, cutB]
  · have h1 : GoodK kids ∧ rows = [] := good_inner h e
    have e : k = 2 := e
    obtain ⟨_, rfl⟩ := h1
    subst e
    show (⟨2, [], kids.take i ++ leastAt (((kids[i]?).map (·.least)).getD zK) (leastAt zK (kids.drop i))⟩ : ContD) = ⟨2, [], kids⟩
    rw [leastAt_two, leastAt_own (L := kids.drop i), List.take_append_drop]
    intro k hk0
    rw [List.getElem?_drop] at hk0
    rw [show i + 0 = i from rfl] at hk0
    rw [hk0]
    rfl
theorem good_cutA {c : ContD} (h : GoodC c) (hk : c.kind ≠ 0) {i : Nat} (hi : 2 ≤ i) (hs : i ≤ sizeC c) : GoodC (cutA c i) := by
  obtain ⟨k, rows, kids⟩ := c
  rcases good_kind h with e | e | e
  · exact absurd e hk
  · have h1 : GoodR rows ∧ kids = [] := good_leaf h e
    have e : k = 1 := e
    obtain ⟨h1, rfl⟩ := h1
    subst e
    obtain ⟨h1, h2, h3⟩ := goodR_iff.1 h1
    show GoodC (⟨1, rows.take i, []⟩ : ContD)
    refine (good1 (k := 1) rfl).2 ⟨goodR_iff.2 ⟨?_, fun r hr => h2 r (List.mem_of_mem_take hr), h3.sublist (List.take_sublist _ _)⟩, rfl⟩
    rw [List.length_take]; omega
  · have h1 : GoodK kids ∧ rows = [] := good_inner h e
    have e : k = 2 := e
    obtain ⟨h1, rfl⟩ := h1
    subst e
    obtain ⟨h1, h2, h3, h4, h5, h6⟩ := goodK_iff.1 h1
    have hs' : i ≤ kids.length := by simpa [sizeC] using hs
    show GoodC (⟨2, [], kids.take i⟩ : ContD)
    refine (good2 (k := 2) rfl).2 ⟨goodK_iff.2 ⟨?_, ?_, fun r hr => h3 r (List.mem_of_mem_take hr), fun k hk => h4 k ?_, h5.sublist (List.take_sublist _ _), ?_⟩, rfl⟩
    · rw [List.length_take]; omega
    · rw [List.length_take]; omega
    · rwa [List.getElem?_take_of_lt (by omega)] at hk
    · rw [List.map_take]; exact h6.sublist (List.take_sublist _ _)
theorem least_rise {s : KeyD} : ∀ {L : List KidD}, L.Pairwise RlK → (∀ k, L[0]? = some k → cmpK s k.least ≤ 0) → (leastAt s L).Pairwise RlK
  | [], _, _ => List.Pairwise.nil
  | x :: r, h, h0 => by
    obtain ⟨h1, h2⟩ := List.pairwise_cons.1 h
    refine List.pairwise_cons.2 ⟨fun y hy => ?_, h2⟩
    have a := h0 x rfl
    have b := h1 y hy
    rcases Int.lt_or_eq_of_le a with c | c
    · exact cmpK_trans' c b
    · rw [cmpK_zero.1 c]; exact b
theorem zK_le {k : KeyD} (ht : tabB k.t = true) (hi : 0 ≤ k.id) : cmpK zK k ≤ 0 := by
  unfold tabB at ht
  rw [Bool.and_eq_true, decide_eq_true_eq, decide_eq_true_eq] at ht
  have h := cmpK_cases zK k
  simp only [zK] at h ⊢
  omega
theorem good_cutB {c : ContD} (h : GoodC c) (hk : c.kind ≠ 0) (ok : ∀ k ∈ c.kids, KidOk k) {i : Nat} (hi : 0 < i) (hs : i + 2 ≤ sizeC c) : GoodC (cutB c i) := by
  obtain ⟨k, rows, kids⟩ := c
  rcases good_kind h with e | e | e
  · exact absurd e hk
  · have h1 : GoodR rows ∧ kids = [] := good_leaf h e
    have e : k = 1 := e
    obtain ⟨h1, rfl⟩ := h1
    subst e
    obtain ⟨h1, h2, h3⟩ := goodR_iff.1 h1
    show GoodC (⟨1, rows.drop i, []⟩ : ContD)
    refine (good1 (k := 1) rfl).2 ⟨goodR_iff.2 ⟨?_, fun r hr => h2 r (List.mem_of_mem_drop hr), h3.sublist (List.drop_sublist _ _)⟩, rfl⟩
    rw [List.length_drop]; omega
  · have h1 : GoodK kids ∧ rows = [] := good_inner h e
    have e : k = 2 := e
    have ok : ∀ x ∈ kids, KidOk x := ok
    obtain ⟨h1, rfl⟩ := h1
    subst e
    obtain ⟨h1, h2, h3, h4, h5, h6⟩ := goodK_iff.1 h1
    have hs' : i + 2 ≤ kids.length := by simpa [sizeC] using hs
    show GoodC (⟨2, [], leastAt zK (kids.drop i)⟩ : ContD)
    have hd : ∀ x ∈ kids.drop i, okKid x ∧ KidOk x := fun x hx => ⟨h3 x (List.mem_of_mem_drop hx), ok x (List.mem_of_mem_drop hx)⟩
    have h5' := h5.sublist (List.drop_sublist i kids)
    have h6' : ((kids.drop i).map (·.page)).Nodup := by rw [List.map_drop]; exact h6.sublist (List.drop_sublist _ _)
    have hl : (kids.drop i).length = kids.length - i := List.length_drop ..
    generalize kids.drop i = D at hd h5' h6' hl
    refine (good2 (k := 2) rfl).2 ⟨goodK_iff.2 ⟨?_, ?_, ?_, ?_, least_rise h5' (fun k hk => zK_le (hd k (List.mem_of_getElem? hk)).1.1 (hd k (List.mem_of_getElem? hk)).2.key.id.1), ?_⟩, rfl⟩
    · rw [leastAt_len]; omega
    · rw [leastAt_len]; omega
    · intro x hx
      match D, hd, hx with
      | y :: r, hd, hx =>
        rcases List.mem_cons.1 hx with rfl | hx
        · exact ⟨(by decide : tabB 0 = true), (hd y (List.mem_cons_self ..)).1.2⟩
        · exact (hd x (List.mem_cons_of_mem _ hx)).1
    · intro x hx
      match D, hx with
      | y :: r, hx => cases hx; rfl
    · rw [leastAt_page]; exact h6'
end Go.Proofs.Ytaiepdhmlmnggaa
