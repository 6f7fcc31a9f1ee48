/- Page: what levelling comes to: two joined, more than a page may have, cut at a place. -/
import Derived.Test.YtaiepdhmlmnggaaPFn
namespace Go.Proofs.Ytaiepdhmlmnggaa
open Go.RowKit

def RiseC (c : ContD) : Prop := c.rows.Pairwise RlR ∧ c.kids.Pairwise RlK
def ApartC (c : ContD) : Prop := (c.kids.map (·.page)).Nodup
/-- rows, kids each of which may be -/
structure NearC (c : ContD) : Prop where
  r : c.kind = 1 → (∀ r ∈ c.rows, chkRowC r = 0) ∧ c.kids = []
  k : c.kind = 2 → (∀ k ∈ c.kids, okKid k) ∧ (∀ k, c.kids[0]? = some k → k.least = zK) ∧ c.rows = []
theorem near_cutA {c : ContD} (h : NearC c) (hr : RiseC c) (ha : ApartC c) (hk : c.kind = 1 ∨ c.kind = 2) {i : Nat} (hi : c.kind = 2 → 2 ≤ i) (h4 : i ≤ 4) (hs : i ≤ sizeC c) : GoodC (cutA c i) := by
  obtain ⟨k, rows, kids⟩ := c
  rcases hk with e | e
  · have e : k = 1 := e
    subst e
    obtain ⟨h2, rfl⟩ : (∀ r ∈ rows, chkRowC r = 0) ∧ kids = [] := h.r rfl
    have h3 : rows.Pairwise RlR := hr.1
    show GoodC (⟨1, rows.take i, []⟩ : ContD)
    refine (good1 (k := 1) rfl).2 ⟨goodR_iff.2 ⟨?_, fun r hr => h2 r (List.mem_of_mem_take hr), h3.sublist (List.take_sublist _ _)⟩, rfl⟩
    rw [List.length_take]; omega
  · have e : k = 2 := e
    subst e
    obtain ⟨h3, h4', rfl⟩ : (∀ k ∈ kids, okKid k) ∧ (∀ k, kids[0]? = some k → k.least = zK) ∧ rows = [] := h.k rfl
    have h5 : kids.Pairwise RlK := hr.2
    have h6 : (kids.map (·.page)).Nodup := ha
    have hi2 := hi rfl
    have hs' : i ≤ kids.length := by simpa [sizeC] using hs
    show GoodC (⟨2, [], kids.take i⟩ : ContD)
    refine (good2 (k := 2) rfl).2 ⟨goodK_iff.2 ⟨?_, ?_, fun r hr => h3 r (List.mem_of_mem_take hr), fun k hk => h4' k ?_, h5.sublist (List.take_sublist _ _), ?_⟩, rfl⟩
    · rw [List.length_take]; omega
    · rw [List.length_take]; omega
    · rwa [List.getElem?_take_of_lt (by omega)] at hk
    · rw [List.map_take]; exact h6.sublist (List.take_sublist _ _)
theorem near_cutB {c : ContD} (h : NearC c) (hr : RiseC c) (ha : ApartC c) (hk : c.kind = 1 ∨ c.kind = 2) (ok : ∀ k ∈ c.kids, KidOk k) {i : Nat} (hs : c.kind = 2 → i + 2 ≤ sizeC c) (h4 : sizeC c ≤ i + 4) : GoodC (cutB c i) := by
  obtain ⟨k, rows, kids⟩ := c
  rcases hk with e | e
  · have e : k = 1 := e
    subst e
    obtain ⟨h2, rfl⟩ : (∀ r ∈ rows, chkRowC r = 0) ∧ kids = [] := h.r rfl
    have h3 : rows.Pairwise RlR := hr.1
    have h4' : rows.length ≤ i + 4 := by simpa [sizeC] using h4
    show GoodC (⟨1, rows.drop i, []⟩ : ContD)
    refine (good1 (k := 1) rfl).2 ⟨goodR_iff.2 ⟨?_, fun r hr => h2 r (List.mem_of_mem_drop hr), h3.sublist (List.drop_sublist _ _)⟩, rfl⟩
    rw [List.length_drop]; omega
  · have e : k = 2 := e
    subst e
    obtain ⟨h3, h4', rfl⟩ : (∀ k ∈ kids, okKid k) ∧ (∀ k, kids[0]? = some k → k.least = zK) ∧ rows = [] := h.k rfl
    have h5 : kids.Pairwise RlK := hr.2
    have h6 : (kids.map (·.page)).Nodup := ha
    have ok : ∀ x ∈ kids, KidOk x := ok
    have hs2 := hs rfl
    have hs' : i + 2 ≤ kids.length := by simpa [sizeC] using hs2
    have h4' : kids.length ≤ i + 4 := by simpa [sizeC] using h4
    show GoodC (⟨2, [], leastAt zK (kids.drop i)⟩ : ContD)
    have hd : ∀ x ∈ kids.drop i, okKid x ∧ KidOk x := fun x hx => ⟨h3 x (List.mem_of_mem_drop hx), ok x (List.mem_of_mem_drop hx)⟩
    have h5' := h5.sublist (List.drop_sublist i kids)
    have h6' : ((kids.drop i).map (·.page)).Nodup := by rw [List.map_drop]; exact h6.sublist (List.drop_sublist _ _)
    have hl : (kids.drop i).length = kids.length - i := List.length_drop ..
    generalize kids.drop i = D at hd h5' h6' hl
    refine (good2 (k := 2) rfl).2 ⟨goodK_iff.2 ⟨?_, ?_, ?_, ?_, least_rise h5' (fun k hk => zK_le (hd k (List.mem_of_getElem? hk)).1.1 (hd k (List.mem_of_getElem? hk)).2.key.id.1), ?_⟩, rfl⟩
    · rw [leastAt_len]; omega
    · rw [leastAt_len]; omega
    · intro x hx
      match D, hd, hx with
      | y :: r, hd, hx =>
        rcases List.mem_cons.1 hx with rfl | hx
        · exact ⟨(by decide : tabB 0 = true), (hd y (List.mem_cons_self ..)).1.2⟩
        · exact (hd x (List.mem_cons_of_mem _ hx)).1
    · intro x hx
      match D, hx with
      | y :: r, hx => cases hx; rfl
    · rw [leastAt_page]; exact h6'
theorem joinC_kind {a b : ContD} {s : KeyD} (hk : a.kind = 1 ∨ a.kind = 2) : (joinC a b s).kind = a.kind := by
  unfold joinC
  rcases hk with e | e
  · rw [if_pos e, e]
  · rw [if_neg (by omega), e]
theorem tab_mid {a s b : KeyD} (ha : tabB a.t = true) (hb : tabB b.t = true) (h1 : cmpK a s < 0) (h2 : cmpK s b < 0) : tabB s.t = true := by
  unfold tabB at *
  rw [Bool.and_eq_true, decide_eq_true_eq, decide_eq_true_eq] at *
  have h3 := cmpK_cases a s
  have h4 := cmpK_cases s b
  omega
theorem join_near {a b : ContD} {s : KeyD} (hga : GoodC a) (hgb : GoodC b) (hk : a.kind = 1 ∨ a.kind = 2) (hkk : a.kind = b.kind) (hr : RiseC (joinC a b s)) : NearC (joinC a b s) := by
  rcases hk with e | e
  · have eb : b.kind = 1 := by rw [← hkk]; exact e
    obtain ⟨ga, _⟩ := good_leaf hga e
    obtain ⟨gb, _⟩ := good_leaf hgb eb
    have ej : joinC a b s = ⟨1, a.rows ++ b.rows, []⟩ := if_pos e
    rw [ej]
    refine ⟨fun _ => ⟨fun r hr => ?_, rfl⟩, fun h => absurd h (by show ¬ (1 : Int) = 2; decide)⟩
    rcases List.mem_append.1 hr with h | h
    · exact (goodR_iff.1 ga).2.1 r h
    · exact (goodR_iff.1 gb).2.1 r h
  · have eb : b.kind = 2 := by rw [← hkk]; exact e
    obtain ⟨ga, _⟩ := good_inner hga e
    obtain ⟨gb, _⟩ := good_inner hgb eb
    have ej : joinC a b s = ⟨2, [], a.kids ++ leastAt s b.kids⟩ := if_neg (by omega)
    rw [ej] at hr ⊢
    have hp : (a.kids ++ leastAt s b.kids).Pairwise RlK := hr.2
    obtain ⟨a1, a2, a3, a4, a5, a6⟩ := goodK_iff.1 ga
    obtain ⟨b1, b2, b3, b4, b5, b6⟩ := goodK_iff.1 gb
    refine ⟨fun h => absurd h (by show ¬ (2 : Int) = 1; decide), fun _ => ⟨fun k hk => ?_, fun k hk => ?_, rfl⟩⟩
    · rcases List.mem_append.1 hk with h | h
      · exact a3 k h
      · match hbk : b.kids, b1, h with
        | x :: y :: r, _, h =>
          rw [hbk] at hp b3
          rcases List.mem_cons.1 h with rfl | h
          · obtain ⟨z, hz⟩ : ∃ z, a.kids[0]? = some z := ⟨_, List.getElem?_eq_getElem (by omega)⟩
            have hzm := List.mem_of_getElem? hz
            have h1 : cmpK z.least s < 0 := (List.pairwise_append.1 hp).2.2 z hzm ⟨s, x.page⟩ (List.mem_cons_self ..)
            have h2 : cmpK s y.least < 0 := (List.pairwise_cons.1 (List.pairwise_append.1 hp).2.1).1 y (List.mem_cons_self ..)
            exact ⟨tab_mid (a3 z hzm).1 (b3 y (List.mem_cons_of_mem _ (List.mem_cons_self ..))).1 h1 h2, (b3 x (List.mem_cons_self ..)).2⟩
          · exact b3 k (List.mem_cons_of_mem _ h)
    · refine a4 k ?_
      have hk : (a.kids ++ leastAt s b.kids)[0]? = some k := hk
      rwa [List.getElem?_append_left (by omega)] at hk
theorem join_size {a b : ContD} {s : KeyD} (hga : GoodC a) (hgb : GoodC b) (hk : a.kind = 1 ∨ a.kind = 2) (hkk : a.kind = b.kind) : sizeC (joinC a b s) = sizeC a + sizeC b := by
  rcases hk with e | e
  · have eb : b.kind = 1 := by rw [← hkk]; exact e
    have ej : joinC a b s = ⟨1, a.rows ++ b.rows, []⟩ := if_pos e
    rw [ej]
    simp only [sizeC, (good_leaf hga e).2, (good_leaf hgb eb).2, List.length_append, List.length_nil]
    omega
  · have eb : b.kind = 2 := by rw [← hkk]; exact e
    have ej : joinC a b s = ⟨2, [], a.kids ++ leastAt s b.kids⟩ := if_neg (by omega)
    rw [ej]
    simp only [sizeC, (good_inner hga e).2, (good_inner hgb eb).2, List.length_append, List.length_nil, leastAt_len]
    omega
theorem join_ok {a b : ContD} {s : KeyD} (ha : ∀ k ∈ a.kids, KidOk k) (hb : ∀ k ∈ b.kids, KidOk k) (hs : KeyOk s) : ∀ k ∈ (joinC a b s).kids, KidOk k := by
  unfold joinC
  by_cases e : a.kind = 1
  · rw [if_pos e]; intro k hk; cases hk
  · rw [if_neg e]
    intro k hk
    rcases List.mem_append.1 hk with h | h
    · exact ha k h
    · match hbk : b.kids, h with
      | x :: r, h =>
        rw [hbk] at hb
        rcases List.mem_cons.1 h with rfl | h
        · exact ⟨hs, (hb x (List.mem_cons_self ..)).page⟩
        · exact hb k (List.mem_cons_of_mem _ h)
/-- where two are cut that are levelled -/
def lvAt (a b : ContD) : Nat := if sizeC a < sizeC b then sizeC a + 1 else sizeC a - 1
def LvOk (a b : ContD) (s : KeyD) : Prop := (a.kind ≠ 0 ∧ a.kind = b.kind) ∧ sizeC a ≠ sizeC b ∧ lvAt a b < sizeC (joinC a b s) ∧ RiseC (joinC a b s) ∧ ApartC (joinC a b s)
def LevelR (a b : ContD) (s : KeyD) (p q : ContD) (n : KeyD) (x : Int) : Prop := (x = 160 ∧ ¬ (GoodC a ∧ GoodC b) ∧ p = zeroC ∧ q = zeroC ∧ n = zK) ∨ ((GoodC a ∧ GoodC b) ∧ ((¬ LvOk a b s ∧ x = 2 ∧ p = zeroC ∧ q = zeroC ∧ n = zK) ∨ (LvOk a b s ∧ x = 0 ∧ p = cutA (joinC a b s) (lvAt a b) ∧ q = cutB (joinC a b s) (lvAt a b) ∧ n = cutS (joinC a b s) (lvAt a b))))
theorem kind_in {c : ContD} (h : GoodC c) (h0 : c.kind ≠ 0) : c.kind = 1 ∨ c.kind = 2 := by rcases good_kind h with e | e | e <;> omega
theorem few_in {c : ContD} (h : GoodC c) (h0 : c.kind = 2) : 2 ≤ sizeC c := by
  have h1 := (good_inner h h0).1.few
  unfold sizeC
  omega
theorem cutA_size {c : ContD} (hk : c.kind = 1 ∨ c.kind = 2) (h1 : c.kind = 1 → c.kids = []) (h2 : c.kind = 2 → c.rows = []) {i : Nat} (hi : i ≤ sizeC c) : sizeC (cutA c i) = i ∧ sizeC (cutB c i) = sizeC c - i := by
  unfold cutA cutB
  rcases hk with e | e
  · rw [if_pos e, if_pos e]
    have h3 := h1 e
    unfold sizeC at *
    rw [h3] at hi ⊢
    simp only [List.length_take, List.length_drop, List.length_nil] at *
    omega
  · rw [if_neg (by omega), if_neg (by omega)]
    have h3 := h2 e
    unfold sizeC at *
    rw [h3] at hi ⊢
    simp only [List.length_take, List.length_drop, List.length_nil, leastAt_len] at *
    omega
/-- both parts of levelled pages may be -/
theorem level_fine {a b : ContD} {s : KeyD} (hga : GoodC a) (hgb : GoodC b) (h : LvOk a b s) (ha : ∀ k ∈ a.kids, KidOk k) (hb : ∀ k ∈ b.kids, KidOk k) (hs : KeyOk s) :
    GoodC (cutA (joinC a b s) (lvAt a b)) ∧ GoodC (cutB (joinC a b s) (lvAt a b)) ∧ sizeC (cutA (joinC a b s) (lvAt a b)) = lvAt a b ∧ sizeC (cutB (joinC a b s) (lvAt a b)) = sizeC a + sizeC b - lvAt a b ∧ lvAt a b < sizeC a + sizeC b := by
  obtain ⟨⟨h0, hkk⟩, hne, hlt, hr, hap⟩ := h
  have hk := kind_in hga h0
  have hn := join_near hga hgb hk hkk hr
  have hz := join_size (s := s) hga hgb hk hkk
  have hj := joinC_kind (b := b) (s := s) hk
  have hkj : (joinC a b s).kind = 1 ∨ (joinC a b s).kind = 2 := by rw [hj]; exact hk
  have a4 := good_size hga
  have b4 := good_size hgb
  have hc := cutA_size hkj (fun e => (hn.r e).2) (fun e => (hn.k e).2.2) (i := lvAt a b) (by omega)
  rw [hz] at hc hlt
  have hl : lvAt a b = sizeC a + 1 ∧ sizeC a < sizeC b ∨ lvAt a b = sizeC a - 1 ∧ sizeC b < sizeC a := by
    unfold lvAt
    by_cases e : sizeC a < sizeC b
    · rw [if_pos e]; exact .inl ⟨rfl, e⟩
    · rw [if_neg e]; exact .inr ⟨rfl, by omega⟩
  refine ⟨near_cutA hn hr hap hkj (fun e => ?_) (by omega) (by omega), near_cutB hn hr hap hkj (join_ok ha hb hs) (fun e => ?_) (by omega), hc.1, hc.2, hlt⟩
  · have e2 : a.kind = 2 := by rw [← hj]; exact e
    have := few_in hga e2
    have := few_in hgb (by omega)
    omega
  · have e2 : a.kind = 2 := by rw [← hj]; exact e
    have := few_in hga e2
    have := few_in hgb (by omega)
    omega
end Go.Proofs.Ytaiepdhmlmnggaa
