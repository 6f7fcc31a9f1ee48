/- Plain mathematics of what is read: a strict front of what was laid is too short. -/
import Derived.Test.YtekdkeoeijfhdaaKOpn
namespace Go.Proofs.Ytekdkeoeijfhdaa
open Go.RowKit

/-- s reads a front of what t reads: m is lacking; both go on -/
def Alv (m : List UInt8) (s t : St) : Prop := s.e = 0 ∧ t = ⟨s.l ++ m, 0⟩
def Cut (m : List UInt8) (s t : St) : Prop := Alv m s t ∨ s.e = 7
theorem dead_next {s : St} (k : Int) (h : s.e = 7) : (s.next k).e = 7 ∧ s.num k = 0 := by
  have g : gOk k s.l s.e = false := by unfold gOk; rw [h]; rfl
  unfold St.next St.num nextE numV
  simp only [g]
  rw [h]
  exact ⟨rfl, rfl⟩
theorem cut_next {m : List UInt8} {s t : St} {k : Int} (hk : 0 ≤ k) (h : Cut m s t) : (Alv m (s.next k) (t.next k) ∧ s.num k = t.num k ∧ s.raw k = t.raw k) ∨ ((s.next k).e = 7 ∧ s.num k = 0) := by
  rcases h with ⟨he, rfl⟩ | h
  · by_cases hl : k ≤ s.l.length
    · have hn : k.toNat ≤ s.l.length := by omega
      have g1 : gOk k s.l s.e = true := by unfold gOk; rw [he]; simp; omega
      have g2 : gOk k (s.l ++ m) 0 = true := by unfold gOk; simp; omega
      refine .inl ?_
      unfold Alv St.next St.num St.raw nextL nextE numV rawL
      simp only [g1, g2, if_true]
      rw [List.drop_append_of_le_length hn, List.take_append_of_le_length hn]
      simp
    · have g1 : gOk k s.l s.e = false := by unfold gOk; rw [he]; simp; omega
      refine .inr ?_
      unfold St.next St.num nextE numV
      simp only [g1]
      rw [he]
      refine ⟨?_, rfl⟩
      show (if (false : Bool) = true then (0 : Int) else if (0 : Int) = 0 then (if k < 0 then 2 else 7) else 0) = 7
      rw [if_neg (by decide), if_pos rfl, if_neg (by omega)]
  · exact .inr (dead_next k h)
theorem cut_key {m : List UInt8} {s t : St} (h : Cut m s t) : (Alv m (keyS s) (keyS t) ∧ keyD s = keyD t) ∨ ((keyS s).e = 7 ∧ ((keyD s).t = (keyD t).t ∨ (keyD s).t = 0)) := by
  rcases cut_next (k := 1) (by decide) h with ⟨h1, h2, _⟩ | ⟨h1, h2⟩
  · rcases cut_next (k := 2) (by decide) (.inl h1) with ⟨h3, h4, _⟩ | ⟨h3, _⟩
    · refine .inl ⟨h3, ?_⟩
      unfold keyD
      rw [h2, h4]
    · exact .inr ⟨h3, .inl h2⟩
  · exact .inr ⟨(dead_next 2 h1).1, .inr h2⟩
theorem row_cut {m : List UInt8} {s t t' : St} {r : RowD} (h : Cut m s t) (ht : rowP t = (r, 0, t')) : (∃ s', rowP s = (r, 0, s') ∧ Alv m s' t') ∨ (rowP s).2.1 = 7 := by
  by_cases a1 : tabB (keyD t).t = true
  · by_cases a2 : lenS t ≤ 8
    · by_cases a3 : ((lenT t).next (lenS t)).e = 0
      · have hr := ht
        unfold rowP at hr
        rw [if_pos a1, if_pos a2, if_pos a3] at hr
        simp only [Prod.mk.injEq] at hr
        obtain ⟨hr1, _, hr3⟩ := hr
        have b1 : tabB (keyD s).t = true := by
          rcases cut_key h with ⟨_, h2⟩ | ⟨_, h2 | h2⟩
          · rw [h2]; exact a1
          · rw [h2]; exact a1
          · rw [h2]; rfl
        have hL : (Alv m (lenT s) (lenT t) ∧ keyD s = keyD t ∧ valS s = valS t ∧ lenS s = lenS t) ∨ ((lenT s).e = 7 ∧ (lenS s = lenS t ∨ lenS s = 0)) := by
          rcases cut_key h with ⟨h1, h2⟩ | ⟨h1, _⟩
          · rcases cut_next (k := 8) (by decide) (.inl h1) with ⟨h3, h4, _⟩ | ⟨h3, _⟩
            · rcases cut_next (k := 1) (by decide) (.inl h3) with ⟨h5, h6, _⟩ | ⟨h5, h6⟩
              · exact .inl ⟨h5, h2, congrArg IntKind.i64.wrap h4, h6⟩
              · exact .inr ⟨h5, .inr h6⟩
            · exact .inr ⟨(dead_next 1 h3).1, .inr (dead_next 1 h3).2⟩
          · have h3 := (dead_next 8 h1).1
            exact .inr ⟨(dead_next 1 h3).1, .inr (dead_next 1 h3).2⟩
        have n0 : 0 ≤ lenS t := (numV1 _ _).1
        rcases hL with ⟨h5, h6, h7, h8⟩ | ⟨h5, h6⟩
        · rcases cut_next (k := lenS t) n0 (.inl h5) with ⟨h9, _, h10⟩ | ⟨h9, _⟩
          · refine .inl ⟨(lenT s).next (lenS s), ?_, ?_⟩
            · unfold rowP
              rw [if_pos b1, h8, if_pos a2, if_pos h9.1, h6, h7, h10, hr1]
            · rw [h8, ← hr3]; exact h9
          · refine .inr ?_
            unfold rowP
            rw [if_pos b1, h8, if_pos a2, if_neg (by rw [h9]; decide)]
            exact h9
        · have h9 := (dead_next (lenS s) h5).1
          refine .inr ?_
          unfold rowP
          rw [if_pos b1, if_pos (by rcases h6 with h6 | h6 <;> omega), if_neg (by rw [h9]; decide)]
          exact h9
      · unfold rowP at ht
        rw [if_pos a1, if_pos a2, if_neg a3] at ht
        simp only [Prod.mk.injEq] at ht
        exact absurd ht.2.1 a3
    · unfold rowP at ht
      rw [if_pos a1, if_neg a2] at ht
      simp at ht
  · unfold rowP at ht
    rw [if_neg a1] at ht
    simp at ht
theorem kid_cut {m : List UInt8} {s t : St} (h : Cut m s t) : (Alv m (kidS s) (kidS t) ∧ kidD s = kidD t) ∨ (kidS s).e = 7 := by
  rcases cut_key h with ⟨h1, h2⟩ | ⟨h1, _⟩
  · rcases cut_next (k := 1) (by decide) (.inl h1) with ⟨h3, h4, _⟩ | ⟨h3, _⟩
    · refine .inl ⟨h3, ?_⟩
      unfold kidD
      rw [h2, h4]
    · exact .inr h3
  · exact .inr (dead_next 1 h1).1
theorem rowsP_cut {m : List UInt8} : ∀ (n : Nat) (acc L : List RowD) (s t t' : St), Alv m s t → rowsP n acc t = (L, 0, t') → (∃ s', rowsP n acc s = (L, 0, s') ∧ Alv m s' t') ∨ (rowsP n acc s).2.1 = 7
  | 0, acc, L, s, t, t', h, ht => by
    have ht' : (acc, t.e, t) = (L, (0 : Int), t') := ht
    simp only [Prod.mk.injEq] at ht'
    obtain ⟨rfl, _, rfl⟩ := ht'
    refine .inl ⟨s, ?_, h⟩
    show (acc, s.e, s) = _
    rw [h.1]
  | n + 1, acc, L, s, t, t', h, ht => by
    have ht' : (if (rowP t).2.1 = 0 then rowsP n (acc ++ [(rowP t).1]) (rowP t).2.2 else ([], (rowP t).2.1, (rowP t).2.2)) = (L, (0 : Int), t') := ht
    show (∃ s', (if (rowP s).2.1 = 0 then rowsP n (acc ++ [(rowP s).1]) (rowP s).2.2 else ([], (rowP s).2.1, (rowP s).2.2)) = (L, (0 : Int), s') ∧ Alv m s' t') ∨ (if (rowP s).2.1 = 0 then rowsP n (acc ++ [(rowP s).1]) (rowP s).2.2 else ([], (rowP s).2.1, (rowP s).2.2)).2.1 = 7
    by_cases hz : (rowP t).2.1 = 0
    · rw [if_pos hz] at ht'
      have hrt : rowP t = ((rowP t).1, 0, (rowP t).2.2) := by rw [← hz]
      rcases row_cut (.inl h) hrt with ⟨s1, h1, h2⟩ | h1
      · rw [h1, if_pos rfl]
        exact rowsP_cut n _ L s1 _ t' h2 ht'
      · refine .inr ?_
        rw [h1, if_neg (by decide)]
    · rw [if_neg hz] at ht'
      simp only [Prod.mk.injEq] at ht'
      exact absurd ht'.2.1 hz
theorem kidsP_cut {m : List UInt8} : ∀ (n : Nat) (acc L : List KidD) (s t t' : St), Alv m s t → kidsP n acc t = (L, 0, t') → (∃ s', kidsP n acc s = (L, 0, s') ∧ Alv m s' t') ∨ (kidsP n acc s).2.1 = 7
  | 0, acc, L, s, t, t', h, ht => by
    have ht' : (acc, t.e, t) = (L, (0 : Int), t') := ht
    simp only [Prod.mk.injEq] at ht'
    obtain ⟨rfl, _, rfl⟩ := ht'
    refine .inl ⟨s, ?_, h⟩
    show (acc, s.e, s) = _
    rw [h.1]
  | n + 1, acc, L, s, t, t', h, ht => by
    have ht' : (if (kidS t).e = 0 then kidsP n (acc ++ [kidD t]) (kidS t) else ([], (kidS t).e, kidS t)) = (L, (0 : Int), t') := ht
    show (∃ s', (if (kidS s).e = 0 then kidsP n (acc ++ [kidD s]) (kidS s) else ([], (kidS s).e, kidS s)) = (L, (0 : Int), s') ∧ Alv m s' t') ∨ (if (kidS s).e = 0 then kidsP n (acc ++ [kidD s]) (kidS s) else ([], (kidS s).e, kidS s)).2.1 = 7
    by_cases hz : (kidS t).e = 0
    · rw [if_pos hz] at ht'
      rcases kid_cut (.inl h) with ⟨h1, h2⟩ | h1
      · rw [if_pos h1.1, h2]
        exact kidsP_cut n _ L (kidS s) _ t' h1 ht'
      · refine .inr ?_
        rw [if_neg (by rw [h1]; decide)]
        exact h1
    · rw [if_neg hz] at ht'
      simp only [Prod.mk.injEq] at ht'
      exact absurd ht'.2.1 hz
theorem listR_cut {m : List UInt8} {s t t' : St} {L : List RowD} (h : Alv m s t) (ht : listR t = (L, 0, t')) : (∃ s', listR s = (L, 0, s') ∧ Alv m s' t') ∨ (listR s).2.1 = 7 := by
  unfold listR at ht
  split at ht
  · simp at ht
  · rename_i h4
    rcases cut_next (k := 1) (by decide) (.inl h) with ⟨h1, h2, _⟩ | ⟨h1, h2⟩
    · unfold listR
      rw [h2, if_neg h4]
      exact rowsP_cut _ _ L _ _ t' h1 ht
    · refine .inr ?_
      unfold listR
      rw [h2, if_neg (by decide)]
      exact h1
theorem listK_cut {m : List UInt8} {s t t' : St} {L : List KidD} (h : Alv m s t) (ht : listK t = (L, 0, t')) : (∃ s', listK s = (L, 0, s') ∧ Alv m s' t') ∨ (listK s).2.1 = 7 := by
  unfold listK at ht
  split at ht
  · simp at ht
  · rename_i h4
    rcases cut_next (k := 1) (by decide) (.inl h) with ⟨h1, h2, _⟩ | ⟨h1, h2⟩
    · unfold listK
      rw [h2, if_neg h4]
      exact kidsP_cut _ _ L _ _ t' h1 ht
    · refine .inr ?_
      unfold listK
      rw [h2, if_neg (by decide)]
      exact h1
/-- what part gives of a front whose first byte is there -/
theorem part_cut {m : List UInt8} {s t t' : St} {c : ContD} (hm : m ≠ []) (h1 : Alv m (s.next 1) (t.next 1)) (h2 : s.num 1 = t.num 1) (ht : partP t = (c, 0, t')) (hl : t'.l = []) : (partP s).2.1 = 7 := by
  have no : ∀ s', ¬ Alv m s' t' := fun s' h => by
    have h3 := h.2
    rw [h3] at hl
    exact hm (List.append_eq_nil_iff.1 hl).2
  unfold partP at ht ⊢
  rw [h2]
  by_cases c0 : t.num 1 = 0
  · rw [if_pos c0] at ht
    unfold freeP at ht
    simp only [Prod.mk.injEq] at ht
    obtain ⟨_, _, rfl⟩ := ht
    exact absurd h1 (no _)
  · rw [if_neg c0] at ht ⊢
    by_cases c1 : t.num 1 = 1
    · rw [if_pos c1] at ht ⊢
      unfold leafP at ht ⊢
      simp only [Prod.mk.injEq] at ht
      have hx : listR (t.next 1) = ((listR (t.next 1)).1, 0, (listR (t.next 1)).2.2) := by rw [← ht.2.1]
      rcases listR_cut h1 hx with ⟨s', _, h4⟩ | h3
      · rw [ht.2.2] at h4; exact absurd h4 (no _)
      · exact h3
    · rw [if_neg c1] at ht ⊢
      unfold innerP at ht ⊢
      simp only [Prod.mk.injEq] at ht
      have hx : listK (t.next 1) = ((listK (t.next 1)).1, 0, (listK (t.next 1)).2.2) := by rw [← ht.2.1]
      rcases listK_cut h1 hx with ⟨s', _, h4⟩ | h3
      · rw [ht.2.2] at h4; exact absurd h4 (no _)
      · exact h3
/-- A strict front of a content's bytes is too short. -/
theorem takeC_short {c c' : ContD} {p m : List UInt8} {n er : Int} (hg : GoodC c) (hok : OkC c) (hp : encC c = p ++ m) (hm : m ≠ []) (h : TakeC p c' n er) : er = 7 := by
  obtain ⟨c1, er1, s', hc, hd⟩ := h
  have hl := (encC_len hg).1
  have hpl : p.length ≤ 82 := by rw [hp, List.length_append] at hl; omega
  rw [List.take_of_length_le hpl] at hc
  obtain ⟨h0, h2, hb⟩ := part_back (rest := []) hg hok
  rw [List.append_nil, hp] at h0 h2 hb
  have h7 : er1 = 7 := by
    unfold ContentIs at hc
    rcases cut_next (k := 1) (s := ⟨p, 0⟩) (t := ⟨p ++ m, 0⟩) (by decide) (.inl ⟨rfl, rfl⟩) with ⟨a1, a2, _⟩ | ⟨a1, _⟩
    · have a3 := part_cut hm a1 a2 hb rfl
      have a4 := a1.1
      rw [if_neg (by rw [a4]; simp), a2, if_neg h2, if_pos (by rw [a3]; decide), a3] at hc
      exact hc.2.1
    · rw [if_pos (by rw [a1]; decide), a1] at hc
      exact hc.2.1
  rcases hd with ⟨_, _, _, h6⟩ | ⟨h6, _⟩
  · rw [h6, h7]
  · rw [h7] at h6; cases h6
end Go.Proofs.Ytekdkeoeijfhdaa
