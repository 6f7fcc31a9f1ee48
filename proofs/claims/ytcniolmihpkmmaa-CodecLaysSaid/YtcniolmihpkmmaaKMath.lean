/- Plain mathematics of what is read: bytes of what was taken. -/
import Derived.Test.YtcniolmihpkmmaaKEq
namespace Go.Proofs.Ytcniolmihpkmmaa
open Go.RowKit

theorem num_one (x : UInt8) : num [x] = x.toNat := by simp [num]
theorem be_num : ∀ (n : Nat) (l : List UInt8), l.length = n → be n (num l) = l
  | 0, l, h => by rw [List.eq_nil_of_length_eq_zero h]; rfl
  | n + 1, l, h => by
    have hne : l ≠ [] := fun e => by rw [e] at h; cases h
    obtain ⟨m, b, rfl⟩ : ∃ m b, l = m ++ [b] := ⟨l.dropLast, l.getLast hne, (List.dropLast_concat_getLast hne).symm⟩
    have hm : m.length = n := by simpa using h
    rw [num_snoc]
    show be n ((num m * 256 + b.toNat) / 256) ++ [UInt8.ofNat (num m * 256 + b.toNat)] = _
    have hb := b.toNat_lt
    have h1 : (num m * 256 + b.toNat) / 256 = num m := by omega
    have h2 : UInt8.ofNat (num m * 256 + b.toNat) = b := by
      apply UInt8.toNat_inj.1
      rw [UInt8.toNat_ofNat']
      omega
    rw [h1, be_num n m hm, h2]
theorem one_of {l : List UInt8} (h : l.length = 1) : [UInt8.ofNat (num l)] = l := by
  have := be_num 1 l h
  simpa [be] using this

theorem next_ok {s : St} {k : Int} (hk : 0 ≤ k) (h : (s.next k).e = 0) : s.e = 0 ∧ k ≤ s.l.length ∧ s.next k = ⟨s.l.drop k.toNat, 0⟩ ∧ s.num k = num (s.l.take k.toNat) ∧ s.raw k = s.l.take k.toNat := by
  unfold St.next St.num St.raw nextL nextE numV rawL at *
  simp only at h
  by_cases g : gOk k s.l s.e = true
  · rw [if_pos g, if_pos g, if_pos g, if_pos g]
    have g' := g
    unfold gOk at g'
    simp at g'
    exact ⟨g'.1.1, g'.2, rfl, rfl, rfl⟩
  · rw [if_neg g] at h
    split at h
    · rw [if_neg (by omega)] at h; cases h
    · rename_i hne; exact absurd h hne
theorem cut {l : List UInt8} {k : Nat} (_h : k ≤ l.length) : l = l.take k ++ l.drop k := (List.take_append_drop k l).symm
theorem takelen {l : List UInt8} {k : Nat} (h : k ≤ l.length) : (l.take k).length = k := by rw [List.length_take]; omega
theorem u64_wrapped (x : Nat) (h : x < 18446744073709551616) : u64 (IntKind.i64.wrap (x : Int)) = x := by
  unfold u64
  rw [IntKind.wrap_i64]
  omega

theorem keyS_ok {s : St} (h : (keyS s).e = 0) : s.e = 0 ∧ 3 ≤ s.l.length ∧ keyS s = ⟨s.l.drop 3, 0⟩ ∧ encKey (keyD s) = s.l.take 3 := by
  obtain ⟨a1, a2, a3, a4, _⟩ := next_ok (s := s.next 1) (k := 2) (by decide) h
  obtain ⟨b1, b2, b3, b4, _⟩ := next_ok (s := s) (k := 1) (by decide) a1
  rw [b3] at a2 a3 a4
  have b2' : 1 ≤ s.l.length := by omega
  have a2' : 2 ≤ (s.l.drop 1).length := by
    have : (2 : Int) ≤ ((s.l.drop 1).length : Int) := a2
    omega
  have hl : 3 ≤ s.l.length := by rw [List.length_drop] at a2'; omega
  refine ⟨b1, hl, ?_, ?_⟩
  · have e : keyS s = (s.next 1).next 2 := rfl
    rw [e, b3, a3]
    show (⟨(s.l.drop 1).drop 2, 0⟩ : St) = _
    rw [List.drop_drop]
  · have e1 : (keyD s).t = num (s.l.take 1) := b4
    have e2 : (keyD s).id = num ((s.l.drop 1).take 2) := by
      show (s.next 1).num 2 = _
      rw [b3]; exact a4
    unfold encKey
    rw [e1, e2, Int.toNat_natCast, Int.toNat_natCast, be_num 2 _ (takelen a2')]
    have h1 := one_of (takelen b2')
    have h3 : s.l.take 3 = s.l.take 1 ++ (s.l.drop 1).take 2 := by
      rw [show 3 = 1 + 2 from rfl, List.take_add]
    rw [h3]
    conv => rhs; rw [← h1]
    rfl
theorem chkRowC_zero {r : RowD} (h1 : tabB r.key.t = true) (h2 : r.note.size ≤ 8) : chkRowC r = 0 := if_pos ⟨h1, h2⟩

theorem rowP_sound {s s' : St} {r : RowD} (h : rowP s = (r, 0, s')) : s.e = 0 ∧ s'.e = 0 ∧ chkRowC r = 0 ∧ s.l = encRow r ++ s'.l := by
  have hv := (rowP_ok h).2
  unfold rowP at h
  split at h
  · split at h
    · rename_i hl8
      split at h
      · rename_i he
        simp only [Prod.mk.injEq] at h
        obtain ⟨hr, _, hs'⟩ := h
        have hz0 : 0 ≤ lenS s := (numV1 ((keyS s).next 8).l ((keyS s).next 8).e).1
        obtain ⟨d1, d2, d3, _, d5⟩ := next_ok hz0 he
        obtain ⟨c1, c2, c3, c4, _⟩ := next_ok (s := (keyS s).next 8) (k := 1) (by decide) d1
        obtain ⟨b1, b2, b3, b4, _⟩ := next_ok (s := keyS s) (k := 8) (by decide) c1
        obtain ⟨a1, a2, a3, a4⟩ := keyS_ok b1
        rw [a3] at b2 b3 b4
        have hT : lenT s = ⟨((s.l.drop 3).drop 8).drop 1, 0⟩ := by
          show ((keyS s).next 8).next 1 = _
          rw [c3, a3, b3]
          rfl
        have hZ : lenS s = num (((s.l.drop 3).drop 8).take 1) := by
          show ((keyS s).next 8).num 1 = _
          rw [c4, a3, b3]
          rfl
        have hV : valS s = IntKind.i64.wrap (num ((s.l.drop 3).take 8)) := by
          show IntKind.i64.wrap ((keyS s).num 8) = _
          rw [a3, b4]
          rfl
        rw [a3, b3] at c2
        rw [hT] at d2 d3 d5
        obtain ⟨zn, hzn⟩ : ∃ z : Nat, lenS s = z := ⟨(lenS s).toNat, by omega⟩
        have hB2 : 8 ≤ (s.l.drop 3).length := by
          have : (8 : Int) ≤ ((s.l.drop 3).length : Int) := b2
          omega
        have hC2 : 1 ≤ ((s.l.drop 3).drop 8).length := by
          have : (1 : Int) ≤ (((s.l.drop 3).drop 8).length : Int) := c2
          omega
        have hD2 : zn ≤ (((s.l.drop 3).drop 8).drop 1).length := by
          rw [hzn] at d2
          have : (zn : Int) ≤ ((((s.l.drop 3).drop 8).drop 1).length : Int) := d2
          omega
        have hnote : (lenT s).raw (lenS s) = (((s.l.drop 3).drop 8).drop 1).take zn := by rw [hT, d5, hzn]; rfl
        have hs2 : s' = ⟨(((s.l.drop 3).drop 8).drop 1).drop zn, 0⟩ := by rw [← hs', hT, d3, hzn]; rfl
        refine ⟨a1, by rw [hs2], chkRowC_zero hv.1 hv.2, ?_⟩
        rw [hs2, ← hr]
        show s.l = (((encKey (keyD s) ++ be 8 (u64 (valS s))) ++ [UInt8.ofNat ((lenT s).raw (lenS s)).toArray.size]) ++ ((lenT s).raw (lenS s)).toArray.toList) ++ _
        rw [a4, hV, u64_wrapped _ (by have := num_lt ((s.l.drop 3).take 8); rw [takelen hB2] at this; omega), be_num 8 _ (takelen hB2), hnote, List.size_toArray, takelen hD2]
        have hb1 : [UInt8.ofNat zn] = ((s.l.drop 3).drop 8).take 1 := by
          rw [← one_of (takelen hC2)]
          congr 2
          have : (zn : Int) = (num (((s.l.drop 3).drop 8).take 1) : Int) := by rw [← hzn, hZ]
          omega
        rw [hb1, List.append_assoc, List.append_assoc, List.append_assoc, List.take_append_drop, List.take_append_drop, List.take_append_drop, List.take_append_drop]
      · rename_i he
        simp only [Prod.mk.injEq] at h
        exact absurd h.2.1 he
    · simp at h
  · simp at h

theorem kidS_sound {s : St} (h : (kidS s).e = 0) : s.e = 0 ∧ s.l = encKid (kidD s) ++ (kidS s).l := by
  obtain ⟨b1, b2, b3, b4, _⟩ := next_ok (s := keyS s) (k := 1) (by decide) h
  obtain ⟨a1, a2, a3, a4⟩ := keyS_ok b1
  rw [a3] at b2 b3 b4
  have hB : 1 ≤ (s.l.drop 3).length := by
    have : (1 : Int) ≤ ((s.l.drop 3).length : Int) := b2
    omega
  refine ⟨a1, ?_⟩
  have e1 : kidS s = ⟨(s.l.drop 3).drop 1, 0⟩ := by show (keyS s).next 1 = _; rw [a3, b3]; rfl
  have e2 : (kidD s).page = num ((s.l.drop 3).take 1) := by show (keyS s).num 1 = _; rw [a3, b4]; rfl
  unfold encKid
  rw [e1, e2, Int.toNat_natCast, one_of (takelen hB)]
  show s.l = (encKey (keyD s) ++ _) ++ _
  rw [a4, List.append_assoc, List.take_append_drop, List.take_append_drop]

theorem encRows_cons (r : RowD) (L : List RowD) : encRows (r :: L) = encRow r ++ encRows L := by simp [encRows]
theorem encKids_cons (r : KidD) (L : List KidD) : encKids (r :: L) = encKid r ++ encKids L := by simp [encKids]
theorem rowsP_sound : ∀ (n : Nat) (acc L : List RowD) (s s' : St), rowsP n acc s = (L, 0, s') → ∃ M, L = acc ++ M ∧ M.length = n ∧ s.e = 0 ∧ s'.e = 0 ∧ s.l = encRows M ++ s'.l
  | 0, acc, L, s, s', h => by
    simp only [rowsP, Prod.mk.injEq] at h
    obtain ⟨rfl, he, rfl⟩ := h
    exact ⟨[], by simp, rfl, he, he, rfl⟩
  | n + 1, acc, L, s, s', h => by
    simp only [rowsP] at h
    split at h
    · rename_i he
      obtain ⟨M, h1, h2, _, h4, h5⟩ := rowsP_sound n _ L _ s' h
      obtain ⟨a1, _, _, a4⟩ := rowP_sound (s := s) (r := (rowP s).1) (s' := (rowP s).2.2) (by rw [← he])
      exact ⟨(rowP s).1 :: M, by rw [h1]; simp, by simp [h2], a1, h4, by rw [a4, h5, encRows_cons, List.append_assoc]⟩
    · rename_i he
      simp only [Prod.mk.injEq] at h
      exact absurd h.2.1 he
theorem kidsP_sound : ∀ (n : Nat) (acc L : List KidD) (s s' : St), kidsP n acc s = (L, 0, s') → ∃ M, L = acc ++ M ∧ M.length = n ∧ s.e = 0 ∧ s'.e = 0 ∧ s.l = encKids M ++ s'.l
  | 0, acc, L, s, s', h => by
    simp only [kidsP, Prod.mk.injEq] at h
    obtain ⟨rfl, he, rfl⟩ := h
    exact ⟨[], by simp, rfl, he, he, rfl⟩
  | n + 1, acc, L, s, s', h => by
    simp only [kidsP] at h
    split at h
    · rename_i he
      obtain ⟨M, h1, h2, _, h4, h5⟩ := kidsP_sound n _ L _ s' h
      obtain ⟨a1, a4⟩ := kidS_sound he
      exact ⟨kidD s :: M, by rw [h1]; simp, by simp [h2], a1, h4, by rw [a4, h5, encKids_cons, List.append_assoc]⟩
    · rename_i he
      simp only [Prod.mk.injEq] at h
      exact absurd h.2.1 he
theorem head_one {s : St} (h : (s.next 1).e = 0) : s.e = 0 ∧ s.next 1 = ⟨s.l.drop 1, 0⟩ ∧ ∃ z : Nat, s.num 1 = z ∧ [UInt8.ofNat z] = s.l.take 1 := by
  obtain ⟨a1, a2, a3, a4, _⟩ := next_ok (s := s) (k := 1) (by decide) h
  exact ⟨a1, a3, num (s.l.take 1), a4, one_of (takelen (by omega))⟩
theorem listR_sound {s s' : St} {L : List RowD} (h : listR s = (L, 0, s')) : s.e = 0 ∧ s.l = ([UInt8.ofNat L.length] ++ encRows L) ++ s'.l := by
  unfold listR at h
  split at h
  · simp at h
  · obtain ⟨M, h1, h2, h3, h4, h5⟩ := rowsP_sound _ _ _ _ _ h
    obtain ⟨a1, a2, z, a3, a4⟩ := head_one h3
    rw [List.nil_append] at h1
    subst h1
    rw [a3, Int.toNat_natCast] at h2
    refine ⟨a1, ?_⟩
    rw [a2] at h5
    have h5' : s.l.drop 1 = encRows L ++ s'.l := h5
    rw [h2, a4, List.append_assoc, ← h5', List.take_append_drop]
theorem listK_sound {s s' : St} {L : List KidD} (h : listK s = (L, 0, s')) : s.e = 0 ∧ s.l = ([UInt8.ofNat L.length] ++ encKids L) ++ s'.l := by
  unfold listK at h
  split at h
  · simp at h
  · obtain ⟨M, h1, h2, h3, h4, h5⟩ := kidsP_sound _ _ _ _ _ h
    obtain ⟨a1, a2, z, a3, a4⟩ := head_one h3
    rw [List.nil_append] at h1
    subst h1
    rw [a3, Int.toNat_natCast] at h2
    refine ⟨a1, ?_⟩
    rw [a2] at h5
    have h5' : s.l.drop 1 = encKids L ++ s'.l := h5
    rw [h2, a4, List.append_assoc, ← h5', List.take_append_drop]
theorem content_sound {s s' : St} {c : ContD} (h : ContentIs s c 0 s') : GoodC c ∧ s.l = encC c ++ s'.l := by
  unfold ContentIs at h
  by_cases h0 : (s.next 1).e = 0
  · rw [if_neg (by simpa using h0)] at h
    obtain ⟨a1, a2, z, a3, a4⟩ := head_one h0
    by_cases h2 : 2 < s.num 1
    · rw [if_pos h2] at h; exact absurd h.2.1 (by decide)
    · rw [if_neg h2] at h
      by_cases hp : (partP s).2.1 = 0
      · rw [if_neg (by simpa using hp)] at h
        rcases h with ⟨hg, hc, _, hs⟩ | ⟨_, _, h, _⟩
        · rw [← hc] at hg
          refine ⟨hg, ?_⟩
          have hz : z = 0 ∨ z = 1 ∨ z = 2 := by omega
          have hsl : s.l = [UInt8.ofNat z] ++ s.l.drop 1 := by rw [a4, List.take_append_drop]
          have hpp : partP s = (c, 0, s') := by rw [hc, hs, ← hp]
          unfold partP at hpp
          rw [a3, a2] at hpp
          rcases hz with rfl | rfl | rfl
          · rw [if_pos (show ((0 : Nat) : Int) = 0 from rfl)] at hpp
            simp only [freeP, Prod.mk.injEq] at hpp
            obtain ⟨rfl, _, rfl⟩ := hpp
            exact hsl
          · rw [if_neg (by decide), if_pos (show ((1 : Nat) : Int) = 1 from rfl)] at hpp
            simp only [leafP, Prod.mk.injEq] at hpp
            obtain ⟨h1, h3, h4⟩ := hpp
            have hl := (listR_sound (s := ⟨s.l.drop 1, 0⟩) (L := (listR ⟨s.l.drop 1, 0⟩).1) (s' := s') (Prod.ext rfl (Prod.ext h3 h4))).2
            have hl' : s.l.drop 1 = _ := hl
            rw [hsl, hl', ← h1, ← List.append_assoc]
            rfl
          · rw [if_neg (by decide), if_neg (by decide)] at hpp
            simp only [innerP, Prod.mk.injEq] at hpp
            obtain ⟨h1, h3, h4⟩ := hpp
            have hl := (listK_sound (s := ⟨s.l.drop 1, 0⟩) (L := (listK ⟨s.l.drop 1, 0⟩).1) (s' := s') (Prod.ext rfl (Prod.ext h3 h4))).2
            have hl' : s.l.drop 1 = _ := hl
            rw [hsl, hl', ← h1, ← List.append_assoc]
            rfl
        · exact absurd h (by decide)
      · rw [if_pos hp] at h
        exact absurd h.2.1.symm hp
  · rw [if_pos h0] at h
    exact absurd h.2.1.symm h0
theorem takeC_sound {b : List UInt8} {c : ContD} {n : Int} (h : TakeC b c n 0) : GoodC c ∧ n = (encC c).length ∧ (encC c).length ≤ b.length ∧ (encC c).length ≤ 82 ∧ encC c = b.take (encC c).length := by
  obtain ⟨c1, er1, s', hc, ⟨hne, _, _, he⟩ | ⟨rfl, rfl, hn, _⟩⟩ := h
  · exact absurd he.symm hne
  · obtain ⟨hg, hl⟩ := content_sound hc
    have hl' : b.take 82 = encC c ++ s'.l := hl
    have hlen : (b.take 82).length = (encC c).length + s'.l.length := by rw [hl', List.length_append]
    have h82 : (b.take 82).length ≤ 82 ∧ (b.take 82).length ≤ b.length := by rw [List.length_take]; omega
    refine ⟨hg, by omega, by omega, by omega, ?_⟩
    have h3 : (b.take 82).take (encC c).length = encC c := by rw [hl', List.take_left]
    rw [List.take_take] at h3
    rw [Nat.min_eq_left (by omega)] at h3
    exact h3.symm
theorem takeR_sound {b : List UInt8} {r : RowD} {n : Int} (h : TakeR b r n 0) : chkRowC r = 0 ∧ RowOk r ∧ n = (encRow r).length ∧ (encRow r).length ≤ b.length ∧ encRow r = b.take (encRow r).length := by
  obtain ⟨c1, er1, s', hc, ⟨hne, _, _, he⟩ | ⟨rfl, rfl, hn, _⟩⟩ := h
  · exact absurd he.symm hne
  · obtain ⟨_, _, hg, hl⟩ := rowP_sound hc
    have hl' : b.take 20 = encRow r ++ s'.l := hl
    have hlen : (b.take 20).length = (encRow r).length + s'.l.length := by rw [hl', List.length_append]
    have h82 : (b.take 20).length ≤ 20 ∧ (b.take 20).length ≤ b.length := by rw [List.length_take]; omega
    refine ⟨hg, (rowP_ok hc).1, by omega, by omega, ?_⟩
    have h3 : (b.take 20).take (encRow r).length = encRow r := by rw [hl', List.take_left]
    rw [List.take_take] at h3
    rw [Nat.min_eq_left (by omega)] at h3
    exact h3.symm
theorem takeC_not {b : List UInt8} {c : ContD} {n er : Int} (h : TakeC b c n er) (he : er ≠ 0) : c = zeroC ∧ n = 0 := by
  obtain ⟨c1, er1, s', _, ⟨_, h1, h2, _⟩ | ⟨_, _, _, h4⟩⟩ := h
  · exact ⟨h1, h2⟩
  · exact absurd h4 he
end Go.Proofs.Ytcniolmihpkmmaa
