/- Leaves: what is got, put and taken, by the rows' keys alone. -/
import Derived.Test.YtaiepdhmlmnggaaPWk
namespace Go.Proofs.Ytaiepdhmlmnggaa
open Go.RowKit

theorem RlR.irr {a : RowD} (h : RlR a a) : False := by
  unfold RlR at h
  rw [cmpK_zero.2 rfl] at h
  omega
theorem RlR.as {a b : RowD} (h : RlR a b) (k : RlR b a) : False := RlR.irr (RlR.tr _ _ _ h k)
theorem RlR.ne {a b : RowD} (h : RlR a b) : a.key ≠ b.key := fun e => by
  unfold RlR at h
  rw [cmpK_zero.2 e] at h
  omega
theorem cmp_not {a b : KeyD} (h : ¬ cmpK a b < 0) (hn : a ≠ b) : cmpK b a < 0 := by
  have h1 := cmpK_anti a b
  have h2 : cmpK a b ≠ 0 := fun e => hn (cmpK_zero.1 e)
  omega
section
variable {L : List RowD} {k : KeyD}
theorem isR_true (h : isR L k = true) : ∃ r, L[posR L k]? = some r ∧ r.key = k := by
  unfold isR at h
  cases hr : L[posR L k]? with
  | none => rw [hr] at h; cases h
  | some r => rw [hr] at h; exact ⟨r, rfl, eqK_iff.1 h⟩
theorem pos_before {x : RowD} (hx : x ∈ L.take (posR L k)) : cmpK x.key k < 0 := by
  obtain ⟨i, hi⟩ := List.mem_iff_getElem?.1 hx
  have hl := (List.getElem?_eq_some_iff.1 hi).1
  rw [List.length_take] at hl
  rw [List.getElem?_take_of_lt (by omega)] at hi
  exact posR_lt k L i x (by omega) hi
theorem pos_after (hs : L.Pairwise RlR) {x : RowD} (hx : x ∈ L.drop (posR L k)) : ¬ cmpK x.key k < 0 := by
  obtain ⟨i, hi⟩ := List.mem_iff_getElem?.1 hx
  rw [List.getElem?_drop] at hi
  rcases Nat.eq_zero_or_pos i with h0 | h0
  · subst h0
    exact posR_ge k L x hi
  · have hlt := (List.getElem?_eq_some_iff.1 hi).1
    obtain ⟨y, hy⟩ : ∃ y, L[posR L k]? = some y := ⟨_, List.getElem?_eq_getElem (by omega)⟩
    have h1 := chain_rel hs (show posR L k < posR L k + i by omega) hy hi
    exact fun h2 => posR_ge k L y hy (cmpK_trans' h1 h2)
theorem isR_false (hs : L.Pairwise RlR) (h : isR L k = false) : ∀ x ∈ L, x.key ≠ k := fun x hx e => by
  have hx2 := hx
  rw [← List.take_append_drop (posR L k) L] at hx2
  rcases List.mem_append.1 hx2 with h1 | h1
  · have h2 := pos_before h1
    rw [cmpK_zero.2 e] at h2
    omega
  · obtain ⟨i, hi⟩ := List.mem_iff_getElem?.1 h1
    rw [List.getElem?_drop] at hi
    rcases Nat.eq_zero_or_pos i with h0 | h0
    · subst h0
      unfold isR at h
      rw [show posR L k + 0 = posR L k from rfl] at hi
      rw [hi] at h
      have h3 : eqK x.key k = true := eqK_iff.2 e
      simp only at h
      rw [h3] at h
      cases h
    · have hlt := (List.getElem?_eq_some_iff.1 hi).1
      obtain ⟨y, hy⟩ : ∃ y, L[posR L k]? = some y := ⟨_, List.getElem?_eq_getElem (by omega)⟩
      have h4 : cmpK y.key x.key < 0 := chain_rel hs (show posR L k < posR L k + i by omega) hy hi
      rw [e] at h4
      exact posR_ge k L y hy h4
theorem same_key (hs : L.Pairwise RlR) {x y : RowD} (hx : x ∈ L) (hy : y ∈ L) (e : x.key = y.key) : x = y := by
  obtain ⟨i, hi⟩ := List.mem_iff_getElem?.1 hx
  obtain ⟨j, hj⟩ := List.mem_iff_getElem?.1 hy
  rcases Nat.lt_trichotomy i j with h | h | h
  · exact absurd e (RlR.ne (chain_rel hs h hi hj))
  · subst h; rw [hi] at hj; cases hj; rfl
  · exact absurd e.symm (RlR.ne (chain_rel hs h hj hi))
end
theorem srt_ext : ∀ {L M : List RowD}, L.Pairwise RlR → M.Pairwise RlR → (∀ x, x ∈ L ↔ x ∈ M) → L = M
  | [], [], _, _, _ => rfl
  | [], b :: m, _, _, h => by have := (h b).2 (List.mem_cons_self ..); cases this
  | a :: l, [], _, _, h => by have := (h a).1 (List.mem_cons_self ..); cases this
  | a :: l, b :: m, h1, h2, h => by
    obtain ⟨p1, q1⟩ := List.pairwise_cons.1 h1
    obtain ⟨p2, q2⟩ := List.pairwise_cons.1 h2
    have e : a = b := by
      rcases List.mem_cons.1 ((h a).1 (List.mem_cons_self ..)) with e | e
      · exact e
      · rcases List.mem_cons.1 ((h b).2 (List.mem_cons_self ..)) with f | f
        · exact f.symm
        · exact (RlR.as (p1 b f) (p2 a e)).elim
    subst e
    refine congrArg _ (srt_ext q1 q2 fun x => ⟨fun hx => ?_, fun hx => ?_⟩)
    · rcases List.mem_cons.1 ((h x).1 (List.mem_cons_of_mem _ hx)) with e | e
      · subst e; exact (RlR.irr (p1 _ hx)).elim
      · exact e
    · rcases List.mem_cons.1 ((h x).2 (List.mem_cons_of_mem _ hx)) with e | e
      · subst e; exact (RlR.irr (p2 _ hx)).elim
      · exact e
def GetS (L : List RowD) (k : KeyD) (r : RowD) (e : Int) : Prop := (e = 0 ∧ r ∈ L ∧ r.key = k) ∨ (e = 4 ∧ r = zR ∧ ∀ x ∈ L, x.key ≠ k)
theorem GetS.uniq {L : List RowD} (hs : L.Pairwise RlR) {k : KeyD} {r r' : RowD} {e e' : Int} (h : GetS L k r e) (h' : GetS L k r' e') : r = r' ∧ e = e' := by
  rcases h with ⟨rfl, h1, h2⟩ | ⟨rfl, rfl, h1⟩
  · rcases h' with ⟨rfl, k1, k2⟩ | ⟨rfl, rfl, k1⟩
    · exact ⟨same_key hs h1 k1 (h2.trans k2.symm), rfl⟩
    · exact absurd h2 (k1 r h1)
  · rcases h' with ⟨rfl, k1, k2⟩ | ⟨rfl, rfl, k1⟩
    · exact absurd k2 (h1 r' k1)
    · exact ⟨rfl, rfl⟩
theorem GetS.congr {L L' : List RowD} {k : KeyD} (hm : ∀ x : RowD, x.key = k → (x ∈ L ↔ x ∈ L')) {r : RowD} {e : Int} (h : GetS L k r e) : GetS L' k r e := by
  rcases h with ⟨h0, h1, h2⟩ | ⟨h0, h1, h2⟩
  · exact .inl ⟨h0, (hm r h2).1 h1, h2⟩
  · exact .inr ⟨h0, h1, fun x hx e => h2 x ((hm x e).2 hx) e⟩
theorem kind_no {c : ContD} (hg : GoodC c) (hk : c.kind = 1) {e : Int} (h : kindE c 1 211 e) (h0 : e ≠ 0) : False := by
  rcases h with ⟨_, h⟩ | ⟨_, h, _⟩ | ⟨_, _, h⟩
  · exact h hg
  · exact h hk
  · exact h0 h
theorem GetR.s {c : ContD} {k : KeyD} {r : RowD} {e : Int} (h : GetR c k r e) (hg : GoodC c) (hk : c.kind = 1) : GetS c.rows k r e := by
  rcases h with ⟨h1, h2, _⟩ | ⟨_, _, ⟨rfl, rfl, h3⟩ | ⟨rfl, h3, h4⟩⟩
  · exact (kind_no hg hk h1 h2).elim
  · exact .inr ⟨rfl, rfl, isR_false (goodR_iff.1 (good_leaf hg hk).1).2.2 h3⟩
  · obtain ⟨r', hr', hk'⟩ := isR_true h3
    rw [h4] at hr'
    cases hr'
    exact .inl ⟨rfl, List.mem_of_getElem? h4, hk'⟩
def putL (L : List RowD) (r : RowD) : List RowD := if isR L r.key = true then L.take (posR L r.key) ++ r :: L.drop (posR L r.key + 1) else L.take (posR L r.key) ++ r :: L.drop (posR L r.key)
def cutL (L : List RowD) (k : KeyD) : List RowD := L.take (posR L k) ++ L.drop (posR L k + 1)
theorem split_is {L : List RowD} {k : KeyD} (h : isR L k = true) : ∃ y, y.key = k ∧ L = L.take (posR L k) ++ y :: L.drop (posR L k + 1) := by
  obtain ⟨r, hr, hk⟩ := isR_true h
  refine ⟨r, hk, ?_⟩
  obtain ⟨hl, rfl⟩ := List.getElem?_eq_some_iff.1 hr
  rw [← List.drop_eq_getElem_cons hl, List.take_append_drop]
section
variable {L : List RowD} (hs : L.Pairwise RlR)
include hs
theorem after_is {k : KeyD} (h : isR L k = true) {x : RowD} (hx : x ∈ L.drop (posR L k + 1)) : cmpK k x.key < 0 := by
  obtain ⟨r, hr, rfl⟩ := isR_true h
  obtain ⟨i, hi⟩ := List.mem_iff_getElem?.1 hx
  rw [List.getElem?_drop] at hi
  exact chain_rel hs (show posR L r.key < posR L r.key + 1 + i by omega) hr hi
theorem after_no {k : KeyD} (h : isR L k = false) {x : RowD} (hx : x ∈ L.drop (posR L k)) : cmpK k x.key < 0 :=
  cmp_not (pos_after hs hx) (isR_false hs h x (List.mem_of_mem_drop hx))
theorem put_in (r : RowD) {T : List RowD} (hT : T.Pairwise RlR) (hc : ∀ x ∈ T, cmpK r.key x.key < 0) : (L.take (posR L r.key) ++ r :: T).Pairwise RlR := by
  rw [List.pairwise_append]
  refine ⟨hs.sublist (List.take_sublist _ _), List.pairwise_cons.2 ⟨hc, hT⟩, fun a ha b hb => ?_⟩
  rcases List.mem_cons.1 hb with rfl | hb
  · exact pos_before ha
  · exact cmpK_trans' (pos_before ha) (hc b hb)
theorem putL_srt (r : RowD) : (putL L r).Pairwise RlR := by
  unfold putL
  cases h : isR L r.key with
  | true => rw [if_pos rfl]; exact put_in hs r (hs.sublist (List.drop_sublist _ _)) (fun x hx => after_is hs h hx)
  | false => rw [if_neg (by decide)]; exact put_in hs r (hs.sublist (List.drop_sublist _ _)) (fun x hx => after_no hs h hx)
theorem cutL_mem {k : KeyD} (h : isR L k = true) (x : RowD) : x ∈ cutL L k ↔ x ∈ L ∧ x.key ≠ k := by
  obtain ⟨y, hy, e⟩ := split_is h
  unfold cutL
  have hm : x ∈ L ↔ x ∈ L.take (posR L k) ∨ x = y ∨ x ∈ L.drop (posR L k + 1) := by
    have h2 : x ∈ L ↔ x ∈ L.take (posR L k) ++ y :: L.drop (posR L k + 1) := by rw [← e]
    rw [h2, List.mem_append, List.mem_cons]
  rw [List.mem_append, hm]
  have n1 : x ∈ L.take (posR L k) → x.key ≠ k := fun hx e => by have h3 := pos_before hx; rw [cmpK_zero.2 e] at h3; omega
  have n2 : x ∈ L.drop (posR L k + 1) → x.key ≠ k := fun hx e => by have h3 := after_is hs h hx; rw [cmpK_zero.2 e.symm] at h3; omega
  constructor
  · rintro (hx | hx)
    · exact ⟨.inl hx, n1 hx⟩
    · exact ⟨.inr (.inr hx), n2 hx⟩
  · rintro ⟨hx | rfl | hx, hk⟩
    · exact .inl hx
    · exact absurd hy hk
    · exact .inr hx
theorem putL_mem (r x : RowD) : x ∈ putL L r ↔ x = r ∨ (x ∈ L ∧ x.key ≠ r.key) := by
  unfold putL
  cases h : isR L r.key with
  | true =>
    rw [if_pos rfl, List.mem_append, List.mem_cons, ← cutL_mem hs h x]
    unfold cutL
    rw [List.mem_append]
    constructor
    · rintro (hx | rfl | hx)
      · exact .inr (.inl hx)
      · exact .inl rfl
      · exact .inr (.inr hx)
    · rintro (rfl | hx | hx)
      · exact .inr (.inl rfl)
      · exact .inl hx
      · exact .inr (.inr hx)
  | false =>
    rw [if_neg (by decide), List.mem_append, List.mem_cons]
    have hm : x ∈ L ↔ x ∈ L.take (posR L r.key) ∨ x ∈ L.drop (posR L r.key) := by
      have h2 : x ∈ L ↔ x ∈ L.take (posR L r.key) ++ L.drop (posR L r.key) := by rw [List.take_append_drop]
      rw [h2, List.mem_append]
    constructor
    · rintro (hx | rfl | hx)
      · exact .inr ⟨hm.2 (.inl hx), isR_false hs h x (hm.2 (.inl hx))⟩
      · exact .inl rfl
      · exact .inr ⟨hm.2 (.inr hx), isR_false hs h x (hm.2 (.inr hx))⟩
    · rintro (rfl | ⟨hx, _⟩)
      · exact .inr (.inl rfl)
      · rcases hm.1 hx with hx | hx
        · exact .inl hx
        · exact .inr (.inr hx)
theorem cutL_srt (k : KeyD) : (cutL L k).Pairwise RlR := by
  unfold cutL
  rw [← List.eraseIdx_eq_take_drop_succ]
  exact hs.sublist (List.eraseIdx_sublist _ _)
end
theorem PutR.ok {c d : ContD} {r : RowD} {x : Int} (h : PutR c r d x) (hx : x = 0) : GoodC c ∧ c.kind = 1 ∧ GoodC d ∧ d = ⟨1, putL c.rows r, []⟩ := by
  subst hx
  rcases h with ⟨_, h, _⟩ | ⟨hg, hk, ⟨_, h, _⟩ | ⟨hc, h⟩⟩
  · exact absurd rfl h
  · exact absurd h (by decide)
  have hR := goodR_iff.1 (good_leaf hg hk).1
  have hsz : c.rows.length = sizeC c := by unfold sizeC; rw [(good_leaf hg hk).2]; simp
  have good : (putL c.rows r).length ≤ 4 → GoodC (⟨1, putL c.rows r, []⟩ : ContD) := fun hl => (good1 (k := 1) rfl).2 ⟨goodR_iff.2 ⟨hl, fun y hy => by
    rcases (putL_mem hR.2.2 r y).1 hy with rfl | ⟨hy, _⟩
    · exact hc
    · exact hR.2.1 y hy, putL_srt hR.2.2 r⟩, rfl⟩
  rcases h with ⟨h1, _, rfl⟩ | ⟨_, _, h, _⟩ | ⟨h1, h2, _, rfl⟩
  · have e : putL c.rows r = c.rows.take (posR c.rows r.key) ++ r :: c.rows.drop (posR c.rows r.key + 1) := if_pos h1
    have hl : (putL c.rows r).length ≤ 4 := by
      obtain ⟨y, hy, _⟩ := isR_true h1
      have hlt := (List.getElem?_eq_some_iff.1 hy).1
      rw [e, List.length_append, List.length_cons, List.length_take, List.length_drop]
      have := hR.1
      omega
    have hG := good hl
    rw [e] at hG
    exact ⟨hg, hk, hG, by rw [e]⟩
  · exact absurd h (by decide)
  · have e : putL c.rows r = c.rows.take (posR c.rows r.key) ++ r :: c.rows.drop (posR c.rows r.key) := if_neg (by rw [h1]; decide)
    have hl : (putL c.rows r).length ≤ 4 := by
      have hle := posR_le c.rows r.key
      rw [e, List.length_append, List.length_cons, List.length_take, List.length_drop]
      have := hR.1
      omega
    have hG := good hl
    rw [e] at hG
    exact ⟨hg, hk, hG, by rw [e]⟩
theorem PutR.back {c d : ContD} {r : RowD} {x : Int} (h : PutR c r d x) (hg : GoodC c) (hk : c.kind = 1) (hc : chkRowC r = 0) (hn : isR c.rows r.key = false) (h4 : sizeC c ≠ 4) : x = 0 ∧ d = ⟨1, putL c.rows r, []⟩ := by
  have e : putL c.rows r = c.rows.take (posR c.rows r.key) ++ r :: c.rows.drop (posR c.rows r.key) := if_neg (by rw [hn]; decide)
  rw [e]
  rcases h with ⟨h1, h2, _⟩ | ⟨_, _, ⟨h1, _⟩ | ⟨_, ⟨h1, _⟩ | ⟨_, h1, _⟩ | ⟨_, _, h2, h3⟩⟩⟩
  · exact (kind_no hg hk h1 h2).elim
  · exact absurd hc h1
  · rw [hn] at h1; cases h1
  · exact absurd h1 h4
  · exact ⟨h2, h3⟩
theorem TakeR.ok {c d : ContD} {k : KeyD} {r : RowD} {x : Int} (h : TakeR c k d r x) (hx : x = 0) : GoodC c ∧ c.kind = 1 ∧ isR c.rows k = true ∧ r ∈ c.rows ∧ r.key = k ∧ GoodC d ∧ sizeC d ≠ 4 ∧ d = ⟨1, cutL c.rows k, []⟩ := by
  subst hx
  rcases h with ⟨_, h, _⟩ | ⟨hg, hk, ⟨_, h, _⟩ | ⟨h1, _, h2, rfl⟩⟩
  · exact absurd rfl h
  · exact absurd h (by decide)
  have hR := goodR_iff.1 (good_leaf hg hk).1
  obtain ⟨r', hr', hk'⟩ := isR_true h1
  rw [h2] at hr'
  cases hr'
  have hlt := (List.getElem?_eq_some_iff.1 h2).1
  have hl : (cutL c.rows k).length < 4 := by
    unfold cutL
    rw [List.length_append, List.length_take, List.length_drop]
    have := hR.1
    omega
  refine ⟨hg, hk, h1, List.mem_of_getElem? h2, hk', (good1 (k := 1) rfl).2 ⟨goodR_iff.2 ⟨by show (cutL c.rows k).length ≤ 4; omega, fun y hy => hR.2.1 y ((cutL_mem hR.2.2 h1 y).1 hy).1, cutL_srt hR.2.2 k⟩, rfl⟩, ?_, rfl⟩
  show (cutL c.rows k).length + 0 ≠ 4
  omega
theorem TakeR.no {c d : ContD} {k : KeyD} {r : RowD} {x : Int} (h : TakeR c k d r x) (hx : x ≠ 0) : d = zeroC ∧ r = zR := by
  rcases h with ⟨_, _, h⟩ | ⟨_, _, ⟨_, _, h⟩ | ⟨_, h, _⟩⟩
  · exact h
  · exact h
  · exact absurd h hx
/-- what was put is got; all others are as before -/
theorem put_get {c d : ContD} {r : RowD} (h : PutR c r d 0) {r1 : RowD} {e1 : Int} (h1 : GetR d r.key r1 e1) : r1 = r ∧ e1 = 0 := by
  obtain ⟨hg, hk, hd, rfl⟩ := h.ok rfl
  have hR := goodR_iff.1 (good_leaf hg hk).1
  exact GetS.uniq (putL_srt hR.2.2 r) (h1.s hd rfl) (.inl ⟨rfl, (putL_mem hR.2.2 r r).2 (.inl rfl), rfl⟩)
theorem put_other {c d : ContD} {r : RowD} (h : PutR c r d 0) {k : KeyD} (hk0 : k ≠ r.key) {r1 r2 : RowD} {e1 e2 : Int} (h1 : GetR c k r1 e1) (h2 : GetR d k r2 e2) : r2 = r1 ∧ e2 = e1 := by
  obtain ⟨hg, hk, hd, rfl⟩ := h.ok rfl
  have hR := goodR_iff.1 (good_leaf hg hk).1
  refine GetS.uniq (putL_srt hR.2.2 r) (h2.s hd rfl) (GetS.congr (fun x hx => ?_) (h1.s hg hk))
  show x ∈ c.rows ↔ x ∈ putL c.rows r
  rw [putL_mem hR.2.2 r x]
  exact ⟨fun hm => .inr ⟨hm, by rw [hx]; exact hk0⟩, fun hm => by
    rcases hm with rfl | hm
    · exact absurd hx.symm hk0
    · exact hm.1⟩
theorem take_get {c d : ContD} {k : KeyD} {r : RowD} (h : TakeR c k d r 0) {r1 : RowD} {e1 : Int} (h1 : GetR d k r1 e1) : e1 = 4 := by
  obtain ⟨hg, hk, hi, hm, hkr, hd, _, rfl⟩ := h.ok rfl
  have hR := goodR_iff.1 (good_leaf hg hk).1
  rcases h1.s hd rfl with ⟨_, h2, h3⟩ | ⟨h2, _⟩
  · exact absurd h3 ((cutL_mem hR.2.2 hi r1).1 h2).2
  · exact h2
theorem take_other {c d : ContD} {k : KeyD} {r : RowD} (h : TakeR c k d r 0) {o : KeyD} (ho : o ≠ k) {r1 r2 : RowD} {e1 e2 : Int} (h1 : GetR c o r1 e1) (h2 : GetR d o r2 e2) : r2 = r1 ∧ e2 = e1 := by
  obtain ⟨hg, hk, hi, hm, hkr, hd, _, rfl⟩ := h.ok rfl
  have hR := goodR_iff.1 (good_leaf hg hk).1
  refine GetS.uniq (cutL_srt hR.2.2 k) (h2.s hd rfl) (GetS.congr (fun x hx => ?_) (h1.s hg hk))
  show x ∈ c.rows ↔ x ∈ cutL c.rows k
  rw [cutL_mem hR.2.2 hi x]
  exact ⟨fun hm => ⟨hm, by rw [hx]; exact ho⟩, fun hm => hm.1⟩
theorem take_back {c d b : ContD} {k : KeyD} {r : RowD} {x : Int} (h : TakeR c k d r 0) (hb : PutR d r b x) : x = 0 ∧ b = c := by
  obtain ⟨hg, hk, hi, hm, hkr, hd, h4, rfl⟩ := h.ok rfl
  have hR := goodR_iff.1 (good_leaf hg hk).1
  have hsd := cutL_srt hR.2.2 k
  have hn : isR (cutL c.rows k) r.key = false := by
    cases hh : isR (cutL c.rows k) r.key with
    | false => rfl
    | true =>
      obtain ⟨y, hy, hyk⟩ := isR_true hh
      exact absurd (hyk.trans hkr) ((cutL_mem hR.2.2 hi y).1 (List.mem_of_getElem? hy)).2
  obtain ⟨rfl, rfl⟩ := hb.back hd rfl (hR.2.1 r hm) hn h4
  refine ⟨rfl, ?_⟩
  have e : putL (cutL c.rows k) r = c.rows := srt_ext (putL_srt hsd r) hR.2.2 fun y => by
    rw [putL_mem hsd r y, cutL_mem hR.2.2 hi y]
    constructor
    · rintro (rfl | ⟨⟨h1, _⟩, _⟩)
      · exact hm
      · exact h1
    · intro hy
      by_cases he : y.key = k
      · exact .inl (same_key hR.2.2 hy hm (he.trans hkr.symm))
      · exact .inr ⟨⟨hy, he⟩, by rw [hkr]; exact he⟩
  show (⟨1, putL (cutL c.rows k) r, []⟩ : ContD) = c
  rw [e]
  have h3 := (good_leaf hg hk).2
  obtain ⟨kk, rr, dd⟩ := c
  simp only at hk h3
  subst hk h3
  rfl

set_option maxRecDepth 100000 in
set_option maxHeartbeats 1000000 in
theorem eql_row (w : World) (a b c : Int) (s : ByteArray) (d e f : Int) (u : ByteArray) : (binOp .eql 30 (.agg #[.int .i64 a, .int .u16 b, .int .i64 c, .string s]) (.agg #[.int .i64 d, .int .u16 e, .int .i64 f, .string u])).run Try.prog w = .ok (.bool (eqR ⟨⟨a, b⟩, c, s⟩ ⟨⟨d, e⟩, f, u⟩)) w := by
  have h := neq_row w a b c s d e f u
  rw [run_neq_struct] at h
  rw [run_eql_struct]
  revert h
  generalize (Op.equalIn 10000 _ _ _).run Try.prog w = R
  intro h
  cases R with
  | ok v w' =>
    simp only [Result.andThen, Result.ok.injEq, Value.bool.injEq] at h ⊢
    obtain ⟨h1, h2⟩ := h
    exact ⟨by revert h1; cases v <;> cases eqR ⟨⟨a, b⟩, c, s⟩ ⟨⟨d, e⟩, f, u⟩ <;> simp, h2⟩
  | halt x w' => simp [Result.andThen] at h
theorem neq_key (w : World) (a b c d : Int) : (binOp .neq 28 (.agg #[.int .i64 a, .int .u16 b]) (.agg #[.int .i64 c, .int .u16 d])).run Try.prog w = .ok (.bool (!eqK ⟨a, b⟩ ⟨c, d⟩)) w := by
  have h := eq_key w a b c d
  rw [run_eql_struct] at h
  rw [run_neq_struct]
  revert h
  generalize (Op.equalIn 10000 _ _ _).run Try.prog w = R
  intro h
  cases R with
  | ok v w' =>
    simp only [Result.andThen, Result.ok.injEq, Value.bool.injEq] at h ⊢
    obtain ⟨h1, h2⟩ := h
    exact ⟨by rw [h1], h2⟩
  | halt x w' => simp [Result.andThen] at h
end Go.Proofs.Ytaiepdhmlmnggaa
