/- What Ask leaves may be, and what it says: plain mathematics. -/
import Derived.Test.YtbgpppbcffpdbaaGreatDoorLAs
namespace Go.Proofs.YtbgpppbcffpdbaaGreatDoor
open Go.RowKit

theorem modB_is {k : Bool} {m : Int} (h : modB k m = true) : isM m = true := by
  unfold modB at h
  split at h
  · cases h
  · split at h
    · unfold ofK at h; simp only [Bool.and_eq_true] at h; exact h.1
    · unfold ofT at h; simp only [Bool.and_eq_true] at h; exact h.1
theorem sup_facts (k : Bool) {o m : Int} (ho : o = 0 ∨ modB k o = true) (hm : modB k m = true) : modB k (supM o m) = true ∧ covB (supM o m) o = true ∧ covB (supM o m) m = true := by
  have h1 : isM o = true := by
    rcases ho with rfl | h
    · decide
    · exact modB_is h
  obtain ⟨x, hx, rfl⟩ := isM_nat h1
  obtain ⟨y, hy, rfl⟩ := isM_nat (modB_is hm)
  have key : ∀ x : Nat, x < 7 → ∀ y : Nat, y < 7 → ((x == 0 || modB k (x : Int)) && modB k (y : Int) && !(modB k (supM (x : Int) (y : Int)) && covB (supM (x : Int) (y : Int)) (x : Int) && covB (supM (x : Int) (y : Int)) (y : Int))) = false := by
    cases k <;> decide +kernel
  have h2 := key x hx y hy
  have h3 : (x == 0 || modB k (x : Int)) = true := by
    rcases ho with h | h
    · have : x = 0 := by omega
      rw [this]; rfl
    · rw [h, Bool.or_true]
  rw [h3, hm] at h2
  simp only [Bool.true_and, Bool.not_eq_false', Bool.and_eq_true] at h2
  exact ⟨h2.1.1, h2.1.2, h2.2⟩

/-! what is held -/
theorem SortH.ne {hs : List HoldD} (h : SortH hs) {i j : Nat} {a b : HoldD} (ha : hs[i]? = some a) (hb : hs[j]? = some b) (he : a.x = b.x) : i = j := by
  rcases Nat.lt_trichotomy i j with h1 | h1 | h1
  · have := h.lt h1 ha hb; omega
  · exact h1
  · have := h.lt h1 hb ha; omega
theorem SortH.inj {hs : List HoldD} (h : SortH hs) {a b : HoldD} (ha : a ∈ hs) (hb : b ∈ hs) (he : a.x = b.x) : a = b := by
  obtain ⟨i, hi⟩ := List.mem_iff_getElem?.1 ha
  obtain ⟨j, hj⟩ := List.mem_iff_getElem?.1 hb
  have e := h.ne hi hj he
  rw [e, hj] at hi
  exact (Option.some.inj hi).symm
theorem posH_mem {hs : List HoldD} (hso : SortH hs) {h : HoldD} (hm : h ∈ hs) : hs[posH hs h.x]? = some h := by
  obtain ⟨i, hi⟩ := List.mem_iff_getElem?.1 hm
  have h1 : posH hs h.x = i := posH_of (Nat.le_of_lt (List.getElem?_eq_some_iff.1 hi).1) (fun k a hk ha => hso.lt hk ha hi) (fun a ha => by rw [hi] at ha; cases ha; omega)
  rw [h1]; exact hi
theorem held_mem {hs : List HoldD} (hso : SortH hs) {h : HoldD} (hm : h ∈ hs) {x : Int} (hx : h.x = x) : heldH hs x = h.m := by
  subst hx
  unfold heldH
  rw [posH_mem hso hm]
  simp
theorem held_not {hs : List HoldD} {x : Int} (hn : ∀ h ∈ hs, h.x ≠ x) : heldH hs x = 0 := by
  unfold heldH
  cases hx : hs[posH hs x]? with
  | none => rfl
  | some h => exact if_neg (hn h (List.mem_of_getElem? hx))
theorem held_or {hs : List HoldD} (hso : SortH hs) (x : Int) : (∃ h ∈ hs, h.x = x ∧ heldH hs x = h.m) ∨ ((∀ h ∈ hs, h.x ≠ x) ∧ heldH hs x = 0) := by
  by_cases h : ∃ h ∈ hs, h.x = x
  · obtain ⟨h, hm, hx⟩ := h
    exact .inl ⟨h, hm, hx, held_mem hso hm hx⟩
  · have hn : ∀ a ∈ hs, a.x ≠ x := fun a ha e => h ⟨a, ha, e⟩
    exact .inr ⟨hn, held_not hn⟩
theorem fnd_iff {hs : List HoldD} (hso : SortH hs) (x : Int) : fndH hs x = true ↔ ∃ h ∈ hs, h.x = x := by
  constructor
  · intro h
    unfold fndH at h
    cases hx : hs[posH hs x]? with
    | none => rw [hx] at h; cases h
    | some a => rw [hx] at h; exact ⟨a, List.mem_of_getElem? hx, by simpa using h⟩
  · rintro ⟨h, hm, rfl⟩
    unfold fndH
    rw [posH_mem hso hm]
    simp
theorem grant_mem {hs : List HoldD} (hso : SortH hs) (h a : HoldD) : a ∈ grantH hs h ↔ a = h ∨ (a ∈ hs ∧ a.x ≠ h.x) := by
  unfold grantH
  cases hf : fndH hs h.x with
  | true =>
    rw [if_pos rfl]
    obtain ⟨h0, hm0, hx0⟩ := (fnd_iff hso h.x).1 hf
    have hp : hs[posH hs h.x]? = some h0 := by rw [← hx0]; exact posH_mem hso hm0
    have hpl := (List.getElem?_eq_some_iff.1 hp).1
    constructor
    · intro hm
      obtain ⟨j, hj⟩ := List.mem_iff_getElem?.1 hm
      rw [List.getElem?_set] at hj
      by_cases e : posH hs h.x = j
      · rw [if_pos e, if_pos hpl] at hj; cases hj; exact .inl rfl
      · rw [if_neg e] at hj
        exact .inr ⟨List.mem_of_getElem? hj, fun ex => e (hso.ne hp hj (by rw [hx0, ex]))⟩
    · rintro (rfl | ⟨hm, hx⟩)
      · exact List.mem_iff_getElem?.2 ⟨posH hs a.x, by rw [List.getElem?_set, if_pos rfl, if_pos hpl]⟩
      · obtain ⟨j, hj⟩ := List.mem_iff_getElem?.1 hm
        refine List.mem_iff_getElem?.2 ⟨j, ?_⟩
        rw [List.getElem?_set, if_neg (fun e => hx (by rw [← e, hp] at hj; cases hj; exact hx0))]
        exact hj
  | false =>
    rw [if_neg (by decide)]
    have hn : ∀ b ∈ hs, b.x ≠ h.x := fun b hb e => by rw [(fnd_iff hso h.x).2 ⟨b, hb, e⟩] at hf; cases hf
    have hsp : ∀ b, b ∈ hs ↔ b ∈ hs.take (posH hs h.x) ∨ b ∈ hs.drop (posH hs h.x) := fun b => by
      conv => lhs; rw [← List.take_append_drop (posH hs h.x) hs]
      exact List.mem_append
    rw [List.mem_append, List.mem_cons]
    constructor
    · rintro (hm | rfl | hm)
      · exact .inr ⟨(hsp a).2 (.inl hm), hn a ((hsp a).2 (.inl hm))⟩
      · exact .inl rfl
      · exact .inr ⟨(hsp a).2 (.inr hm), hn a ((hsp a).2 (.inr hm))⟩
    · rintro (rfl | ⟨hm, _⟩)
      · exact .inr (.inl rfl)
      · rcases (hsp a).1 hm with hm | hm
        · exact .inl hm
        · exact .inr (.inr hm)
theorem held_grant {hs : List HoldD} (hso : SortH hs) (h : HoldD) (x : Int) : heldH (grantH hs h) x = if x = h.x then h.m else heldH hs x := by
  by_cases hx : x = h.x
  · rw [if_pos hx]
    exact held_mem (grant_sort hso h) ((grant_mem hso h h).2 (.inl rfl)) hx.symm
  · rw [if_neg hx]
    rcases held_or hso x with ⟨a, ha, hax, he⟩ | ⟨hn, he⟩
    · rw [he]
      exact held_mem (grant_sort hso h) ((grant_mem hso h a).2 (.inr ⟨ha, by rw [hax]; exact hx⟩)) hax
    · rw [he]
      exact held_not (fun a ha => by
        rcases (grant_mem hso h a).1 ha with rfl | ⟨ha, _⟩
        · exact fun e => hx e.symm
        · exact hn a ha)
theorem tog_mem {hs : List HoldD} (hso : SortH hs) : togB hs = true ↔ ∀ a ∈ hs, ∀ b ∈ hs, a.x ≠ b.x → goesB a.m b.m = true := by
  rw [togB_iff]
  constructor
  · intro h a ha b hb hne
    obtain ⟨i, hi⟩ := List.mem_iff_getElem?.1 ha
    obtain ⟨j, hj⟩ := List.mem_iff_getElem?.1 hb
    rcases Nat.lt_trichotomy i j with h1 | h1 | h1
    · rw [goesB_sym]; exact h j i b a h1 hj hi
    · rw [h1, hj] at hi; cases hi; exact absurd rfl hne
    · exact h i j a b h1 hi hj
  · intro h i j a b hij hi hj
    exact h a (List.mem_of_getElem? hi) b (List.mem_of_getElem? hj) (fun e => by have := hso.ne hi hj e; omega)
theorem goesW_iff {hs : List HoldD} {a : WaitD} : goesW hs a = true ↔ ∀ h ∈ hs, h.x ≠ a.x → goesB h.m a.m = true := by
  unfold goesW
  rw [Bool.not_eq_true', Bool.eq_false_iff]
  constructor
  · intro h b hb hne
    cases hg : goesB b.m a.m with
    | true => rfl
    | false => exact absurd (List.any_eq_true.2 ⟨b, hb, by unfold hindB; simp [hne, hg]⟩) h
  · intro h hx
    obtain ⟨b, hb, hh⟩ := List.any_eq_true.1 hx
    unfold hindB at hh
    simp only [Bool.and_eq_true, decide_eq_true_eq, Bool.not_eq_true'] at hh
    rw [h b hb hh.1] at hh
    exact absurd hh.2 (by decide)
theorem goesW_not {hs : List HoldD} {a : WaitD} : goesW hs a = false ↔ ∃ h ∈ hs, h.x ≠ a.x ∧ goesB h.m a.m = false := by
  constructor
  · intro h
    by_cases he : ∃ h ∈ hs, h.x ≠ a.x ∧ goesB h.m a.m = false
    · exact he
    · have : goesW hs a = true := goesW_iff.2 (fun b hb hne => by
        cases hg : goesB b.m a.m with
        | true => rfl
        | false => exact absurd ⟨b, hb, hne, hg⟩ he)
      rw [h] at this; cases this
  · rintro ⟨b, hb, hne, hg⟩
    cases hw : goesW hs a with
    | false => rfl
    | true => rw [goesW_iff.1 hw b hb hne] at hg; cases hg

/-! the queues of a row -/
theorem txL_mem {L : List QueD} {x : Int} : x ∈ txL L ↔ ∃ d ∈ L, ∃ a ∈ d.ws, a.x = x := by
  unfold txL
  simp only [List.mem_flatMap, List.mem_map]
theorem wait_neg {ws : List WaitD} {x : Int} : waitI ws x < 0 ↔ ∀ a ∈ ws, a.x ≠ x := by
  unfold waitI
  rcases fIdx_or (fun a : WaitD => a.x == x) ws with ⟨h1, h2⟩ | ⟨k, a, h1, h2, h3, _⟩
  · rw [h1]
    exact ⟨fun _ a ha => by simpa using h2 a ha, fun _ => by decide⟩
  · rw [h1]
    exact ⟨fun h => by omega, fun h => absurd (by simpa using h3) (h a (List.mem_of_getElem? h2))⟩
theorem nowait_iff {L : List QueD} {x : Int} : NoW L x L.length ↔ x ∉ txL L := by
  rw [txL_mem]
  constructor
  · rintro h ⟨d, hd, a, ha, hx⟩
    obtain ⟨i, hi⟩ := List.mem_iff_getElem?.1 hd
    exact wait_neg.1 (h i d (List.getElem?_eq_some_iff.1 hi).1 hi) a ha hx
  · intro h i d _ hd
    exact wait_neg.2 (fun a ha hx => h ⟨d, List.mem_of_getElem? hd, a, ha, hx⟩)
theorem cmpR_self (r : ResD) : ¬ cmpR r r < 0 := by rw [cmpR_lt]; omega
theorem qOf_at {L : List QueD} (hso : SortQ L) {i : Nat} {d : QueD} {r : ResD} (hd : L[i]? = some d) (hr : d.res = r) : posQ L r = i ∧ qOf L r = d ∧ thereQ L r = true := by
  subst hr
  have h1 : posQ L d.res = i := posQ_of (Nat.le_of_lt (List.getElem?_eq_some_iff.1 hd).1) (fun k a hk ha => hso.lt hk ha hd) (fun a ha => by rw [hd] at ha; cases ha; exact cmpR_self _)
  refine ⟨h1, ?_, ?_⟩
  · unfold qOf; rw [h1, hd]; simp
  · unfold thereQ; rw [h1, hd]; simp
theorem cmpR_tot {a b : ResD} (ha : a.ok) (hb : b.ok) (hra : resB a = true) (hrb : resB b = true) (h : ¬ cmpR a b < 0) (hne : a ≠ b) : cmpR b a < 0 := by
  rw [cmpR_lt] at *
  obtain ⟨t, k, id⟩ := a
  obtain ⟨t', k', id'⟩ := b
  unfold ResD.ok at ha hb
  unfold resB at hra hrb
  unfold inT at *
  simp only [Bool.and_eq_true, decide_eq_true_eq, Bool.or_eq_true, beq_iff_eq] at *
  by_cases ht : t = t'
  · subst ht
    cases k <;> cases k' <;> simp at * <;> first | omega | (have : id ≠ id' := fun e => hne (by rw [e]); omega)
  · omega
theorem posQ_not {L : List QueD} {r : ResD} : ∀ {d}, L[posQ L r]? = some d → ¬ cmpR d.res r < 0 := by
  induction L with
  | nil => intro d h; simp at h
  | cons a L ih =>
    intro d h
    unfold posQ at h
    rw [List.takeWhile_cons] at h
    split at h
    · rw [List.length_cons, List.getElem?_cons_succ] at h
      exact ih h
    · rename_i hc
      simp at h; subst h
      simpa using hc
theorem posQ_in {L : List QueD} {r : ResD} : ∀ {k d}, k < posQ L r → L[k]? = some d → cmpR d.res r < 0 := by
  induction L with
  | nil => intro k d _ h; simp at h
  | cons a L ih =>
    intro k d hk h
    unfold posQ at hk
    rw [List.takeWhile_cons] at hk
    split at hk
    · rename_i hc
      cases k with
      | zero => simp at h; subst h; simpa using hc
      | succ k => exact ih (k := k) (by unfold posQ; simpa using hk) (by simpa using h)
    · simp at hk

theorem ChkOk.set {L : List QueD} (h : ChkOk L) {p : Nat} {d d' : QueD} (hd : L[p]? = some d) (hf : QuFit d') (hr : d'.res = d.res) (hn : (txL (L.set p d')).Nodup) : ChkOk (L.set p d') := by
  have hp := (List.getElem?_eq_some_iff.1 hd).1
  refine ⟨by rw [List.length_set]; exact h.len, hn, fun e he => ?_, fun j a b ha hb => ?_⟩
  · rcases List.mem_or_eq_of_mem_set he with he | rfl
    · exact h.fit e he
    · exact hf
  · have hg : ∀ (j : Nat) (e : QueD), (L.set p d')[j]? = some e → ∃ e' : QueD, L[j]? = some e' ∧ e'.res = e.res := fun j e he => by
      rw [List.getElem?_set] at he
      by_cases hj : p = j
      · rw [if_pos hj, if_pos hp] at he; cases he
        exact ⟨d, by rw [← hj]; exact hd, hr.symm⟩
      · rw [if_neg hj] at he; exact ⟨e, he, rfl⟩
    obtain ⟨a', ha', e1⟩ := hg j a ha
    obtain ⟨b', hb', e2⟩ := hg (j + 1) b hb
    rw [← e1, ← e2]
    exact h.ord j a' b' ha' hb'
theorem ChkOk.ins {L : List QueD} (h : ChkOk L) (hok : ∀ d ∈ L, d.res.ok) {r : ResD} (hro : r.ok) (hrr : resB r = true) (ht : thereQ L r = false) {d' : QueD} (hf : QuFit d') (hr : d'.res = r) (hl : L.length < 500) (hn : (txL (L.take (posQ L r) ++ d' :: L.drop (posQ L r))).Nodup) : ChkOk (L.take (posQ L r) ++ d' :: L.drop (posQ L r)) := by
  have hp := posQ_le L r
  have hgt : ∀ b, L[posQ L r]? = some b → cmpR r b.res < 0 := fun b hb => by
    refine cmpR_tot (hok b (List.mem_of_getElem? hb)) hro (h.fit b (List.mem_of_getElem? hb)).res hrr (posQ_not hb) (fun e => ?_)
    unfold thereQ at ht
    rw [hb] at ht
    simp at ht
    exact ht e
  refine ⟨by rw [List.length_append, List.length_cons, List.length_take, List.length_drop]; omega, hn, fun e he => ?_, fun j a b ha hb => ?_⟩
  · rcases List.mem_append.1 he with he | he
    · exact h.fit e (List.mem_of_mem_take he)
    · rcases List.mem_cons.1 he with rfl | he
      · exact hf
      · exact h.fit e (List.mem_of_mem_drop he)
  · rcases ins_get hp ha with ⟨j1, k1⟩ | ⟨j1, k1⟩ | ⟨j1, k1⟩ <;> rcases ins_get hp hb with ⟨j2, k2⟩ | ⟨j2, k2⟩ | ⟨j2, k2⟩
    · exact h.ord j a b k1 k2
    · rw [k2, hr]; exact posQ_in j1 k1
    · omega
    · omega
    · omega
    · rw [k1, hr]
      have e : j + 1 - 1 = posQ L r := by omega
      rw [e] at k2
      exact hgt b k2
    · omega
    · omega
    · have e : j + 1 - 1 = j - 1 + 1 := by omega
      rw [e] at k2
      exact h.ord (j - 1) a b k1 k2
end Go.Proofs.YtbgpppbcffpdbaaGreatDoor
