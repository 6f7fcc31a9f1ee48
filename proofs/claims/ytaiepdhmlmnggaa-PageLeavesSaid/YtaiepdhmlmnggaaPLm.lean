/- Leaves: what the document's With, Without, Find say of them. -/
import Derived.Test.YtaiepdhmlmnggaaPHm
import Derived.Test.YtaiepdhmlmnggaaYWit
namespace Go.Proofs.Ytaiepdhmlmnggaa
open Go.RowKit

theorem outL_mem {L : List RowD} {k : KeyD} {x : RowD} : x ∈ outL L k ↔ x ∈ L ∧ x.key ≠ k := by
  unfold outL gatL notP
  rw [List.mem_filter]
  refine and_congr Iff.rfl ?_
  cases h : eqK x.key k with
  | true => simp [eqK_iff.1 h]
  | false => simp only [Bool.not_false, true_iff]; exact fun e => by rw [eqK_iff.2 e] at h; cases h
theorem insL_mem : ∀ {M : List RowD} {r x : RowD}, x ∈ insL M r ↔ x = r ∨ x ∈ M
  | [], r, x => by simp [insL]
  | y :: t, r, x => by
    unfold insL
    by_cases h : cmpK r.key y.key < 0
    · rw [if_pos h, List.mem_cons]
    · rw [if_neg h, List.mem_cons, insL_mem, List.mem_cons]
      constructor
      · rintro (h | h | h)
        · exact .inr (.inl h)
        · exact .inl h
        · exact .inr (.inr h)
      · rintro (h | h | h)
        · exact .inr (.inl h)
        · exact .inl h
        · exact .inr (.inr h)
theorem insL_srt : ∀ {M : List RowD} {r : RowD}, M.Pairwise RlR → (∀ x ∈ M, x.key ≠ r.key) → (insL M r).Pairwise RlR
  | [], r, _, _ => by simp [insL]
  | y :: t, r, h, hn => by
    obtain ⟨h1, h2⟩ := List.pairwise_cons.1 h
    unfold insL
    by_cases hc : cmpK r.key y.key < 0
    · rw [if_pos hc]
      refine List.pairwise_cons.2 ⟨fun x hx => ?_, h⟩
      rcases List.mem_cons.1 hx with rfl | hx
      · exact hc
      · exact cmpK_trans' hc (h1 x hx)
    · rw [if_neg hc]
      refine List.pairwise_cons.2 ⟨fun x hx => ?_, insL_srt h2 (fun x hx => hn x (List.mem_cons_of_mem _ hx))⟩
      rcases insL_mem.1 hx with rfl | hx
      · exact cmp_not hc (fun e => hn y (List.mem_cons_self ..) e.symm)
      · exact h1 x hx
theorem withL_putL {L : List RowD} (hs : L.Pairwise RlR) (r : RowD) : withL L r = putL L r := by
  have ho : (outL L r.key).Pairwise RlR := hs.sublist (List.filter_sublist ..)
  refine srt_ext (insL_srt ho (fun x hx => (outL_mem.1 hx).2)) (putL_srt hs r) fun x => ?_
  show x ∈ insL (outL L r.key) r ↔ _
  rw [insL_mem, outL_mem, putL_mem hs]
theorem outL_cutL {L : List RowD} (hs : L.Pairwise RlR) {k : KeyD} (h : isR L k = true) : outL L k = cutL L k :=
  srt_ext (hs.sublist (List.filter_sublist ..)) (cutL_srt hs k) fun x => by rw [outL_mem, cutL_mem hs h]
theorem findAt_is {L : List RowD} (hs : L.Pairwise RlR) {k : KeyD} : (isR L k = true ∧ ∃ i : Nat, findAt L k = i ∧ ∃ r, L[i]? = some r ∧ r.key = k) ∨ (isR L k = false ∧ findAt L k = -1) := by
  unfold findAt findK
  cases h : L.findIdx? (fun r => eqK r.key k) with
  | none =>
    right
    rw [List.findIdx?_eq_none_iff] at h
    refine ⟨?_, rfl⟩
    cases hi : isR L k with
    | false => rfl
    | true =>
      obtain ⟨r, hr, hk⟩ := isR_true hi
      have h2 := h r (List.mem_of_getElem? hr)
      rw [eqK_iff.2 hk] at h2
      cases h2
  | some i =>
    left
    rw [List.findIdx?_eq_some_iff_getElem] at h
    obtain ⟨hl, hk, _⟩ := h
    refine ⟨?_, i, rfl, L[i], List.getElem?_eq_getElem hl, eqK_iff.1 hk⟩
    cases hi : isR L k with
    | true => rfl
    | false => exact absurd (eqK_iff.1 hk) (isR_false hs hi _ (List.getElem_mem hl))
end Go.Proofs.Ytaiepdhmlmnggaa
