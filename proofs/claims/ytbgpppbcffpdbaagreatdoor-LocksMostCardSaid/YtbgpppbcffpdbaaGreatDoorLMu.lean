/- What Ask leaves may be, and what it says: the queue, and the row. -/
import Derived.Test.YtbgpppbcffpdbaaGreatDoorLMt
namespace Go.Proofs.YtbgpppbcffpdbaaGreatDoor
open Go.RowKit

theorem grant_fit {d : QueD} {x s : Int} (hres : resB d.res = true) (hso : SortH d.hs) (hone : ∀ h ∈ d.hs, txnB h.x = true ∧ modB d.res.k h.m = true) (htog : togB d.hs = true) (hws : WsFit d.res.k d.hs d.ws) (hx : txnB x = true) (hnw : ∀ a ∈ d.ws, a.x ≠ x)
    (hs : modB d.res.k s = true) (hcov : covB s (heldH d.hs x) = true) (hgo : ∀ h ∈ d.hs, h.x ≠ x → goesB h.m s = true) : QuFit ⟨d.res, grantH d.hs ⟨x, s⟩, d.ws⟩ := by
  refine ⟨hres, ⟨fun h hm => ?_, grant_sort hso _, fun e => ?_, (tog_mem (grant_sort hso _)).2 (fun a ha b hb hne => ?_)⟩, ⟨fun a ha => ?_, hws.ord, fun a ha => ?_⟩⟩
  · rcases (grant_mem hso _ h).1 hm with rfl | ⟨hm, _⟩
    · exact ⟨hx, hs⟩
    · exact hone h hm
  · have h1 := (grant_mem hso ⟨x, s⟩ ⟨x, s⟩).2 (.inl rfl)
    have e' : grantH d.hs ⟨x, s⟩ = [] := e
    rw [e'] at h1
    cases h1
  · rcases (grant_mem hso _ a).1 ha with rfl | ⟨ha, hax⟩
    · rcases (grant_mem hso _ b).1 hb with rfl | ⟨hb, hbx⟩
      · exact absurd rfl hne
      · rw [goesB_sym]; exact hgo b hb hbx
    · rcases (grant_mem hso _ b).1 hb with rfl | ⟨hb, hbx⟩
      · exact hgo a ha hax
      · exact (tog_mem hso).1 htog a ha b hb hne
  · obtain ⟨h1, h2, h3, h4, h5⟩ := hws.one a ha
    refine ⟨h1, h2, ?_, h4, h5⟩
    show a.h = heldH (grantH d.hs ⟨x, s⟩) a.x
    rw [held_grant hso, if_neg (hnw a ha)]
    exact h3
  · obtain ⟨h, hm, hne, hg⟩ := goesW_not.1 (hws.first a ha)
    refine goesW_not.2 ?_
    by_cases hxx : h.x = x
    · refine ⟨⟨x, s⟩, (grant_mem hso _ _).2 (.inl rfl), fun e => hne (by rw [hxx]; exact e), ?_⟩
      rw [held_mem hso hm hxx] at hcov
      cases hgs : goesB s a.m with
      | false => rfl
      | true => rw [goesB_down hcov hgs] at hg; cases hg
    · exact ⟨h, (grant_mem hso _ _).2 (.inr ⟨hm, hxx⟩), hne, hg⟩
theorem ins_mem {α : Type} {l : List α} {p : Nat} {x a : α} : a ∈ l.take p ++ x :: l.drop p ↔ a = x ∨ a ∈ l := by
  have h : a ∈ l ↔ a ∈ l.take p ∨ a ∈ l.drop p := by
    conv => lhs; rw [← List.take_append_drop p l]
    exact List.mem_append
  rw [List.mem_append, List.mem_cons, h]
  constructor
  · rintro (h | h | h)
    · exact .inr (.inl h)
    · exact .inl h
    · exact .inr (.inr h)
  · rintro (h | h | h)
    · exact .inr (.inl h)
    · exact .inl h
    · exact .inr (.inr h)
theorem line_fit {d : QueD} (hf : QuFit d) {x s : Int} (hx : txnB x = true) (hs : modB d.res.k s = true) (hc1 : covB (heldH d.hs x) s = false) (hc2 : covB s (heldH d.hs x) = true)
    (hgo : ¬ (goesW d.hs ⟨x, s, heldH d.hs x⟩ = true ∧ (convB ⟨x, s, heldH d.hs x⟩ = true ∨ d.ws.length = 0))) : QuFit (linD ⟨x, s, heldH d.hs x⟩ d) := by
  obtain ⟨hp, hl1, hl2⟩ := lineAt_of hf.ws.ord ⟨x, s, heldH d.hs x⟩
  refine ⟨hf.res, hf.hs, ⟨fun a ha => ?_, fun j p a h1 h2 hca => ?_, fun a ha => ?_⟩⟩
  · rcases ins_mem.1 ha with rfl | ha
    · exact ⟨hx, hs, rfl, hc1, hc2⟩
    · exact hf.ws.one a ha
  · rcases ins_get hp h1 with ⟨j1, k1⟩ | ⟨j1, k1⟩ | ⟨j1, k1⟩ <;> rcases ins_get hp h2 with ⟨j2, k2⟩ | ⟨j2, k2⟩ | ⟨j2, k2⟩
    · exact hf.ws.ord j p a k1 k2 hca
    · rw [k2] at hca
      exact (hl2 hca).2 j p j2.symm k1
    · omega
    · omega
    · omega
    · rw [k1]
      cases hz : convB ⟨x, s, heldH d.hs x⟩ with
      | true => rfl
      | false =>
        have h3 := hl1 hz
        have h4 := (List.getElem?_eq_some_iff.1 k2).1
        omega
    · omega
    · omega
    · have e : j + 1 - 1 = j - 1 + 1 := by omega
      rw [e] at k2
      exact hf.ws.ord (j - 1) p a k1 k2 hca
  · rcases ins_get hp ha with ⟨j1, k1⟩ | ⟨j1, k1⟩ | ⟨j1, k1⟩
    · exact hf.ws.first a k1
    · rw [k1]
      show goesW d.hs ⟨x, s, heldH d.hs x⟩ = false
      cases hg : goesW d.hs ⟨x, s, heldH d.hs x⟩ with
      | false => rfl
      | true =>
        cases hz : convB ⟨x, s, heldH d.hs x⟩ with
        | true => exact absurd ⟨hg, .inl hz⟩ hgo
        | false =>
          have h3 := hl1 hz
          exact absurd ⟨hg, .inr (by omega)⟩ hgo
    · omega
theorem txL_set {L : List QueD} {p : Nat} {d d' : QueD} (hd : L[p]? = some d) (hw : d'.ws = d.ws) : txL (L.set p d') = txL L := by
  have hp := (List.getElem?_eq_some_iff.1 hd).1
  have h1 : L = L.take p ++ d :: L.drop (p + 1) := by
    conv => lhs; rw [← List.take_append_drop p L, List.drop_eq_getElem_cons hp, (List.getElem?_eq_some_iff.1 hd).2]
  have h2 : L.set p d' = L.take p ++ d' :: L.drop (p + 1) := List.set_eq_take_append_cons_drop .. |>.trans (by rw [if_pos hp])
  rw [h2]
  conv => rhs; rw [h1]
  simp [txL, hw]
theorem txL_ins {L : List QueD} {p : Nat} {d' : QueD} (hw : d'.ws = []) : txL (L.take p ++ d' :: L.drop p) = txL L := by
  have h1 : txL (L.take p ++ d' :: L.drop p) = txL (L.take p) ++ txL (L.drop p) := by simp [txL, hw]
  rw [h1]
  have h2 : txL (L.take p ++ L.drop p) = txL (L.take p) ++ txL (L.drop p) := by simp only [txL, List.flatMap_append]
  rw [List.take_append_drop] at h2
  exact h2.symm
theorem txL_line {L : List QueD} {p i : Nat} {d : QueD} {z : WaitD} (hd : L[p]? = some d) : (txL (L.set p ⟨d.res, d.hs, d.ws.take i ++ z :: d.ws.drop i⟩)).Perm (z.x :: txL L) := by
  have hp := (List.getElem?_eq_some_iff.1 hd).1
  have h1 : L = L.take p ++ d :: L.drop (p + 1) := by
    conv => lhs; rw [← List.take_append_drop p L, List.drop_eq_getElem_cons hp, (List.getElem?_eq_some_iff.1 hd).2]
  have h2 : L.set p ⟨d.res, d.hs, d.ws.take i ++ z :: d.ws.drop i⟩ = L.take p ++ ⟨d.res, d.hs, d.ws.take i ++ z :: d.ws.drop i⟩ :: L.drop (p + 1) := List.set_eq_take_append_cons_drop .. |>.trans (by rw [if_pos hp])
  rw [h2]
  have h3 : txL L = txL (L.take p) ++ ((d.ws.take i).map (·.x) ++ (d.ws.drop i).map (·.x)) ++ txL (L.drop (p + 1)) := by
    conv => lhs; rw [h1]
    rw [← List.map_append, List.take_append_drop]
    simp [txL]
  rw [h3]
  have h4 : txL (L.take p ++ (⟨d.res, d.hs, d.ws.take i ++ z :: d.ws.drop i⟩ : QueD) :: L.drop (p + 1)) = (txL (L.take p) ++ (d.ws.take i).map (·.x)) ++ z.x :: ((d.ws.drop i).map (·.x) ++ txL (L.drop (p + 1))) := by simp [txL]
  rw [h4]
  refine List.perm_middle.trans (List.Perm.cons _ ?_)
  simp only [List.append_assoc]
  exact List.Perm.refl _

/-- what comes of a question that is let -/
structure AskOk (L : List QueD) (x : Int) (r : ResD) (m : Int) (L' : List QueD) (a : Int) : Prop where
  chk : ChkOk L'
  ok : ∀ d ∈ L', d.res.ok
  what : (a = 1 ∧ L' = L ∧ x ∉ txL L' ∧ covB (heldH (qOf L' r).hs x) m = true) ∨ (a = 2 ∧ x ∉ txL L' ∧ covB (heldH (qOf L' r).hs x) m = true) ∨
    (a = 3 ∧ (∃ d', wtOf L' x = some d' ∧ d'.res = r ∧ covB (wtrOf d' x).m m = true) ∧ covB (heldH (qOf L' r).hs x) m = false ∧ ∃ d ∈ L, d.res = r ∧ ((∃ h ∈ d.hs, h.x ≠ x) ∨ d.ws ≠ []))
theorem qOf_none {L : List QueD} {r : ResD} (h : thereQ L r = false) : (qOf L r).hs = [] ∧ (qOf L r).ws = [] := by rw [there_none h]; exact ⟨rfl, rfl⟩
theorem want_no {hs : List HoldD} {x m : Int} (h : (wantE hs x m).2 = false) : covB (heldH hs x) m = false ∧ (wantE hs x m).1 = ⟨x, supM (heldH hs x) m, heldH hs x⟩ := by
  unfold wantE at h ⊢
  split at h
  · cases h
  · rename_i hc
    rw [if_neg hc]
    exact ⟨by simpa using hc, rfl⟩
theorem ask_ok {L : List QueD} {x : Int} {r : ResD} {m : Int} {L' : List QueD} {a : Int} (h1 : AskE L x r m 0) (hok : ∀ d ∈ L, d.res.ok) (hro : r.ok) (he : askF L x r m = (L', a, 0)) : AskOk L x r m L' a := by
  obtain ⟨hck, hx, hrr, hm, hno⟩ := h1.chk
  have hnx : x ∉ txL L := nowait_iff.1 hno
  have hsq := hck.sort
  unfold askF at he
  by_cases hd : (wantE (qOf L r).hs x m).2 = true
  · rw [if_pos hd] at he
    cases he
    refine ⟨hck, hok, .inl ⟨rfl, rfl, hnx, ?_⟩⟩
    unfold wantE at hd
    split at hd
    · assumption
    · cases hd
  rw [if_neg hd] at he
  have hd' : (wantE (qOf L r).hs x m).2 = false := by simpa using hd
  obtain ⟨hcn, hz⟩ := want_no hd'
  rw [hz] at he
  by_cases hf : thereQ L r = false ∧ L.length = 500
  · rw [if_pos hf] at he; cases he
  rw [if_neg hf] at he
  cases hT : thereQ L r with
  | true =>
    obtain ⟨d, hp, hdr, hq⟩ := there_some hT
    have hdm := List.mem_of_getElem? hp
    have hfit := hck.fit d hdm
    rw [hq] at he hcn
    have hown : heldH d.hs x = 0 ∨ modB d.res.k (heldH d.hs x) = true := by
      rcases held_or hfit.hs.sort x with ⟨h, hh, _, e⟩ | ⟨_, e⟩
      · rw [e]; exact .inr (hfit.hs.one h hh).2
      · exact .inl e
    have hmk : modB d.res.k m = true := by rw [hdr]; exact hm
    obtain ⟨s1, s2, s3⟩ := sup_facts d.res.k hown hmk
    have hnw : ∀ a ∈ d.ws, a.x ≠ x := fun a ha e => hnx (txL_mem.2 ⟨d, hdm, a, ha, e⟩)
    have hset : ∀ d' : QueD, d'.res = d.res → chgL L r (fun _ => d') = L.set (posQ L r) d' := fun d' _ => by unfold chgL; rw [hT, if_pos rfl]
    by_cases hg : goesW d.hs ⟨x, supM (heldH d.hs x) m, heldH d.hs x⟩ = true ∧ (convB ⟨x, supM (heldH d.hs x) m, heldH d.hs x⟩ = true ∨ d.ws.length = 0)
    · rw [if_pos hg] at he
      have hL' : L.set (posQ L r) (graD ⟨x, supM (heldH d.hs x) m, heldH d.hs x⟩ d) = L' := by
        have := congrArg Prod.fst he
        unfold chgL at this
        rw [hT, if_pos rfl, hq] at this
        exact this
      have ha : a = 2 := (congrArg (fun z => z.2.1) he).symm
      subst ha
      have hfit' : QuFit (graD ⟨x, supM (heldH d.hs x) m, heldH d.hs x⟩ d) := grant_fit hfit.res hfit.hs.sort hfit.hs.one hfit.hs.tog hfit.ws hx hnw s1 s2 (fun h hh hne => goesW_iff.1 hg.1 h hh hne)
      have htx := txL_set (d' := graD ⟨x, supM (heldH d.hs x) m, heldH d.hs x⟩ d) hp rfl
      have hc' : ChkOk L' := by rw [← hL']; exact hck.set hp hfit' rfl (by rw [htx]; exact hck.nodup)
      have hat : L'[posQ L r]? = some (graD ⟨x, supM (heldH d.hs x) m, heldH d.hs x⟩ d) := by rw [← hL', List.getElem?_set, if_pos rfl, if_pos (List.getElem?_eq_some_iff.1 hp).1]
      have hqo := (qOf_at hc'.sort hat (show (graD ⟨x, supM (heldH d.hs x) m, heldH d.hs x⟩ d).res = r from hdr)).2.1
      refine ⟨hc', fun e hem => ?_, .inr (.inl ⟨rfl, by rw [← hL', htx]; exact hnx, ?_⟩)⟩
      · rw [← hL'] at hem
        rcases List.mem_or_eq_of_mem_set hem with hem | rfl
        · exact hok e hem
        · exact hok d hdm
      · rw [hqo]
        show covB (heldH (grantH d.hs ⟨x, supM (heldH d.hs x) m⟩) x) m = true
        rw [held_grant hfit.hs.sort, if_pos rfl]
        exact s3
    · rw [if_neg hg] at he
      have hL' : L.set (posQ L r) (linD ⟨x, supM (heldH d.hs x) m, heldH d.hs x⟩ d) = L' := by
        have := congrArg Prod.fst he
        unfold chgL at this
        rw [hT, if_pos rfl, hq] at this
        exact this
      have ha : a = 3 := (congrArg (fun z => z.2.1) he).symm
      subst ha
      have hc1 : covB (heldH d.hs x) (supM (heldH d.hs x) m) = false := by
        cases hcc : covB (heldH d.hs x) (supM (heldH d.hs x) m) with
        | false => rfl
        | true => rw [covB_trans hcc s3] at hcn; cases hcn
      have hfit' : QuFit (linD ⟨x, supM (heldH d.hs x) m, heldH d.hs x⟩ d) := line_fit hfit hx s1 hc1 s2 hg
      have hperm := txL_line (i := lineP d.ws ⟨x, supM (heldH d.hs x) m, heldH d.hs x⟩) (z := ⟨x, supM (heldH d.hs x) m, heldH d.hs x⟩) hp
      have hc' : ChkOk L' := by rw [← hL']; exact hck.set hp hfit' rfl (hperm.nodup_iff.2 (List.nodup_cons.2 ⟨hnx, hck.nodup⟩))
      have hat : L'[posQ L r]? = some (linD ⟨x, supM (heldH d.hs x) m, heldH d.hs x⟩ d) := by rw [← hL', List.getElem?_set, if_pos rfl, if_pos (List.getElem?_eq_some_iff.1 hp).1]
      have hqo := (qOf_at hc'.sort hat (show (linD ⟨x, supM (heldH d.hs x) m, heldH d.hs x⟩ d).res = r from hdr)).2.1
      have hw0 : 0 ≤ waitI (linD ⟨x, supM (heldH d.hs x) m, heldH d.hs x⟩ d).ws x := by
        rcases Int.lt_or_le (waitI (linD ⟨x, supM (heldH d.hs x) m, heldH d.hs x⟩ d).ws x) 0 with h | h
        · exact absurd rfl (wait_neg.1 h ⟨x, supM (heldH d.hs x) m, heldH d.hs x⟩ (ins_mem.2 (.inl rfl)))
        · exact h
      have hnw' : NoW L' x (posQ L r) := fun i e hi hem => by
        rw [← hL', List.getElem?_set, if_neg (by omega)] at hem
        exact hno i e (List.getElem?_eq_some_iff.1 hem).1 hem
      obtain ⟨k, b, _, _, hb1, hb2, hb3, _⟩ := wtr_at hw0
      have hbz : b = ⟨x, supM (heldH d.hs x) m, heldH d.hs x⟩ := by
        rcases ins_mem.1 (List.mem_of_getElem? hb1) with e | e
        · exact e
        · exact absurd hb3 (hnw b e)
      refine ⟨hc', fun e hem => ?_, .inr (.inr ⟨rfl, ⟨_, wtOf_some hat hw0 hnw', hdr, ?_⟩, ?_, d, hdm, hdr, ?_⟩)⟩
      · rw [← hL'] at hem
        rcases List.mem_or_eq_of_mem_set hem with hem | rfl
        · exact hok e hem
        · exact hok d hdm
      · rw [hb2, hbz]; exact s3
      · rw [hqo]; exact hcn
      · cases hgw : goesW d.hs ⟨x, supM (heldH d.hs x) m, heldH d.hs x⟩ with
        | false =>
          obtain ⟨h, hh, hne, _⟩ := goesW_not.1 hgw
          exact .inl ⟨h, hh, hne⟩
        | true =>
          refine .inr (fun e => hg ⟨hgw, .inr (by rw [e]; rfl)⟩)
  | false =>
    obtain ⟨q1, q2⟩ := qOf_none hT
    have hl : L.length < 500 := by
      have := hck.len
      rcases Nat.lt_or_ge L.length 500 with h | h
      · exact h
      · exact absurd ⟨hT, by omega⟩ hf
    rw [q1, q2] at he
    have hh0 : heldH [] x = 0 := rfl
    rw [hh0] at he
    have hg : goesW [] ⟨x, supM 0 m, 0⟩ = true ∧ (convB ⟨x, supM 0 m, 0⟩ = true ∨ ([] : List WaitD).length = 0) := ⟨rfl, .inr rfl⟩
    rw [if_pos hg] at he
    have hL' : L.take (posQ L r) ++ graD ⟨x, supM 0 m, 0⟩ ⟨r, [], []⟩ :: L.drop (posQ L r) = L' := by
      have := congrArg Prod.fst he
      unfold chgL at this
      rw [hT, if_neg (by decide)] at this
      exact this
    have ha : a = 2 := (congrArg (fun z => z.2.1) he).symm
    subst ha
    obtain ⟨s1, s2, s3⟩ := sup_facts r.k (.inl (rfl : (0 : Int) = 0)) hm
    have hfit' : QuFit (graD ⟨x, supM 0 m, 0⟩ ⟨r, [], []⟩) := grant_fit (d := ⟨r, [], []⟩) hrr List.Pairwise.nil (fun h hh => by cases hh) rfl ⟨(fun a ha => by cases ha), (fun j p a h => by simp at h), (fun a h => by simp at h)⟩ hx (fun a ha => by cases ha) s1 s2 (fun h hh => by cases hh)
    have htx := txL_ins (L := L) (p := posQ L r) (d' := graD ⟨x, supM 0 m, 0⟩ ⟨r, [], []⟩) rfl
    have hc' : ChkOk L' := by rw [← hL']; exact hck.ins hok hro hrr hT hfit' rfl hl (by rw [htx]; exact hck.nodup)
    have hat : L'[posQ L r]? = some (graD ⟨x, supM 0 m, 0⟩ ⟨r, [], []⟩) := by
      rw [← hL', List.getElem?_append_right (by rw [List.length_take]; omega), List.length_take, Nat.min_eq_left (posQ_le L r), Nat.sub_self]; rfl
    have hqo := (qOf_at hc'.sort hat (show (graD ⟨x, supM 0 m, 0⟩ ⟨r, [], []⟩).res = r from rfl)).2.1
    refine ⟨hc', fun e hem => ?_, .inr (.inl ⟨rfl, by rw [← hL', htx]; exact hnx, ?_⟩)⟩
    · rw [← hL'] at hem
      rcases ins_mem.1 hem with rfl | hem
      · exact hro
      · exact hok e hem
    · rw [hqo]
      show covB (heldH (grantH [] ⟨x, supM 0 m⟩) x) m = true
      rw [held_grant List.Pairwise.nil, if_pos rfl]
      exact s3
end Go.Proofs.YtbgpppbcffpdbaaGreatDoor
