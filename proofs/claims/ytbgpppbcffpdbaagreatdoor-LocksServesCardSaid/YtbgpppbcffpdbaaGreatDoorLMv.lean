/- What Release and Leave leave may be again. -/
import Derived.Test.YtbgpppbcffpdbaaGreatDoorLMu
import Derived.Test.YtbgpppbcffpdbaaGreatDoorLRe
namespace Go.Proofs.YtbgpppbcffpdbaaGreatDoor
open Go.RowKit

/-- what pump starts from and keeps -/
structure PF (k : Bool) (hs : List HoldD) (ws : List WaitD) : Prop where
  one : ∀ h ∈ hs, txnB h.x = true ∧ modB k h.m = true
  sort : SortH hs
  tog : togB hs = true
  wone : ∀ a ∈ ws, txnB a.x = true ∧ modB k a.m = true ∧ a.h = heldH hs a.x ∧ covB a.h a.m = false ∧ covB a.m a.h = true
  ord : ws.Pairwise (fun p a => convB a = true → convB p = true)
  nd : (ws.map (·.x)).Nodup
theorem ord_pair : ∀ {ws : List WaitD}, (∀ (j : Nat) p a, ws[j]? = some p → ws[j + 1]? = some a → convB a = true → convB p = true) → ws.Pairwise (fun p a => convB a = true → convB p = true)
  | [], _ => List.Pairwise.nil
  | [a], _ => List.pairwise_singleton _ a
  | a :: b :: ws, h => by
    have ih := ord_pair (ws := b :: ws) (fun j p c h1 h2 => h (j + 1) p c (by simpa using h1) (by simpa using h2))
    refine List.pairwise_cons.2 ⟨fun c hc hcc => ?_, ih⟩
    have hab := h 0 a b rfl rfl
    rcases List.mem_cons.1 hc with rfl | hc
    · exact hab hcc
    · exact hab ((List.pairwise_cons.1 ih).1 c hc hcc)
theorem pair_ord {ws : List WaitD} (h : ws.Pairwise (fun p a => convB a = true → convB p = true)) (j : Nat) (p a : WaitD) (h1 : ws[j]? = some p) (h2 : ws[j + 1]? = some a) : convB a = true → convB p = true := by
  obtain ⟨l1, e1⟩ := List.getElem?_eq_some_iff.1 h1
  obtain ⟨l2, e2⟩ := List.getElem?_eq_some_iff.1 h2
  have := List.pairwise_iff_getElem.1 h j (j + 1) l1 l2 (by omega)
  rwa [e1, e2] at this
theorem PF.grant {k : Bool} {hs : List HoldD} {a : WaitD} {ws : List WaitD} (h : PF k hs (a :: ws)) (hg : goesW hs a = true) : PF k (grantH hs ⟨a.x, a.m⟩) ws := by
  have ha := h.wone a List.mem_cons_self
  have hgo := goesW_iff.1 hg
  have hnd := List.nodup_cons.1 h.nd
  refine ⟨fun b hb => ?_, grant_sort h.sort _, (tog_mem (grant_sort h.sort _)).2 (fun b hb c hc hne => ?_), fun b hb => ?_, (List.pairwise_cons.1 h.ord).2, hnd.2⟩
  · rcases (grant_mem h.sort _ b).1 hb with rfl | ⟨hb, _⟩
    · exact ⟨ha.1, ha.2.1⟩
    · exact h.one b hb
  · have ht := (tog_mem h.sort).1 h.tog
    rcases (grant_mem h.sort _ b).1 hb with rfl | ⟨hb, hbx⟩
    · rcases (grant_mem h.sort _ c).1 hc with rfl | ⟨hc, hcx⟩
      · exact absurd rfl hne
      · rw [goesB_sym]; exact hgo c hc hcx
    · rcases (grant_mem h.sort _ c).1 hc with rfl | ⟨hc, hcx⟩
      · exact hgo b hb hbx
      · exact ht b hb c hc hne
  · have hb2 := h.wone b (List.mem_cons_of_mem _ hb)
    have hne : b.x ≠ a.x := fun e => hnd.1 (List.mem_map.2 ⟨b, hb, e⟩)
    refine ⟨hb2.1, hb2.2.1, ?_, hb2.2.2.2⟩
    rw [held_grant h.sort, if_neg hne]
    exact hb2.2.2.1
theorem pump_fit {k : Bool} : ∀ {ws : List WaitD} {hs : List HoldD}, PF k hs ws → PF k (pumpH hs ws).1 (pumpH hs ws).2.1 ∧ ∀ a, (pumpH hs ws).2.1[0]? = some a → goesW (pumpH hs ws).1 a = false
  | [], hs, h => ⟨h, fun a ha => by simp [pumpH] at ha⟩
  | a :: ws, hs, h => by
    unfold pumpH
    split
    · rename_i hg
      exact ⟨h, fun b hb => by simp at hb; subst hb; exact hg⟩
    · rename_i hg
      exact pump_fit (h.grant (by simpa using hg))
theorem PF.of_fit {d : QueD} (h : QuFit d) (hn : (d.ws.map (·.x)).Nodup) : PF d.res.k d.hs d.ws := ⟨h.hs.one, h.hs.sort, h.hs.tog, h.ws.one, ord_pair h.ws.ord, hn⟩
theorem PF.leave {k : Bool} {hs : List HoldD} {ws : List WaitD} (h : PF k hs ws) (x : Int) : PF k hs (ws.filter (fun a => !(a.x == x))) :=
  ⟨h.one, h.sort, h.tog, fun a ha => h.wone a (List.mem_filter.1 ha).1, h.ord.filter _, h.nd.sublist (List.filter_sublist.map _)⟩
theorem held_filter {hs : List HoldD} (hso : SortH hs) {x y : Int} (hne : y ≠ x) : heldH (hs.filter (fun a => !(a.x == x))) y = heldH hs y := by
  have hso2 : SortH (hs.filter (fun a => !(a.x == x))) := List.Pairwise.filter _ hso
  rcases held_or hso y with ⟨h, hm, hx, he⟩ | ⟨hn, he⟩
  · rw [he]
    exact held_mem hso2 (List.mem_filter.2 ⟨hm, by simp [hx, hne]⟩) hx
  · rw [he]
    exact held_not (fun h hm => hn h (List.mem_filter.1 hm).1)
theorem PF.release {k : Bool} {hs : List HoldD} {ws : List WaitD} (h : PF k hs ws) (x : Int) : PF k (hs.filter (fun a => !(a.x == x))) (ws.filter (fun a => !(a.x == x))) := by
  have h2 := h.leave x
  have hso2 : SortH (hs.filter (fun a => !(a.x == x))) := List.Pairwise.filter _ h.sort
  refine ⟨fun a ha => h.one a (List.mem_filter.1 ha).1, hso2, (tog_mem hso2).2 (fun a ha b hb => (tog_mem h.sort).1 h.tog a (List.mem_filter.1 ha).1 b (List.mem_filter.1 hb).1), fun a ha => ?_, h2.ord, h2.nd⟩
  have h3 := h2.wone a ha
  have hne : a.x ≠ x := by have := (List.mem_filter.1 ha).2; simpa using this
  exact ⟨h3.1, h3.2.1, by rw [held_filter h.sort hne]; exact h3.2.2.1, h3.2.2.2⟩
theorem pump_sub : ∀ (ws : List WaitD) (hs : List HoldD), (pumpH hs ws).2.1.Sublist ws
  | [], hs => by simp [pumpH]
  | a :: ws, hs => by
    unfold pumpH
    split
    · exact List.Sublist.refl _
    · exact (pump_sub ws _).trans (List.sublist_cons_self _ _)

/-- what a closure has to leave -/
structure FFit (f : QueD → QueD) (L : List QueD) : Prop where
  fit : ∀ d ∈ L, PF d.res.k (f d).hs (f d).ws
  res : ∀ d ∈ L, (f d).res = d.res
  sub : ∀ d ∈ L, (f d).ws.Sublist d.ws
theorem nd_of {L : List QueD} (h : ChkOk L) {d : QueD} (hd : d ∈ L) : (d.ws.map (·.x)).Nodup := by
  obtain ⟨l1, l2, rfl⟩ := List.append_of_mem hd
  have h1 := h.nodup
  unfold txL at h1
  rw [List.flatMap_append, List.flatMap_cons] at h1
  exact (List.nodup_append.1 (List.nodup_append.1 h1).2.1).1
theorem ffit_rel {L : List QueD} (h : ChkOk L) (x : Int) : FFit (relD x) L := ⟨fun d hd => (PF.of_fit (h.fit d hd) (nd_of h hd)).release x, fun _ _ => rfl, fun _ _ => List.filter_sublist⟩
theorem ffit_lea {L : List QueD} (h : ChkOk L) (x : Int) : FFit (leaD x) L := ⟨fun d hd => (PF.of_fit (h.fit d hd) (nd_of h hd)).leave x, fun _ _ => rfl, fun _ _ => List.filter_sublist⟩
theorem done_res (f : QueD → QueD) (x : Int) (d : QueD) : (doneD f x d).1.res = d.res := by
  unfold doneD
  split
  · rfl
  · rfl
theorem done_fit {f : QueD → QueD} {L : List QueD} (h : ChkOk L) (hf : FFit f L) {d : QueD} (hd : d ∈ L) (x : Int) (hne : (doneD f x d).1.hs ≠ []) : QuFit (doneD f x d).1 := by
  cases ht : touchD x d with
  | false => rw [doneD_not ht]; exact h.fit d hd
  | true =>
    rw [doneD_yes ht] at hne ⊢
    obtain ⟨hp, h0⟩ := pump_fit (hf.fit d hd)
    exact ⟨(h.fit d hd).res, ⟨hp.one, hp.sort, hne, hp.tog⟩, ⟨hp.wone, fun j p a h1 h2 => pair_ord hp.ord j p a h1 h2, h0⟩⟩
theorem done_sub {f : QueD → QueD} {L : List QueD} (hf : FFit f L) {d : QueD} (hd : d ∈ L) (x : Int) : (doneD f x d).1.ws.Sublist d.ws := by
  cases ht : touchD x d with
  | false => rw [doneD_not ht]; exact List.Sublist.refl _
  | true => rw [doneD_yes ht]; exact (pump_sub _ _).trans (hf.sub d hd)
theorem txL_map {g : QueD → QueD} : ∀ {L : List QueD}, (∀ d ∈ L, (g d).ws.Sublist d.ws) → (txL (L.map g)).Sublist (txL L)
  | [], _ => List.Sublist.refl _
  | d :: L, h => by
    have ih := txL_map (L := L) (fun e he => h e (List.mem_cons_of_mem _ he))
    have hd := h d List.mem_cons_self
    unfold txL at ih ⊢
    simp only [List.map_cons, List.flatMap_cons]
    exact List.Sublist.append (hd.map _) ih
theorem txL_filter (p : QueD → Bool) : ∀ (L : List QueD), (txL (L.filter p)).Sublist (txL L)
  | [] => List.Sublist.refl _
  | d :: L => by
    have ih := txL_filter p L
    unfold txL at ih ⊢
    rw [List.filter_cons]
    split
    · simp only [List.flatMap_cons]
      exact List.Sublist.append (List.Sublist.refl _) ih
    · simp only [List.flatMap_cons]
      exact ih.trans (List.sublist_append_right _ _)
theorem wo_chk {f : QueD → QueD} {L : List QueD} (h : ChkOk L) (hf : FFit f L) (x : Int) : ChkOk (woL f x L) := by
  refine ⟨?_, ?_, fun e he => ?_, fun j p a hp ha => ?_⟩
  · unfold woL
    exact Nat.le_trans (List.length_filter_le _ _) (by rw [List.length_map]; exact h.len)
  · unfold woL
    exact h.nodup.sublist ((txL_filter _ _).trans (txL_map (fun d hd => done_sub hf hd x)))
  · unfold woL at he
    obtain ⟨he, hne⟩ := List.mem_filter.1 he
    obtain ⟨d, hd, rfl⟩ := List.mem_map.1 he
    exact done_fit h hf hd x (fun e => by simp [e] at hne)
  · have hs : SortQ (woL f x L) := by
      unfold woL SortQ
      refine List.Pairwise.filter _ (List.pairwise_map.2 ?_)
      exact h.sort.imp (fun hab => by rw [done_res, done_res]; exact hab)
    obtain ⟨l1, e1⟩ := List.getElem?_eq_some_iff.1 hp
    obtain ⟨l2, e2⟩ := List.getElem?_eq_some_iff.1 ha
    have := List.pairwise_iff_getElem.1 hs j (j + 1) l1 l2 (by omega)
    rwa [e1, e2] at this
end Go.Proofs.YtbgpppbcffpdbaaGreatDoor
