/- What comes of Release and Leave, in numbers: what may be, how one is served, what one holds, and what a step keeps (merged of several texts). -/
import Derived.Test.YtbgpppbcffpdbaaGreatDoorLMu
import Derived.Test.YtbgpppbcffpdbaaGreatDoorLRe
import Derived.Test.YtbgpppbcffpdbaaGreatDoorLBk
import Derived.Test.YtbgpppbcffpdbaaGreatDoorLTo

/-! What Release and Leave leave may be again. -/
namespace Go.Proofs.YtbgpppbcffpdbaaGreatDoor
open Go.RowKit

/-- what pump starts from and keeps -/
structure PF (k : Bool) (hs : List HoldD) (ws : List WaitD) : Prop where
  one : ∀ h ∈ hs, txnB h.x = true ∧ modB k h.m = true
  sort : SortH hs
  tog : togB hs = true
  wone : ∀ a ∈ ws, txnB a.x = true ∧ modB k a.m = true ∧ a.h = heldH hs a.x ∧ covB a.h a.m = false ∧ covB a.m a.h = true
  ord : ws.Pairwise (fun p a => convB a = true → convB p = true)
  nd : (ws.map (·.x)).Nodup
theorem ord_pair : ∀ {ws : List WaitD}, (∀ (j : Nat) p a, ws[j]? = some p → ws[j + 1]? = some a → convB a = true → convB p = true) → ws.Pairwise (fun p a => convB a = true → convB p = true)
  | [], _ => List.Pairwise.nil
  | [a], _ => List.pairwise_singleton _ a
  | a :: b :: ws, h => by
    have ih := ord_pair (ws := b :: ws) (fun j p c h1 h2 => h (j + 1) p c (by simpa using h1) (by simpa using h2))
    refine List.pairwise_cons.2 ⟨fun c hc hcc => ?_, ih⟩
    have hab := h 0 a b rfl rfl
    rcases List.mem_cons.1 hc with rfl | hc
    · exact hab hcc
    · exact hab ((List.pairwise_cons.1 ih).1 c hc hcc)
theorem pair_ord {ws : List WaitD} (h : ws.Pairwise (fun p a => convB a = true → convB p = true)) (j : Nat) (p a : WaitD) (h1 : ws[j]? = some p) (h2 : ws[j + 1]? = some a) : convB a = true → convB p = true := by
  obtain ⟨l1, e1⟩ := List.getElem?_eq_some_iff.1 h1
  obtain ⟨l2, e2⟩ := List.getElem?_eq_some_iff.1 h2
  have := List.pairwise_iff_getElem.1 h j (j + 1) l1 l2 (by omega)
  rwa [e1, e2] at this
theorem PF.grant {k : Bool} {hs : List HoldD} {a : WaitD} {ws : List WaitD} (h : PF k hs (a :: ws)) (hg : goesW hs a = true) : PF k (grantH hs ⟨a.x, a.m⟩) ws := by
  have ha := h.wone a List.mem_cons_self
  have hgo := goesW_iff.1 hg
  have hnd := List.nodup_cons.1 h.nd
  refine ⟨fun b hb => ?_, grant_sort h.sort _, (tog_mem (grant_sort h.sort _)).2 (fun b hb c hc hne => ?_), fun b hb => ?_, (List.pairwise_cons.1 h.ord).2, hnd.2⟩
  · rcases (grant_mem h.sort _ b).1 hb with rfl | ⟨hb, _⟩
    · exact ⟨ha.1, ha.2.1⟩
    · exact h.one b hb
  · have ht := (tog_mem h.sort).1 h.tog
    rcases (grant_mem h.sort _ b).1 hb with rfl | ⟨hb, hbx⟩
    · rcases (grant_mem h.sort _ c).1 hc with rfl | ⟨hc, hcx⟩
      · exact absurd rfl hne
      · rw [goesB_sym]; exact hgo c hc hcx
    · rcases (grant_mem h.sort _ c).1 hc with rfl | ⟨hc, hcx⟩
      · exact hgo b hb hbx
      · exact ht b hb c hc hne
  · have hb2 := h.wone b (List.mem_cons_of_mem _ hb)
    have hne : b.x ≠ a.x := fun e => hnd.1 (List.mem_map.2 ⟨b, hb, e⟩)
    refine ⟨hb2.1, hb2.2.1, ?_, hb2.2.2.2⟩
    rw [held_grant h.sort, if_neg hne]
    exact hb2.2.2.1
theorem pump_fit {k : Bool} : ∀ {ws : List WaitD} {hs : List HoldD}, PF k hs ws → PF k (pumpH hs ws).1 (pumpH hs ws).2.1 ∧ ∀ a, (pumpH hs ws).2.1[0]? = some a → goesW (pumpH hs ws).1 a = false
  | [], hs, h => ⟨h, fun a ha => by simp [pumpH] at ha⟩
  | a :: ws, hs, h => by
    unfold pumpH
    split
    · rename_i hg
      exact ⟨h, fun b hb => by simp at hb; subst hb; exact hg⟩
    · rename_i hg
      exact pump_fit (h.grant (by simpa using hg))
theorem PF.of_fit {d : QueD} (h : QuFit d) (hn : (d.ws.map (·.x)).Nodup) : PF d.res.k d.hs d.ws := ⟨h.hs.one, h.hs.sort, h.hs.tog, h.ws.one, ord_pair h.ws.ord, hn⟩
theorem PF.leave {k : Bool} {hs : List HoldD} {ws : List WaitD} (h : PF k hs ws) (x : Int) : PF k hs (ws.filter (fun a => !(a.x == x))) :=
  ⟨h.one, h.sort, h.tog, fun a ha => h.wone a (List.mem_filter.1 ha).1, h.ord.filter _, h.nd.sublist (List.filter_sublist.map _)⟩
theorem held_filter {hs : List HoldD} (hso : SortH hs) {x y : Int} (hne : y ≠ x) : heldH (hs.filter (fun a => !(a.x == x))) y = heldH hs y := by
  have hso2 : SortH (hs.filter (fun a => !(a.x == x))) := List.Pairwise.filter _ hso
  rcases held_or hso y with ⟨h, hm, hx, he⟩ | ⟨hn, he⟩
  · rw [he]
    exact held_mem hso2 (List.mem_filter.2 ⟨hm, by simp [hx, hne]⟩) hx
  · rw [he]
    exact held_not (fun h hm => hn h (List.mem_filter.1 hm).1)
theorem PF.release {k : Bool} {hs : List HoldD} {ws : List WaitD} (h : PF k hs ws) (x : Int) : PF k (hs.filter (fun a => !(a.x == x))) (ws.filter (fun a => !(a.x == x))) := by
  have h2 := h.leave x
  have hso2 : SortH (hs.filter (fun a => !(a.x == x))) := List.Pairwise.filter _ h.sort
  refine ⟨fun a ha => h.one a (List.mem_filter.1 ha).1, hso2, (tog_mem hso2).2 (fun a ha b hb => (tog_mem h.sort).1 h.tog a (List.mem_filter.1 ha).1 b (List.mem_filter.1 hb).1), fun a ha => ?_, h2.ord, h2.nd⟩
  have h3 := h2.wone a ha
  have hne : a.x ≠ x := by have := (List.mem_filter.1 ha).2; simpa using this
  exact ⟨h3.1, h3.2.1, by rw [held_filter h.sort hne]; exact h3.2.2.1, h3.2.2.2⟩
theorem pump_sub : ∀ (ws : List WaitD) (hs : List HoldD), (pumpH hs ws).2.1.Sublist ws
  | [], hs => by simp [pumpH]
  | a :: ws, hs => by
    unfold pumpH
    split
    · exact List.Sublist.refl _
    · exact (pump_sub ws _).trans (List.sublist_cons_self _ _)

/-- what a closure has to leave -/
structure FFit (f : QueD → QueD) (L : List QueD) : Prop where
  fit : ∀ d ∈ L, PF d.res.k (f d).hs (f d).ws
  res : ∀ d ∈ L, (f d).res = d.res
  sub : ∀ d ∈ L, (f d).ws.Sublist d.ws
theorem nd_of {L : List QueD} (h : ChkOk L) {d : QueD} (hd : d ∈ L) : (d.ws.map (·.x)).Nodup := by
  obtain ⟨l1, l2, rfl⟩ := List.append_of_mem hd
  have h1 := h.nodup
  unfold txL at h1
  rw [List.flatMap_append, List.flatMap_cons] at h1
  exact (List.nodup_append.1 (List.nodup_append.1 h1).2.1).1
theorem ffit_rel {L : List QueD} (h : ChkOk L) (x : Int) : FFit (relD x) L := ⟨fun d hd => (PF.of_fit (h.fit d hd) (nd_of h hd)).release x, fun _ _ => rfl, fun _ _ => List.filter_sublist⟩
theorem ffit_lea {L : List QueD} (h : ChkOk L) (x : Int) : FFit (leaD x) L := ⟨fun d hd => (PF.of_fit (h.fit d hd) (nd_of h hd)).leave x, fun _ _ => rfl, fun _ _ => List.filter_sublist⟩
theorem done_res (f : QueD → QueD) (x : Int) (d : QueD) : (doneD f x d).1.res = d.res := by
  unfold doneD
  split
  · rfl
  · rfl
theorem done_fit {f : QueD → QueD} {L : List QueD} (h : ChkOk L) (hf : FFit f L) {d : QueD} (hd : d ∈ L) (x : Int) (hne : (doneD f x d).1.hs ≠ []) : QuFit (doneD f x d).1 := by
  cases ht : touchD x d with
  | false => rw [doneD_not ht]; exact h.fit d hd
  | true =>
    rw [doneD_yes ht] at hne ⊢
    obtain ⟨hp, h0⟩ := pump_fit (hf.fit d hd)
    exact ⟨(h.fit d hd).res, ⟨hp.one, hp.sort, hne, hp.tog⟩, ⟨hp.wone, fun j p a h1 h2 => pair_ord hp.ord j p a h1 h2, h0⟩⟩
theorem done_sub {f : QueD → QueD} {L : List QueD} (hf : FFit f L) {d : QueD} (hd : d ∈ L) (x : Int) : (doneD f x d).1.ws.Sublist d.ws := by
  cases ht : touchD x d with
  | false => rw [doneD_not ht]; exact List.Sublist.refl _
  | true => rw [doneD_yes ht]; exact (pump_sub _ _).trans (hf.sub d hd)
theorem txL_map {g : QueD → QueD} : ∀ {L : List QueD}, (∀ d ∈ L, (g d).ws.Sublist d.ws) → (txL (L.map g)).Sublist (txL L)
  | [], _ => List.Sublist.refl _
  | d :: L, h => by
    have ih := txL_map (L := L) (fun e he => h e (List.mem_cons_of_mem _ he))
    have hd := h d List.mem_cons_self
    unfold txL at ih ⊢
    simp only [List.map_cons, List.flatMap_cons]
    exact List.Sublist.append (hd.map _) ih
theorem txL_filter (p : QueD → Bool) : ∀ (L : List QueD), (txL (L.filter p)).Sublist (txL L)
  | [] => List.Sublist.refl _
  | d :: L => by
    have ih := txL_filter p L
    unfold txL at ih ⊢
    rw [List.filter_cons]
    split
    · simp only [List.flatMap_cons]
      exact List.Sublist.append (List.Sublist.refl _) ih
    · simp only [List.flatMap_cons]
      exact ih.trans (List.sublist_append_right _ _)
theorem wo_chk {f : QueD → QueD} {L : List QueD} (h : ChkOk L) (hf : FFit f L) (x : Int) : ChkOk (woL f x L) := by
  refine ⟨?_, ?_, fun e he => ?_, fun j p a hp ha => ?_⟩
  · unfold woL
    exact Nat.le_trans (List.length_filter_le _ _) (by rw [List.length_map]; exact h.len)
  · unfold woL
    exact h.nodup.sublist ((txL_filter _ _).trans (txL_map (fun d hd => done_sub hf hd x)))
  · unfold woL at he
    obtain ⟨he, hne⟩ := List.mem_filter.1 he
    obtain ⟨d, hd, rfl⟩ := List.mem_map.1 he
    exact done_fit h hf hd x (fun e => by simp [e] at hne)
  · have hs : SortQ (woL f x L) := by
      unfold woL SortQ
      refine List.Pairwise.filter _ (List.pairwise_map.2 ?_)
      exact h.sort.imp (fun hab => by rw [done_res, done_res]; exact hab)
    obtain ⟨l1, e1⟩ := List.getElem?_eq_some_iff.1 hp
    obtain ⟨l2, e2⟩ := List.getElem?_eq_some_iff.1 ha
    have := List.pairwise_iff_getElem.1 hs j (j + 1) l1 l2 (by omega)
    rwa [e1, e2] at this
end Go.Proofs.YtbgpppbcffpdbaaGreatDoor

/-! Who waits, when one of all releases: what hinders it becomes less, or it is granted. -/
namespace Go.Proofs.YtbgpppbcffpdbaaGreatDoor
open Go.RowKit

theorem fIdx_split {α : Type} {p : α → Bool} {A : List α} {a : α} {B : List α} (hA : ∀ b ∈ A, p b = false) (ha : p a = true) : fIdx p (A ++ a :: B) = (A.length : Nat) :=
  fIdx_at (k := A.length) (a := a) (fun i b hi hb => by rw [List.getElem?_append_left hi] at hb; exact hA b (List.mem_of_getElem? hb)) (by rw [List.getElem?_append_right (Nat.le_refl _), Nat.sub_self]; rfl) ha
theorem wait_split {A : List WaitD} {a : WaitD} {B : List WaitD} {y : Int} (hA : ∀ b ∈ A, b.x ≠ y) (ha : a.x = y) : waitI (A ++ a :: B) y = (A.length : Nat) :=
  fIdx_split (fun b hb => by simpa using hA b hb) (by simpa using ha)
theorem wtr_split {d : QueD} {A : List WaitD} {a : WaitD} {B : List WaitD} {y : Int} (hd : d.ws = A ++ a :: B) (hA : ∀ b ∈ A, b.x ≠ y) (ha : a.x = y) : wtrOf d y = a ∧ d.ws.take (waitI d.ws y).toNat = A := by
  unfold wtrOf
  rw [hd, wait_split hA ha, Int.toNat_natCast]
  refine ⟨?_, ?_⟩
  · rw [List.getElem?_append_right (Nat.le_refl _), Nat.sub_self]; rfl
  · rw [List.take_left']; rfl
theorem split_of {d : QueD} {y : Int} (h : 0 ≤ waitI d.ws y) : ∃ A a B, d.ws = A ++ a :: B ∧ a.x = y ∧ (∀ b ∈ A, b.x ≠ y) := by
  obtain ⟨p, a, h1, h2, h3, h4, h5, h6⟩ := wtr_at h
  refine ⟨d.ws.take p, a, d.ws.drop (p + 1), ?_, h5, fun b hb => ?_⟩
  · conv => lhs; rw [← List.take_append_drop p d.ws, List.drop_eq_getElem_cons h2, (List.getElem?_eq_some_iff.1 h3).2]
  · obtain ⟨i, hi⟩ := List.mem_iff_getElem?.1 hb
    rw [List.getElem?_take] at hi
    split at hi
    · exact h6 i b (by assumption) hi
    · cases hi
theorem pumpH_cons (hs : List HoldD) (a : WaitD) (ws : List WaitD) : pumpH hs (a :: ws) = if goesW hs a = false then (hs, a :: ws, []) else ((pumpH (grantH hs ⟨a.x, a.m⟩) ws).1, (pumpH (grantH hs ⟨a.x, a.m⟩) ws).2.1, a.x :: (pumpH (grantH hs ⟨a.x, a.m⟩) ws).2.2) := by
  conv => lhs; unfold pumpH
/-- pump stops ahead of a, or grants it -/
theorem pump_split : ∀ (A : List WaitD) (a : WaitD) (B : List WaitD) (hs : List HoldD), SortH hs → (∃ A', A'.Sublist A ∧ (pumpH hs (A ++ a :: B)).2.1 = A' ++ a :: B ∧ ∀ h ∈ (pumpH hs (A ++ a :: B)).1, h ∈ hs ∨ ∃ w ∈ A, h.x = w.x) ∨
    ∃ hs2, SortH hs2 ∧ (pumpH hs (A ++ a :: B)).1 = (pumpH (grantH hs2 ⟨a.x, a.m⟩) B).1 ∧ (pumpH hs (A ++ a :: B)).2.1 = (pumpH (grantH hs2 ⟨a.x, a.m⟩) B).2.1
  | [], a, B, hs, hso => by
    rw [List.nil_append, pumpH_cons]
    split
    · exact .inl ⟨[], List.Sublist.refl _, rfl, fun h hh => .inl hh⟩
    · exact .inr ⟨hs, hso, rfl, rfl⟩
  | c :: A, a, B, hs, hso => by
    rw [List.cons_append, pumpH_cons]
    split
    · exact .inl ⟨c :: A, List.Sublist.refl _, rfl, fun h hh => .inl hh⟩
    · rcases pump_split A a B (grantH hs ⟨c.x, c.m⟩) (grant_sort hso _) with ⟨A', h1, h2, h3⟩ | ⟨hs2, h1, h2, h3⟩
      · refine .inl ⟨A', h1.trans (List.sublist_cons_self _ _), h2, fun h hh => ?_⟩
        rcases h3 h hh with h4 | ⟨w, hw, he⟩
        · rcases (grant_mem hso _ h).1 h4 with rfl | ⟨h5, _⟩
          · exact .inr ⟨c, List.mem_cons_self, rfl⟩
          · exact .inl h5
        · exact .inr ⟨w, List.mem_cons_of_mem _ hw, he⟩
      · exact .inr ⟨hs2, h1, h2, h3⟩
theorem pump_held : ∀ (ws : List WaitD) (hs : List HoldD) (y : Int), SortH hs → (∀ a ∈ ws, a.x ≠ y) → heldH (pumpH hs ws).1 y = heldH hs y ∧ SortH (pumpH hs ws).1
  | [], hs, y, hso, _ => ⟨rfl, hso⟩
  | a :: ws, hs, y, hso, hn => by
    unfold pumpH
    split
    · exact ⟨rfl, hso⟩
    · obtain ⟨h1, h2⟩ := pump_held ws (grantH hs ⟨a.x, a.m⟩) y (grant_sort hso _) (fun b hb => hn b (List.mem_cons_of_mem _ hb))
      refine ⟨?_, h2⟩
      rw [h1, held_grant hso, if_neg (fun e => hn a List.mem_cons_self e.symm)]
theorem held_ne {hs : List HoldD} {y : Int} (h : heldH hs y ≠ 0) : hs ≠ [] := fun e => by subst e; exact h rfl
/-- where a queue is behind without -/
theorem wo_at {f : QueD → QueD} {L : List QueD} (h : ChkOk L) (hf : FFit f L) (n : Int) {d : QueD} (hd : d ∈ L) (hne : (doneD f n d).1.hs ≠ []) : (doneD f n d).1 ∈ woL f n L ∧ qOf (woL f n L) d.res = (doneD f n d).1 := by
  have hm : (doneD f n d).1 ∈ woL f n L := by
    unfold woL
    exact List.mem_filter.2 ⟨List.mem_map_of_mem (f := fun d => (doneD f n d).1) hd, by
      have : 0 < (doneD f n d).1.hs.length := List.length_pos_iff.2 hne
      simp; exact hne⟩
  obtain ⟨i, hi⟩ := List.mem_iff_getElem?.1 hm
  exact ⟨hm, (qOf_at (wo_chk h hf n).sort hi (done_res f n d)).2.1⟩
theorem wo_tx {f : QueD → QueD} {L : List QueD} (hf : FFit f L) (n y : Int) (h : y ∉ txL L) : y ∉ txL (woL f n L) := fun hm => by
  unfold woL at hm
  exact h ((txL_filter _ _).subset hm |> (txL_map (fun d hd => done_sub hf hd n)).subset)
/-- who waits for nothing keeps what it holds, when another releases -/
theorem keeps_held {L : List QueD} (h : ChkOk L) {y n : Int} (hny : y ≠ n) {r : ResD} (hno : y ∉ txL L) (hm : heldH (qOf L r).hs y ≠ 0) : y ∉ txL (woL (relD n) n L) ∧ heldH (qOf (woL (relD n) n L) r).hs y = heldH (qOf L r).hs y := by
  refine ⟨wo_tx (ffit_rel h n) n y hno, ?_⟩
  cases ht : thereQ L r with
  | false =>
    rw [(qOf_none ht).1] at hm
    exact absurd rfl hm
  | true =>
    obtain ⟨d, hd, hr, hq⟩ := there_some ht
    subst hr
    have hdm := List.mem_of_getElem? hd
    rw [hq] at hm ⊢
    have hno' : ∀ a ∈ d.ws, a.x ≠ y := fun a ha e => hno (txL_mem.2 ⟨d, hdm, a, ha, e⟩)
    have hkey : heldH (doneD (relD n) n d).1.hs y = heldH d.hs y := by
      cases htd : touchD n d with
      | false => rw [doneD_not htd]
      | true =>
        rw [doneD_yes htd]
        have hso2 : SortH (relD n d).hs := List.Pairwise.filter _ (h.sorts d hdm)
        have h1 := (pump_held (relD n d).ws (relD n d).hs y hso2 (fun a ha => hno' a (List.mem_filter.1 ha).1)).1
        show heldH (pumpH (relD n d).hs (relD n d).ws).1 y = _
        rw [h1]
        exact held_filter (h.sorts d hdm) hny
    rw [(wo_at h (ffit_rel h n) n hdm (held_ne (by rw [hkey]; exact hm))).2, hkey]
theorem mem_upTo (d : Array Int) (x : Int) : ∀ m, x ∈ Lib.compactUpTo d m ↔ ∃ j, j < m ∧ d[j]! = x
  | 0 => by simp [Lib.compactUpTo]
  | m + 1 => by
    rw [Lib.compactUpTo_succ, List.mem_append, mem_upTo d x m]
    by_cases hk : Lib.keeps d m = true
    · rw [if_pos hk, List.mem_singleton]
      constructor
      · rintro (⟨j, h1, h2⟩ | rfl)
        · exact ⟨j, by omega, h2⟩
        · exact ⟨m, by omega, rfl⟩
      · rintro ⟨j, h1, h2⟩
        by_cases e : j = m
        · subst e; exact .inr h2.symm
        · exact .inl ⟨j, by omega, h2⟩
    · rw [if_neg hk]
      have hn : m ≠ 0 ∧ d[m]! = d[m - 1]! := by
        unfold Lib.keeps at hk
        have h1 : ¬ (m = 0 ∨ d[m]! ≠ d[m - 1]!) := fun h => hk (decide_eq_true h)
        exact ⟨fun e => h1 (.inl e), Classical.byContradiction fun e => h1 (.inr e)⟩
      constructor
      · rintro (⟨j, h1, h2⟩ | h)
        · exact ⟨j, by omega, h2⟩
        · cases h
      · rintro ⟨j, h1, h2⟩
        by_cases e : j = m
        · subst e; exact .inl ⟨j - 1, by omega, by rw [← hn.2]; exact h2⟩
        · exact .inl ⟨j, by omega, h2⟩
theorem mem_compact {l : List Int} {x : Int} : x ∈ Lib.compact l ↔ x ∈ l := by
  unfold Lib.compact
  rw [mem_upTo]
  constructor
  · rintro ⟨j, h1, h2⟩
    have h3 : l.toArray[j]! = l[j] := by simp [h1]
    rw [h3] at h2
    exact h2 ▸ List.getElem_mem h1
  · intro h
    obtain ⟨j, h1, h2⟩ := List.mem_iff_getElem.1 h
    exact ⟨j, h1, by have h3 : l.toArray[j]! = l[j] := by simp [h1]
                     rw [h3]; exact h2⟩
theorem mem_blk {d : QueD} {y b : Int} : b ∈ blkOf d y ↔ b ∈ preB d y := by
  unfold blkOf
  rw [mem_compact, List.mem_mergeSort]
theorem mem_pre {d : QueD} {A : List WaitD} {a : WaitD} {B : List WaitD} {y b : Int} (hd : d.ws = A ++ a :: B) (hA : ∀ b ∈ A, b.x ≠ y) (ha : a.x = y) : b ∈ preB d y ↔ (∃ h ∈ d.hs, hindB h a = true ∧ h.x = b) ∨ ∃ w ∈ A, w.x = b := by
  obtain ⟨e1, e2⟩ := wtr_split hd hA ha
  unfold preB
  rw [e2, e1, List.mem_append, List.mem_map, List.mem_map]
  constructor
  · rintro (⟨h, hm, rfl⟩ | ⟨w, hw, rfl⟩)
    · exact .inl ⟨h, (List.mem_filter.1 hm).1, (List.mem_filter.1 hm).2, rfl⟩
    · exact .inr ⟨w, hw, rfl⟩
  · rintro (⟨h, hm, h2, rfl⟩ | ⟨w, hw, rfl⟩)
    · exact .inl ⟨h, List.mem_filter.2 ⟨hm, h2⟩, rfl⟩
    · exact .inr ⟨w, hw, rfl⟩
theorem mod_ne {k : Bool} {m : Int} (h : modB k m = true) : m ≠ 0 := fun e => by subst e; unfold modB at h; simp at h
/-- who waits has blockers, other than itself -/
theorem pre_ok {L : List QueD} (h : ChkOk L) {y : Int} {d : QueD} (hw : wtOf L y = some d) : (∃ b, b ∈ preB d y) ∧ ∀ b ∈ preB d y, b ≠ y ∧ txnB b = true := by
  obtain ⟨hdm, h0⟩ := wtOf_mem hw
  obtain ⟨A, a, B, hd, ha, hA⟩ := split_of h0
  have hf := h.fit d hdm
  refine ⟨?_, fun b hb => ?_⟩
  · cases A with
    | nil =>
      obtain ⟨hh, h1, h2, h3⟩ := goesW_not.1 (hf.ws.first a (by rw [hd]; rfl))
      exact ⟨hh.x, (mem_pre hd hA ha).2 (.inl ⟨hh, h1, by unfold hindB; rw [decide_eq_true h2, h3]; rfl, rfl⟩)⟩
    | cons w A => exact ⟨w.x, (mem_pre hd hA ha).2 (.inr ⟨w, List.mem_cons_self, rfl⟩)⟩
  · rcases (mem_pre hd hA ha).1 hb with ⟨hh, h1, h2, rfl⟩ | ⟨w, hw, rfl⟩
    · unfold hindB at h2
      simp only [Bool.and_eq_true, decide_eq_true_eq] at h2
      exact ⟨by rw [← ha]; exact h2.1, (hf.hs.one hh h1).1⟩
    · exact ⟨hA w hw, (hf.ws.one w (by rw [hd]; exact List.mem_append_left _ hw)).1⟩
theorem wtOf_uniq : ∀ {L : List QueD} {y : Int} {d : QueD}, (txL L).Nodup → d ∈ L → 0 ≤ waitI d.ws y → wtOf L y = some d
  | e :: L, y, d, hn, hd, h0 => by
    have hsp : txL (e :: L) = e.ws.map (·.x) ++ txL L := by simp [txL]
    rw [hsp] at hn
    unfold wtOf
    split
    · rename_i h1
      rcases List.mem_cons.1 hd with rfl | hd
      · rfl
      · exfalso
        have m1 : y ∈ e.ws.map (·.x) := by
          apply Classical.byContradiction
          intro hc
          have := (wait_neg (ws := e.ws) (x := y)).2 (fun a ha e2 => hc (List.mem_map.2 ⟨a, ha, e2⟩))
          omega
        have m2 : y ∈ txL L := by
          apply Classical.byContradiction
          intro hc
          have := (wait_neg (ws := d.ws) (x := y)).2 (fun a ha e2 => hc (txL_mem.2 ⟨d, hd, a, ha, e2⟩))
          omega
        exact (List.nodup_append.1 hn).2.2 y m1 y m2 rfl
    · rename_i h1
      rcases List.mem_cons.1 hd with rfl | hd
      · exact absurd h0 h1
      · exact wtOf_uniq (List.nodup_append.1 hn).2.1 hd h0
/-- when another releases: granted, or less hinders it -/
theorem serve_step {L : List QueD} (h : ChkOk L) {y n : Int} (hny : y ≠ n) {d : QueD} (hw : wtOf L y = some d) :
    (y ∉ txL (woL (relD n) n L) ∧ heldH (qOf (woL (relD n) n L) d.res).hs y = (wtrOf d y).m ∧ (wtrOf d y).m ≠ 0) ∨
    ∃ d1, wtOf (woL (relD n) n L) y = some d1 ∧ d1.res = d.res ∧ (wtrOf d1 y).m = (wtrOf d y).m ∧ ∀ b ∈ preB d1 y, b ∈ preB d y ∧ b ≠ n := by
  obtain ⟨hdm, h0⟩ := wtOf_mem hw
  obtain ⟨A, a, B, hd, ha, hA⟩ := split_of h0
  have hf := h.fit d hdm
  have hff := ffit_rel h n
  have hck := wo_chk h hff n
  have hwa := (wtr_split hd hA ha).1
  have ha1 := hf.ws.one a (by rw [hd]; simp)
  have hnd := nd_of h hdm
  rw [hd, List.map_append, List.map_cons] at hnd
  have hB : ∀ b ∈ B, b.x ≠ y := fun b hb e => by
    have h1 := (List.nodup_append.1 hnd).2.1
    have h2 := (List.nodup_cons.1 h1).1
    exact h2 (List.mem_map.2 ⟨b, hb, by rw [e, ha]⟩)
  rw [hwa]
  cases ht : touchD n d with
  | false =>
    refine .inr ⟨d, ?_, rfl, by rw [hwa], fun b hb => ⟨hb, fun e => ?_⟩⟩
    · have h1 := (wo_at h hff n hdm (by rw [doneD_not ht]; exact hf.hs.ne)).1
      rw [doneD_not ht] at h1
      exact wtOf_uniq hck.nodup h1 h0
    · subst e
      unfold touchD at ht
      simp only [Bool.or_eq_false_iff, bne_eq_false_iff_eq, decide_eq_false_iff_not] at ht
      rcases (mem_pre hd hA ha).1 hb with ⟨hh, h1, h2, h3⟩ | ⟨w, hw, h3⟩
      · have h4 := held_mem hf.hs.sort h1 h3
        rw [ht.1] at h4
        exact mod_ne (hf.hs.one hh h1).2 h4.symm
      · exact (wait_neg (ws := d.ws) (x := b)).1 (by omega) w (by rw [hd]; exact List.mem_append_left _ hw) h3
  | true =>
    have hso2 : SortH (relD n d).hs := List.Pairwise.filter _ hf.hs.sort
    have hws : (relD n d).ws = A.filter (fun a => !(a.x == n)) ++ a :: B.filter (fun a => !(a.x == n)) := by
      show d.ws.filter _ = _
      rw [hd, List.filter_append, List.filter_cons, if_pos (by rw [ha]; simpa using hny)]
    obtain ⟨hp, hp0⟩ := pump_fit (hff.fit d hdm)
    have hdone : (doneD (relD n) n d).1 = ⟨d.res, (pumpH (relD n d).hs (relD n d).ws).1, (pumpH (relD n d).hs (relD n d).ws).2.1⟩ := by rw [doneD_yes ht]; rfl
    rw [hws] at hp hp0 hdone
    rcases pump_split (A.filter (fun a => !(a.x == n))) a (B.filter (fun a => !(a.x == n))) (relD n d).hs hso2 with ⟨A', s1, s2, s3⟩ | ⟨hs2, s1, s2, s3⟩
    · have hA' : ∀ b ∈ A', b.x ≠ y := fun b hb => hA b (List.mem_filter.1 (s1.subset hb)).1
      have hne : (doneD (relD n) n d).1.hs ≠ [] := by
        rw [hdone]
        show (pumpH _ _).1 ≠ []
        have hx : ∃ c, (pumpH (relD n d).hs (A.filter (fun a => !(a.x == n)) ++ a :: B.filter (fun a => !(a.x == n)))).2.1[0]? = some c := by
          rw [s2]
          cases A' with
          | nil => exact ⟨a, rfl⟩
          | cons w A' => exact ⟨w, rfl⟩
        obtain ⟨c, hc⟩ := hx
        obtain ⟨hh, h1, _⟩ := goesW_not.1 (hp0 c hc)
        exact List.ne_nil_of_mem h1
      obtain ⟨h1, _⟩ := wo_at h hff n hdm hne
      have hw1 : (doneD (relD n) n d).1.ws = A' ++ a :: B.filter (fun a => !(a.x == n)) := by rw [hdone]; exact s2
      refine .inr ⟨(doneD (relD n) n d).1, wtOf_uniq hck.nodup h1 ?_, done_res _ _ _, by rw [(wtr_split hw1 hA' ha).1], fun b hb => ?_⟩
      · rw [hw1, wait_split hA' ha]; omega
      · rcases (mem_pre hw1 hA' ha).1 hb with ⟨hh, m1, m2, rfl⟩ | ⟨w, hw, rfl⟩
        · rw [hdone] at m1
          rcases s3 hh m1 with m3 | ⟨w, hw, he⟩
          · have m4 := List.mem_filter.1 m3
            exact ⟨(mem_pre hd hA ha).2 (.inl ⟨hh, m4.1, m2, rfl⟩), by simpa using m4.2⟩
          · have m4 := List.mem_filter.1 hw
            rw [he]
            exact ⟨(mem_pre hd hA ha).2 (.inr ⟨w, m4.1, rfl⟩), by simpa using m4.2⟩
        · have m4 := List.mem_filter.1 (s1.subset hw)
          exact ⟨(mem_pre hd hA ha).2 (.inr ⟨w, m4.1, rfl⟩), by simpa using m4.2⟩
    · have hB' : ∀ b ∈ B.filter (fun a => !(a.x == n)), b.x ≠ y := fun b hb => hB b (List.mem_filter.1 hb).1
      have hm0 := mod_ne ha1.2.1
      have hheld : heldH (doneD (relD n) n d).1.hs y = a.m := by
        rw [hdone]
        show heldH (pumpH _ _).1 y = _
        rw [s2, (pump_held _ _ y (grant_sort s1 _) hB').1, held_grant s1, if_pos ha.symm]
      have hne : (doneD (relD n) n d).1.hs ≠ [] := held_ne (y := y) (by rw [hheld]; exact hm0)
      obtain ⟨h1, h2⟩ := wo_at h hff n hdm hne
      refine .inl ⟨fun hm => ?_, by rw [h2, hheld], hm0⟩
      obtain ⟨e1, he1, b, hb, hbx⟩ := txL_mem.1 hm
      have he2 := (List.mem_filter.1 he1).1
      obtain ⟨e, he, rfl⟩ := List.mem_map.1 he2
      have hbe : b ∈ e.ws := (done_sub hff he n).subset hb
      have he0 : 0 ≤ waitI e.ws y := by
        apply Classical.byContradiction
        intro hc
        exact wait_neg.1 (by omega) b hbe hbx
      have hde := wtOf_uniq h.nodup he he0
      rw [hw] at hde
      cases hde
      rw [hdone] at hb
      have hb2 : b ∈ (pumpH (grantH hs2 ⟨a.x, a.m⟩) (B.filter (fun a => !(a.x == n)))).2.1 := by rw [← s3]; exact hb
      exact hB' b ((pump_sub _ _).subset hb2) hbx
end Go.Proofs.YtbgpppbcffpdbaaGreatDoor

/-! How one is served: its blockers release one after another. -/
namespace Go.Proofs.YtbgpppbcffpdbaaGreatDoor
open Go.RowKit

/-- no queue is longer than N, its rows together -/
def Tot (N : Nat) (L : List QueD) : Prop := ∀ d ∈ L, d.hs.length + d.ws.length ≤ N
theorem Tot.sm {N : Nat} {L : List QueD} (h : Tot N L) (hN : N ≤ 100000) : Sm L := fun d hd => by have := h d hd; omega
theorem few_tot (L : List QueD) : Tot 40 (fewL L) := fun d hd => by have := few_len L d hd; omega
theorem pump_tot : ∀ (ws : List WaitD) (hs : List HoldD), (pumpH hs ws).1.length + (pumpH hs ws).2.1.length ≤ hs.length + ws.length
  | [], hs => by simp [pumpH]
  | a :: ws, hs => by
    unfold pumpH
    split
    · exact Nat.le_refl _
    · have h1 := pump_tot ws (grantH hs ⟨a.x, a.m⟩)
      have h2 := grantH_len hs ⟨a.x, a.m⟩
      simp only [List.length_cons]
      omega
theorem wo_tot {N : Nat} {L : List QueD} (h : Tot N L) (n : Int) : Tot N (woL (relD n) n L) := fun e he => by
  unfold woL at he
  obtain ⟨d, hd, rfl⟩ := List.mem_map.1 (List.mem_filter.1 he).1
  have h0 := h d hd
  cases ht : touchD n d with
  | false => rw [doneD_not ht]; exact h0
  | true =>
    rw [doneD_yes ht]
    have h1 := pump_tot (relD n d).ws (relD n d).hs
    have h2 : (relD n d).hs.length ≤ d.hs.length := List.length_filter_le _ _
    have h3 : (relD n d).ws.length ≤ d.ws.length := List.length_filter_le _ _
    show (pumpH _ _).1.length + (pumpH _ _).2.1.length ≤ N
    omega
/-- it waits, and what hinders it is among the rest; or it is granted -/
def Sv (L : List QueD) (y : Int) (r : ResD) (m : Int) (rest : List Int) : Prop := (∃ d, wtOf L y = some d ∧ d.res = r ∧ (wtrOf d y).m = m ∧ ∀ b ∈ preB d y, b ∈ rest) ∨ (y ∉ txL L ∧ heldH (qOf L r).hs y = m ∧ m ≠ 0)
theorem Sv.step {L : List QueD} {y n : Int} {r : ResD} {m : Int} {rest : List Int} (h : Sv L y r m (n :: rest)) (hc : ChkOk L) (hny : y ≠ n) : Sv (woL (relD n) n L) y r m rest := by
  rcases h with ⟨d, hw, rfl, rfl, hb⟩ | ⟨h1, h2, h3⟩
  · rcases serve_step hc hny hw with ⟨h1, h2, h3⟩ | ⟨d1, h1, h2, h3, h4⟩
    · exact .inr ⟨h1, h2, h3⟩
    · refine .inl ⟨d1, h1, h2, h3, fun b hb1 => ?_⟩
      obtain ⟨h5, h6⟩ := h4 b hb1
      rcases List.mem_cons.1 (hb b h5) with e | e
      · exact absurd e h6
      · exact e
  · obtain ⟨h4, h5⟩ := keeps_held hc hny h1 (by rw [h2]; exact h3)
    exact .inr ⟨h4, by rw [h5]; exact h2, h3⟩
theorem Sv.done {L : List QueD} {y : Int} {r : ResD} {m : Int} (h : Sv L y r m []) (hc : ChkOk L) : y ∉ txL L ∧ heldH (qOf L r).hs y = m := by
  rcases h with ⟨d, hw, _, _, hb⟩ | ⟨h1, h2, _⟩
  · obtain ⟨b, hb1⟩ := (pre_ok hc hw).1
    cases hb b hb1
  · exact ⟨h1, h2⟩
/-- how far the law on serving has come -/
structure SvR (w0 : World) (G : Nat) (bl : List Int) (y m : Int) (r : ResD) (q : Option Addr) (n c : Nat) (V : List QV) (L : List QueD) (j : Nat) (wr : World) : Prop where
  chk : ChkOk L
  tot : Tot 40 L
  lk : LkOn wr q n c V L
  box : RowV 24 wr G [.slice q n c]
  fr : Fr (fun k => k = G) w0 wr
  sv : Sv L y r m (bl.drop j)
end Go.Proofs.YtbgpppbcffpdbaaGreatDoor

/-! What one holds is never less, but by its own Release; who is granted. -/
namespace Go.Proofs.YtbgpppbcffpdbaaGreatDoor
open Go.RowKit

theorem mod_isM {k : Bool} {m : Int} (h : modB k m = true) : isM m = true := by
  unfold modB at h
  split at h
  · cases h
  · split at h
    · unfold ofK at h; simp only [Bool.and_eq_true] at h; exact h.1
    · unfold ofT at h; simp only [Bool.and_eq_true] at h; exact h.1
theorem pump_cov {k : Bool} : ∀ {ws : List WaitD} {hs : List HoldD} {y : Int}, PF k hs ws → heldH hs y ≠ 0 → covB (heldH (pumpH hs ws).1 y) (heldH hs y) = true
  | [], hs, y, h, h0 => by
    show covB (heldH hs y) (heldH hs y) = true
    rw [covB_self]
    rcases held_or h.sort y with ⟨a, ha, _, e⟩ | ⟨_, e⟩
    · rw [e]; exact mod_isM (h.one a ha).2
    · exact absurd e h0
  | a :: ws, hs, y, h, h0 => by
    rw [pumpH_cons]
    split
    · show covB (heldH hs y) (heldH hs y) = true
      rw [covB_self]
      rcases held_or h.sort y with ⟨b, hb, _, e⟩ | ⟨_, e⟩
      · rw [e]; exact mod_isM (h.one b hb).2
      · exact absurd e h0
    · rename_i hg
      have ha := h.wone a List.mem_cons_self
      have hp := h.grant (by simpa using hg)
      by_cases hy : y = a.x
      · subst hy
        have h1 : heldH (grantH hs ⟨a.x, a.m⟩) a.x = a.m := by rw [held_grant h.sort, if_pos rfl]
        have h2 := pump_cov (y := a.x) hp (by rw [h1]; exact mod_ne ha.2.1)
        rw [h1] at h2
        have h3 := ha.2.2.2.2
        rw [ha.2.2.1] at h3
        exact covB_trans h2 h3
      · have h1 : heldH (grantH hs ⟨a.x, a.m⟩) y = heldH hs y := by rw [held_grant h.sort, if_neg hy]
        have h2 := pump_cov (y := y) hp (by rw [h1]; exact h0)
        rw [h1] at h2
        exact h2
/-- Release of another and Leave take nothing from who holds -/
theorem wo_cov {f : QueD → QueD} {L : List QueD} (h : ChkOk L) (hf : FFit f L) (n : Int) {d : QueD} (hd : d ∈ L) {y : Int} (hy : heldH (f d).hs y = heldH d.hs y) (h0 : heldH d.hs y ≠ 0) : covB (heldH (qOf (woL f n L) d.res).hs y) (heldH d.hs y) = true := by
  have hcov : covB (heldH (doneD f n d).1.hs y) (heldH d.hs y) = true := by
    cases ht : touchD n d with
    | false =>
      rw [doneD_not ht, covB_self]
      rcases held_or (h.sorts d hd) y with ⟨a, ha, _, e⟩ | ⟨_, e⟩
      · rw [e]; exact mod_isM ((h.fit d hd).hs.one a ha).2
      · exact absurd e h0
    | true =>
      rw [doneD_yes ht, ← hy]
      exact pump_cov (hf.fit d hd) (by rw [hy]; exact h0)
  have hne : (doneD f n d).1.hs ≠ [] := fun e => by
    rw [e] at hcov
    have h1 : heldH ([] : List HoldD) y = 0 := rfl
    rw [h1] at hcov
    cases ht : touchD n d with
    | false => rw [doneD_not ht] at e; exact (h.fit d hd).hs.ne e
    | true =>
      rw [doneD_yes ht] at e
      have h2 := pump_cov (hf.fit d hd) (y := y) (by rw [hy]; exact h0)
      have h3 : (pumpH (f d).hs (f d).ws).1 = [] := e
      have h4 : ∀ (ws : List WaitD) (hs : List HoldD), hs ≠ [] → (pumpH hs ws).1 ≠ [] := by
        intro ws
        induction ws with
        | nil => exact fun hs hh => hh
        | cons a ws ih =>
          intro hs hh
          rw [pumpH_cons]
          split
          · exact hh
          · refine ih _ (fun e2 => ?_)
            have hl : (grantH hs ⟨a.x, a.m⟩).length = 0 := by rw [e2]; rfl
            have hl2 := List.length_pos_iff.2 hh
            unfold grantH at hl
            split at hl
            · rw [List.length_set] at hl; omega
            · simp only [List.length_append, List.length_cons] at hl; omega
      exact h4 _ _ (held_ne (y := y) (by rw [hy]; exact h0)) h3
  rw [(wo_at h hf n hd hne).2]
  exact hcov
theorem rel_cov {L : List QueD} (h : ChkOk L) {n y : Int} (hny : y ≠ n) {d : QueD} (hd : d ∈ L) (h0 : heldH d.hs y ≠ 0) : covB (heldH (qOf (woL (relD n) n L) d.res).hs y) (heldH d.hs y) = true :=
  wo_cov h (ffit_rel h n) n hd (held_filter (h.sorts d hd) hny) h0
theorem lea_cov {L : List QueD} (h : ChkOk L) (n : Int) {y : Int} {d : QueD} (hd : d ∈ L) (h0 : heldH d.hs y ≠ 0) : covB (heldH (qOf (woL (leaD n) n L) d.res).hs y) (heldH d.hs y) = true :=
  wo_cov h (ffit_lea h n) n hd rfl h0
theorem uniq_res {L : List QueD} (h : SortQ L) {d e : QueD} (hd : d ∈ L) (he : e ∈ L) (hr : d.res = e.res) : d = e := by
  obtain ⟨i, hi⟩ := List.mem_iff_getElem?.1 hd
  obtain ⟨j, hj⟩ := List.mem_iff_getElem?.1 he
  have h1 := (qOf_at h hi hr).2.1
  have h2 := (qOf_at h hj rfl).2.1
  exact h1.symm.trans h2
/-- who releases holds nothing any more -/
theorem rel_gone {L : List QueD} (h : ChkOk L) (n : Int) {d : QueD} (hd : d ∈ L) (h0 : heldH d.hs n ≠ 0) : heldH (qOf (woL (relD n) n L) d.res).hs n = 0 := by
  cases ht : thereQ (woL (relD n) n L) d.res with
  | false => rw [(qOf_none ht).1]; rfl
  | true =>
    obtain ⟨e, he, hr, hq⟩ := there_some ht
    rw [hq]
    have hm := List.mem_of_getElem? he
    unfold woL at hm
    obtain ⟨d2, hd2, rfl⟩ := List.mem_map.1 (List.mem_filter.1 hm).1
    rw [done_res] at hr
    obtain rfl := uniq_res h.sort hd2 hd hr
    have htd : touchD n d2 = true := by
      unfold touchD
      rw [Bool.or_eq_true]
      exact .inl (by simpa using h0)
    rw [doneD_yes htd]
    have hso2 : SortH (relD n d2).hs := List.Pairwise.filter _ (h.sorts d2 hd)
    show heldH (pumpH (relD n d2).hs (relD n d2).ws).1 n = 0
    rw [(pump_held _ _ n hso2 (fun a ha => by have := (List.mem_filter.1 ha).2; simpa using this)).1]
    exact held_not (fun a ha => by have := (List.mem_filter.1 ha).2; simpa using this)
/-- who is granted by pump -/
theorem pump_gr {k : Bool} : ∀ {ws : List WaitD} {hs : List HoldD} {g : Int}, PF k hs ws → g ∈ (pumpH hs ws).2.2 → ∃ a ∈ ws, a.x = g ∧ (∀ b ∈ (pumpH hs ws).2.1, b.x ≠ g) ∧ heldH (pumpH hs ws).1 g = a.m
  | [], hs, g, _, hg => by cases hg
  | a :: ws, hs, g, h, hg => by
    rw [pumpH_cons] at hg ⊢
    split at hg
    · cases hg
    · rename_i hgo
      rw [if_neg hgo]
      have hp := h.grant (by simpa using hgo)
      have hnd := List.nodup_cons.1 h.nd
      rcases List.mem_cons.1 hg with rfl | hg
      · have hno : ∀ b ∈ ws, b.x ≠ a.x := fun b hb e => hnd.1 (List.mem_map.2 ⟨b, hb, e⟩)
        refine ⟨a, List.mem_cons_self, rfl, fun b hb => hno b ((pump_sub _ _).subset hb), ?_⟩
        show heldH (pumpH (grantH hs ⟨a.x, a.m⟩) ws).1 a.x = a.m
        rw [(pump_held ws _ a.x (grant_sort h.sort _) hno).1, held_grant h.sort, if_pos rfl]
      · obtain ⟨b, h1, h2, h3, h4⟩ := pump_gr hp hg
        exact ⟨b, List.mem_cons_of_mem _ h1, h2, h3, h4⟩
/-- who is granted waited, waits no more, and holds what it wanted -/
theorem wo_gr {f : QueD → QueD} {L : List QueD} (h : ChkOk L) (hf : FFit f L) (n : Int) {g : Int} (hg : g ∈ woG f n L) : ∃ d, wtOf L g = some d ∧ g ∉ txL (woL f n L) ∧ heldH (qOf (woL f n L) d.res).hs g = (wtrOf d g).m := by
  unfold woG at hg
  obtain ⟨d, hd, hg⟩ := List.mem_flatMap.1 hg
  cases ht : touchD n d with
  | false => rw [doneD_not ht] at hg; cases hg
  | true =>
    rw [doneD_yes ht] at hg
    obtain ⟨a, ha, hax, hno, hheld⟩ := pump_gr (hf.fit d hd) hg
    have haw : a ∈ d.ws := (hf.sub d hd).subset ha
    have h0 : 0 ≤ waitI d.ws g := by
      apply Classical.byContradiction
      intro hc
      exact wait_neg.1 (by omega) a haw hax
    have hw := wtOf_uniq h.nodup hd h0
    obtain ⟨A, a2, B, hsp, ha2, hA⟩ := split_of h0
    have haa : a2 = a := by
      have hnd := nd_of h hd
      have hm2 : a2 ∈ d.ws := by rw [hsp]; simp
      obtain ⟨i, hi⟩ := List.mem_iff_getElem?.1 hm2
      obtain ⟨j, hj⟩ := List.mem_iff_getElem?.1 haw
      obtain ⟨li, ei⟩ := List.getElem?_eq_some_iff.1 hi
      obtain ⟨lj, ej⟩ := List.getElem?_eq_some_iff.1 hj
      have hij : i = j := by
        rcases Nat.lt_trichotomy i j with hlt | he | hlt
        · have := List.pairwise_iff_getElem.1 hnd i j (by simpa using li) (by simpa using lj) hlt
          simp only [List.getElem_map, ei, ej, ha2, hax] at this
          exact absurd rfl this
        · exact he
        · have := List.pairwise_iff_getElem.1 hnd j i (by simpa using lj) (by simpa using li) hlt
          simp only [List.getElem_map, ei, ej, ha2, hax] at this
          exact absurd rfl this
      subst hij
      exact ei.symm.trans ej
    subst haa
    have hm0 := mod_ne ((hf.fit d hd).wone a2 ha).2.1
    have hdone : (doneD f n d).1 = ⟨d.res, (pumpH (f d).hs (f d).ws).1, (pumpH (f d).hs (f d).ws).2.1⟩ := by rw [doneD_yes ht]; rfl
    have hne : (doneD f n d).1.hs ≠ [] := held_ne (y := g) (by rw [hdone]; show heldH (pumpH _ _).1 g ≠ 0; rw [hheld]; exact hm0)
    refine ⟨d, hw, fun hm => ?_, ?_⟩
    · obtain ⟨e1, he1, b, hb, hbx⟩ := txL_mem.1 hm
      obtain ⟨e, he, rfl⟩ := List.mem_map.1 (List.mem_filter.1 he1).1
      have hbe : b ∈ e.ws := (done_sub hf he n).subset hb
      have he0 : 0 ≤ waitI e.ws g := by
        apply Classical.byContradiction
        intro hc
        exact wait_neg.1 (by omega) b hbe hbx
      have hde := wtOf_uniq h.nodup he he0
      rw [hw] at hde
      cases hde
      rw [hdone] at hb
      exact hno b hb hbx
    · rw [(wo_at h hf n hd hne).2, hdone, (wtr_split hsp hA ha2).1]
      exact hheld
theorem held_self {L : List QueD} (h : ChkOk L) {d : QueD} (hd : d ∈ L) {y : Int} (h0 : heldH d.hs y ≠ 0) : covB (heldH d.hs y) (heldH d.hs y) = true := by
  rw [covB_self]
  rcases held_or (h.sorts d hd) y with ⟨a, ha, _, e⟩ | ⟨_, e⟩
  · rw [e]; exact mod_isM ((h.fit d hd).hs.one a ha).2
  · exact absurd e h0
/-- a queue behind a change of one -/
theorem chg_at {L : List QueD} (hso : SortQ L) {r : ResD} {f : QueD → QueD} (hf : ∀ e, (f e).res = e.res) (hso' : SortQ (chgL L r f)) {d : QueD} (hd : d ∈ L) : qOf (chgL L r f) d.res = if d.res = r then f d else d := by
  obtain ⟨i, hi⟩ := List.mem_iff_getElem?.1 hd
  by_cases hr : d.res = r
  · rw [if_pos hr]
    obtain ⟨h1, h2, h3⟩ := qOf_at hso hi hr
    have hm : f d ∈ chgL L r f := by
      unfold chgL
      rw [h3, if_pos rfl, h1, h2]
      exact List.mem_iff_getElem?.2 ⟨i, by rw [List.getElem?_set, if_pos rfl, if_pos (List.getElem?_eq_some_iff.1 hi).1]⟩
    obtain ⟨j, hj⟩ := List.mem_iff_getElem?.1 hm
    exact (qOf_at hso' hj (hf d)).2.1
  · rw [if_neg hr]
    have hm : d ∈ chgL L r f := by
      unfold chgL
      split
      · rename_i ht
        obtain ⟨d0, hp, hdr, _⟩ := there_some ht
        have hne : posQ L r ≠ i := fun e => by
          rw [e, hi] at hp
          cases hp
          exact hr hdr
        exact List.mem_iff_getElem?.2 ⟨i, by rw [List.getElem?_set, if_neg hne]; exact hi⟩
      · have h1 : d ∈ L.take (posQ L r) ++ L.drop (posQ L r) := by rw [List.take_append_drop]; exact hd
        rcases List.mem_append.1 h1 with h1 | h1
        · exact List.mem_append_left _ h1
        · exact List.mem_append_right _ (List.mem_cons_of_mem _ h1)
    obtain ⟨j, hj⟩ := List.mem_iff_getElem?.1 hm
    exact (qOf_at hso' hj rfl).2.1
/-- Ask takes nothing from who holds -/
theorem ask_cov {L : List QueD} {x : Int} {r : ResD} {m : Int} {L' : List QueD} {a : Int} (h1 : AskE L x r m 0) (hok : ∀ d ∈ L, d.res.ok) (hro : r.ok) (he : askF L x r m = (L', a, 0)) {d : QueD} (hd : d ∈ L) {y : Int} (h0 : heldH d.hs y ≠ 0) :
    covB (heldH (qOf L' d.res).hs y) (heldH d.hs y) = true := by
  have hA := ask_ok h1 hok hro he
  obtain ⟨hck, hx, hrr, hm, hno⟩ := h1.chk
  have hsq := hck.sort
  have hself := held_self hck hd h0
  unfold askF at he
  by_cases hdn : (wantE (qOf L r).hs x m).2 = true
  · rw [if_pos hdn] at he
    cases he
    obtain ⟨i, hi⟩ := List.mem_iff_getElem?.1 hd
    rw [(qOf_at hsq hi rfl).2.1]
    exact hself
  rw [if_neg hdn] at he
  obtain ⟨hcn, hz⟩ := want_no (by simpa using hdn)
  rw [hz] at he
  by_cases hfl : thereQ L r = false ∧ L.length = 500
  · rw [if_pos hfl] at he; cases he
  rw [if_neg hfl] at he
  split at he
  · have hL' : chgL L r (graD ⟨x, supM (heldH (qOf L r).hs x) m, heldH (qOf L r).hs x⟩) = L' := congrArg Prod.fst he
    have hs' := hA.chk.sort
    rw [← hL'] at hs' ⊢
    rw [chg_at (f := graD ⟨x, supM (heldH (qOf L r).hs x) m, heldH (qOf L r).hs x⟩) hsq (fun _ => rfl) hs' hd]
    by_cases hr : d.res = r
    · rw [if_pos hr]
      obtain ⟨i, hi⟩ := List.mem_iff_getElem?.1 hd
      have hq := (qOf_at hsq hi hr).2.1
      rw [hq]
      show covB (heldH (grantH d.hs ⟨x, supM (heldH d.hs x) m⟩) y) (heldH d.hs y) = true
      rw [held_grant (hck.sorts d hd)]
      by_cases hyx : y = x
      · rw [if_pos hyx]
        subst hyx
        have hown : heldH d.hs y = 0 ∨ modB d.res.k (heldH d.hs y) = true := by
          rcases held_or (hck.sorts d hd) y with ⟨b, hb, _, e⟩ | ⟨_, e⟩
          · rw [e]; exact .inr ((hck.fit d hd).hs.one b hb).2
          · exact .inl e
        exact (sup_facts d.res.k hown (by rw [hr]; exact hm)).2.1
      · rw [if_neg hyx]; exact hself
    · rw [if_neg hr]; exact hself
  · have hL' : chgL L r (linD ⟨x, supM (heldH (qOf L r).hs x) m, heldH (qOf L r).hs x⟩) = L' := congrArg Prod.fst he
    have hs' := hA.chk.sort
    rw [← hL'] at hs' ⊢
    rw [chg_at (f := linD ⟨x, supM (heldH (qOf L r).hs x) m, heldH (qOf L r).hs x⟩) hsq (fun _ => rfl) hs' hd]
    by_cases hr : d.res = r
    · rw [if_pos hr]; exact hself
    · rw [if_neg hr]; exact hself
end Go.Proofs.YtbgpppbcffpdbaaGreatDoor

/-! What a step of the law on safe locks keeps. -/
namespace Go.Proofs.YtbgpppbcffpdbaaGreatDoor
open Go.RowKit

theorem Tot.qOf {N : Nat} {L : List QueD} (h : Tot N L) (r : ResD) : (qOf L r).hs.length + (qOf L r).ws.length ≤ N := by
  unfold Go.Proofs.YtbgpppbcffpdbaaGreatDoor.qOf
  cases hx : L[posQ L r]? with
  | none => exact Nat.zero_le _
  | some d =>
    by_cases hr : d.res = r
    · simp only [hr, if_true]; exact h d (List.mem_of_getElem? hx)
    · simp only [hr, if_false]; exact Nat.zero_le _
theorem chgL_tot {N : Nat} {L : List QueD} (h : Tot N L) (r : ResD) (f : QueD → QueD) (hf : ∀ d : QueD, d.hs.length + d.ws.length ≤ N → (f d).hs.length + (f d).ws.length ≤ N + 1) : Tot (N + 1) (chgL L r f) := fun d hd => by
  have hup : ∀ d ∈ L, d.hs.length + d.ws.length ≤ N + 1 := fun d hd => Nat.le_succ_of_le (h d hd)
  unfold chgL at hd
  split at hd
  · rcases List.mem_or_eq_of_mem_set hd with hd | rfl
    · exact hup d hd
    · exact hf _ (h.qOf r)
  · rcases List.mem_append.1 hd with hd | hd
    · exact hup d (List.mem_of_mem_take hd)
    · rcases List.mem_cons.1 hd with rfl | hd
      · exact hf _ (Nat.zero_le _)
      · exact hup d (List.mem_of_mem_drop hd)
theorem askF_tot {N : Nat} {L : List QueD} (h : Tot N L) {x : Int} {r : ResD} {m : Int} {L' : List QueD} {a : Int} (he : askF L x r m = (L', a, 0)) : Tot (N + 1) L' := by
  unfold askF at he
  split at he
  · cases he
    exact fun d hd => Nat.le_succ_of_le (h d hd)
  · split at he
    · cases he
    · split at he
      · cases he
        exact chgL_tot h r _ (fun d h1 => by have := grantH_len d.hs ⟨(wantE (qOf L r).hs x m).1.x, (wantE (qOf L r).hs x m).1.m⟩; unfold graD; simp only; omega)
      · cases he
        exact chgL_tot h r _ (fun d h1 => by unfold linD; simp only [List.length_append, List.length_cons, List.length_take, List.length_drop]; omega)
theorem wo_totf {N : Nat} {L : List QueD} {f : QueD → QueD} (h : Tot N L) (hf : ∀ d, (f d).hs.length ≤ d.hs.length ∧ (f d).ws.length ≤ d.ws.length) (n : Int) : Tot N (woL f n L) := fun e he => by
  unfold woL at he
  obtain ⟨d, hd, rfl⟩ := List.mem_map.1 (List.mem_filter.1 he).1
  have h0 := h d hd
  cases ht : touchD n d with
  | false => rw [doneD_not ht]; exact h0
  | true =>
    rw [doneD_yes ht]
    have h1 := pump_tot (f d).ws (f d).hs
    have h2 := hf d
    show (pumpH _ _).1.length + (pumpH _ _).2.1.length ≤ N
    omega
structure StepS (N : Nat) (L : List QueD) (kd x : Int) (L' : List QueD) (g : List Int) : Prop where
  chk : ChkOk L'
  tot : Tot (N + 1) L'
  gone : ∀ d ∈ L, kindR kd = 5 → heldH d.hs x ≠ 0 → heldH (qOf L' d.res).hs x = 0
  cov : ∀ d ∈ L, ∀ y, (kindR kd = 5 → y ≠ x) → heldH d.hs y ≠ 0 → covB (heldH (qOf L' d.res).hs y) (heldH d.hs y) = true
  gr : ∀ y ∈ g, ∃ d, wtOf L y = some d ∧ y ∉ txL L' ∧ heldH (qOf L' d.res).hs y = (wtrOf d y).m
theorem step_ok {N : Nat} {L : List QueD} {kd x m : Int} {r : ResD} {L' : List QueD} {wh : Int} {g : List Int} (hck : ChkOk L) (ht : Tot N L) (hok : ∀ d ∈ L, d.res.ok) (hro : r.ok) (h : RunR L kd x m r L' wh g 0) : StepS N L kd x L' g := by
  rcases h with ⟨h1, h2, _⟩ | ⟨h1, h2, _⟩ | ⟨h1, _, h3, rfl⟩
  · rcases h2 with ⟨_, h, _⟩ | ⟨_, _, rfl, rfl⟩
    · exact absurd rfl h
    · exact ⟨wo_chk hck (ffit_rel hck x) x, fun d hd => Nat.le_succ_of_le (wo_tot ht x d hd), fun d hd _ h0 => rel_gone hck x hd h0, fun d hd y hy h0 => rel_cov hck (hy h1) hd h0, fun y hy => wo_gr hck (ffit_rel hck x) x hy⟩
  · rcases h2 with ⟨_, h, _⟩ | ⟨_, _, h, _, _⟩ | ⟨_, _, _, rfl, rfl⟩
    · exact absurd rfl h
    · exact absurd h (by decide)
    · exact ⟨wo_chk hck (ffit_lea hck x) x, fun d hd => Nat.le_succ_of_le (wo_totf (f := leaD x) ht (fun d => ⟨Nat.le_refl _, List.length_filter_le _ _⟩) x d hd), fun d hd h5 _ => absurd (h5.symm.trans h1) (by decide), fun d hd y _ h0 => lea_cov hck x hd h0, fun y hy => wo_gr hck (ffit_lea hck x) x hy⟩
  · rcases h3 with ⟨_, h, _⟩ | ⟨hA, hF⟩
    · exact absurd rfl h
    · exact ⟨(ask_ok hA hok hro hF).chk, askF_tot ht hF, fun d hd h5 _ => absurd h5 h1, fun d hd y _ h0 => ask_cov hA hok hro hF hd h0, fun y hy => by cases hy⟩
theorem hold_at {L : List QueD} (hck : ChkOk L) {d : QueD} (hd : d ∈ L) {h : HoldD} (hh : h ∈ d.hs) : heldH d.hs h.x = h.m ∧ heldH d.hs h.x ≠ 0 := by
  have h1 := held_mem (hck.sorts d hd) hh rfl
  exact ⟨h1, by rw [h1]; exact mod_ne ((hck.fit d hd).hs.one h hh).2⟩
/-- what the law asks of what one holds -/
theorem step_held {N : Nat} {L : List QueD} {kd x : Int} {L' : List QueD} {g : List Int} (hck : ChkOk L) (h : StepS N L kd x L' g) {d : QueD} (hd : d ∈ L) {a : HoldD} (ha : a ∈ d.hs) :
    (kindR kd = 5 ∧ a.x = x ∧ heldH (qOf L' d.res).hs a.x = 0) ∨ (¬ (kindR kd = 5 ∧ a.x = x) ∧ covB (heldH (qOf L' d.res).hs a.x) a.m = true) := by
  obtain ⟨h1, h2⟩ := hold_at hck hd ha
  by_cases hg : kindR kd = 5 ∧ a.x = x
  · refine .inl ⟨hg.1, hg.2, ?_⟩
    rw [hg.2]
    exact h.gone d hd hg.1 (by rw [← hg.2]; exact h2)
  · refine .inr ⟨hg, ?_⟩
    have h3 := h.cov d hd a.x (fun h5 e => hg ⟨h5, e⟩) h2
    rwa [h1] at h3
end Go.Proofs.YtbgpppbcffpdbaaGreatDoor
