/- What comes of Release and Leave, in numbers: what may be, how one is served, what one holds, and what a step keeps (merged of several texts). -/
import Derived.Test.YtbgpppbcffpdbaaGreatDoorLMu
import Derived.Test.YtbgpppbcffpdbaaGreatDoorLRe
import Derived.Test.YtbgpppbcffpdbaaGreatDoorLBk
import Derived.Test.YtbgpppbcffpdbaaGreatDoorLTo

/-! What Release and Leave leave may be again. -/
namespace Go.Proofs.YtbgpppbcffpdbaaGreatDoor
open Go.RowKit

/-- what pump starts from and keeps -/
structure PF (k : Bool) (hs : List HoldD) (ws : List WaitD) : Prop where
  one : ∀ h ∈ hs, txnB h.x = true ∧ modB k h.m = true
  sort : SortH hs
  tog : togB hs = true
  wone : ∀ a ∈ ws, txnB a.x = true ∧ modB k a.m = true ∧ a.h = heldH hs a.x ∧ covB a.h a.m = false ∧ covB a.m a.h = true
  ord : ws.Pairwise (fun p a => convB a = true → convB p = true)
  nd : (ws.map (·.x)).Nodup
theorem ord_pair : ∀ {ws : List WaitD}, (∀ (j : Nat) p a, ws[j]? = some p → ws[j + 1]? = some a → convB a = true → convB p = true) → ws.Pairwise (fun p a => convB a = true → convB p = true)
  | [], _ => List.Pairwise.nil
  | [a], _ => List.pairwise_singleton _ a
  | a :: b :: ws, h => by
    have ih := ord_pair (ws := b :: ws) (fun j p c h1 h2 => h (j + 1) p c (by simpa using h1) (by simpa using h2))
    refine List.pairwise_cons.2 ⟨fun c hc hcc => ?_, ih⟩
    have hab := h 0 a b rfl rfl
    rcases List.mem_cons.1 hc with rfl | hc
    · exact hab hcc
    · exact hab ((List.pairwise_cons.1 ih).1 c hc hcc)
theorem pair_ord {ws : List WaitD} (h : ws.Pairwise (fun p a => convB a = true → convB p = true)) (j : Nat) (p a : WaitD) (h1 : ws[j]? = some p) (h2 : ws[j + 1]? = some a) : convB a = true → convB p = true := by
  obtain ⟨l1, e1⟩ := List.getElem?_eq_some_iff.1 h1
  obtain ⟨l2, e2⟩ := List.getElem?_eq_some_iff.1 h2
  have := List.pairwise_iff_getElem.1 h j (j + 1) l1 l2 (by omega)
  rwa [e1, e2] at this
theorem PF.grant {k : Bool} {hs : List HoldD} {a : WaitD} {ws : List WaitD} (h : PF k hs (a :: ws)) (hg : goesW hs a = true) : PF k (grantH hs ⟨a.x, a.m⟩) ws := by
  have ha := h.wone a List.mem_cons_self
  have hgo := goesW_iff.1 hg
  have hnd := List.nodup_cons.1 h.nd
  refine ⟨fun b hb => ?_, grant_sort h.sort _, (tog_mem (grant_sort h.sort _)).2 (fun b hb c hc hne => ?_), fun b hb => ?_, (List.pairwise_cons.1 h.ord).2, hnd.2⟩
  · rcases (grant_mem h.sort _ b).1 hb with rfl | ⟨hb, _⟩
    · exact ⟨ha.1, ha.2.1⟩
    · exact h.one b hb
  · have ht := (tog_mem h.sort).1 h.tog
    rcases (grant_mem h.sort _ b).1 hb with rfl | ⟨hb, hbx⟩
    · rcases (grant_mem h.sort _ c).1 hc with rfl | ⟨hc, hcx⟩
      · exact absurd rfl hne
      · rw [goesB_sym]; exact hgo c hc hcx
    · rcases (grant_mem h.sort _ c).1 hc with rfl | ⟨hc, hcx⟩
      · exact hgo b hb hbx
      · exact ht b hb c hc hne
  · have hb2 := h.wone b (List.mem_cons_of_mem _ hb)
    have hne : b.x ≠ a.x := fun e => hnd.1 (List.mem_map.2 ⟨b, hb, e⟩)
    refine ⟨hb2.1, hb2.2.1, ?_, hb2.2.2.2⟩
    rw [held_grant h.sort, if_neg hne]
    exact hb2.2.2.1
theorem pump_fit {k : Bool} : ∀ {ws : List WaitD} {hs : List HoldD}, PF k hs ws → PF k (pumpH hs ws).1 (pumpH hs ws).2.1 ∧ ∀ a, (pumpH hs ws).2.1[0]? = some a → goesW (pumpH hs ws).1 a = false
  | [], hs, h => ⟨h, fun a ha => by simp [pumpH] at ha⟩
  | a :: ws, hs, h => by
    unfold pumpH
    split
    · rename_i hg
      exact ⟨h, fun b hb => by simp at hb; subst hb; exact hg⟩
    · rename_i hg
      exact pump_fit (h.grant (by simpa using hg))
theorem PF.of_fit {d : QueD} (h : QuFit d) (hn : (d.ws.map (·.x)).Nodup) : PF d.res.k d.hs d.ws := ⟨h.hs.one, h.hs.sort, h.hs.tog, h.ws.one, ord_pair h.ws.ord, hn⟩
theorem PF.leave {k : Bool} {hs : List HoldD} {ws : List WaitD} (h : PF k hs ws) (x : Int) : PF k hs (ws.filter (fun a => !(a.x == x))) :=
  ⟨h.one, h.sort, h.tog, fun a ha => h.wone a (List.mem_filter.1 ha).1, h.ord.filter _, h.nd.sublist (List.filter_sublist.map _)⟩
theorem held_filter {hs : List HoldD} (hso : SortH hs) {x y : Int} (hne : y ≠ x) : heldH (hs.filter (fun a => !(a.x == x))) y = heldH hs y := by
  have hso2 : SortH (hs.filter (fun a => !(a.x == x))) := List.Pairwise.filter _ hso
  rcases held_or hso y with ⟨h, hm, hx, he⟩ | ⟨hn, he⟩
  · rw [he]
    exact held_mem hso2 (List.mem_filter.2 ⟨hm, by simp [hx, hne]⟩) hx
  · rw [he]
    exact held_not (fun h hm => hn h (List.mem_filter.1 hm).1)
theorem PF.release {k : Bool} {hs : List HoldD} {ws : List WaitD} (h : PF k hs ws) (x : Int) : PF k (hs.filter (fun a => !(a.x == x))) (ws.filter (fun a => !(a.x == x))) := by
  have h2 := h.leave x
  have hso2 : SortH (hs.filter (fun a => !(a.x == x))) := List.Pairwise.filter _ h.sort
  refine ⟨fun a ha => h.one a (List.mem_filter.1 ha).1, hso2, (tog_mem hso2).2 (fun a ha b hb => (tog_mem h.sort).1 h.tog a (List.mem_filter.1 ha).1 b (List.mem_filter.1 hb).1), fun a ha => ?_, h2.ord, h2.nd⟩
  have h3 := h2.wone a ha
  have hne : a.x ≠ x := by have := (List.mem_filter.1 ha).2; simpa using this
  exact ⟨h3.1, h3.2.1, by rw [held_filter h.sort hne]; exact h3.2.2.1, h3.2.2.2⟩
theorem pump_sub : ∀ (ws : List WaitD) (hs : List HoldD), (pumpH hs ws).2.1.Sublist ws
  | [], hs => by simp [pumpH]
  | a :: ws, hs => by
    unfold pumpH
    split
    · exact List.Sublist.refl _
    · exact (pump_sub ws _).trans (List.sublist_cons_self _ _)

/-- what a closure has to leave -/
structure FFit (f : QueD → QueD) (L : List QueD) : Prop where
  fit : ∀ d ∈ L, PF d.res.k (f d).hs (f d).ws
  res : ∀ d ∈ L, (f d).res = d.res
  sub : ∀ d ∈ L, (f d).ws.Sublist d.ws
theorem nd_of {L : List QueD} (h : ChkOk L) {d : QueD} (hd : d ∈ L) : (d.ws.map (·.x)).Nodup := by
  obtain ⟨l1, l2, rfl⟩ := List.append_of_mem hd
  have h1 := h.nodup
  unfold txL at h1
  rw [List.flatMap_append, List.flatMap_cons] at h1
  exact (List.nodup_append.1 (List.nodup_append.1 h1).2.1).1
theorem ffit_rel {L : List QueD} (h : ChkOk L) (x : Int) : FFit (relD x) L := ⟨fun d hd => (PF.of_fit (h.fit d hd) (nd_of h hd)).release x, fun _ _ => rfl, fun _ _ => List.filter_sublist⟩
theorem done_res (f : QueD → QueD) (x : Int) (d : QueD) : (doneD f x d).1.res = d.res := by
  unfold doneD
  split
  · rfl
  · rfl
theorem done_fit {f : QueD → QueD} {L : List QueD} (h : ChkOk L) (hf : FFit f L) {d : QueD} (hd : d ∈ L) (x : Int) (hne : (doneD f x d).1.hs ≠ []) : QuFit (doneD f x d).1 := by
  cases ht : touchD x d with
  | false => rw [doneD_not ht]; exact h.fit d hd
  | true =>
    rw [doneD_yes ht] at hne ⊢
    obtain ⟨hp, h0⟩ := pump_fit (hf.fit d hd)
    exact ⟨(h.fit d hd).res, ⟨hp.one, hp.sort, hne, hp.tog⟩, ⟨hp.wone, fun j p a h1 h2 => pair_ord hp.ord j p a h1 h2, h0⟩⟩
theorem done_sub {f : QueD → QueD} {L : List QueD} (hf : FFit f L) {d : QueD} (hd : d ∈ L) (x : Int) : (doneD f x d).1.ws.Sublist d.ws := by
  cases ht : touchD x d with
  | false => rw [doneD_not ht]; exact List.Sublist.refl _
  | true => rw [doneD_yes ht]; exact (pump_sub _ _).trans (hf.sub d hd)
theorem txL_map {g : QueD → QueD} : ∀ {L : List QueD}, (∀ d ∈ L, (g d).ws.Sublist d.ws) → (txL (L.map g)).Sublist (txL L)
  | [], _ => List.Sublist.refl _
  | d :: L, h => by
    have ih := txL_map (L := L) (fun e he => h e (List.mem_cons_of_mem _ he))
    have hd := h d List.mem_cons_self
    unfold txL at ih ⊢
    simp only [List.map_cons, List.flatMap_cons]
    exact List.Sublist.append (hd.map _) ih
theorem txL_filter (p : QueD → Bool) : ∀ (L : List QueD), (txL (L.filter p)).Sublist (txL L)
  | [] => List.Sublist.refl _
  | d :: L => by
    have ih := txL_filter p L
    unfold txL at ih ⊢
    rw [List.filter_cons]
    split
    · simp only [List.flatMap_cons]
      exact List.Sublist.append (List.Sublist.refl _) ih
    · simp only [List.flatMap_cons]
      exact ih.trans (List.sublist_append_right _ _)
theorem wo_chk {f : QueD → QueD} {L : List QueD} (h : ChkOk L) (hf : FFit f L) (x : Int) : ChkOk (woL f x L) := by
  refine ⟨?_, ?_, fun e he => ?_, fun j p a hp ha => ?_⟩
  · unfold woL
    exact Nat.le_trans (List.length_filter_le _ _) (by rw [List.length_map]; exact h.len)
  · unfold woL
    exact h.nodup.sublist ((txL_filter _ _).trans (txL_map (fun d hd => done_sub hf hd x)))
  · unfold woL at he
    obtain ⟨he, hne⟩ := List.mem_filter.1 he
    obtain ⟨d, hd, rfl⟩ := List.mem_map.1 he
    exact done_fit h hf hd x (fun e => by simp [e] at hne)
  · have hs : SortQ (woL f x L) := by
      unfold woL SortQ
      refine List.Pairwise.filter _ (List.pairwise_map.2 ?_)
      exact h.sort.imp (fun hab => by rw [done_res, done_res]; exact hab)
    obtain ⟨l1, e1⟩ := List.getElem?_eq_some_iff.1 hp
    obtain ⟨l2, e2⟩ := List.getElem?_eq_some_iff.1 ha
    have := List.pairwise_iff_getElem.1 hs j (j + 1) l1 l2 (by omega)
    rwa [e1, e2] at this
end Go.Proofs.YtbgpppbcffpdbaaGreatDoor

/-! Who waits, when one of all releases: what hinders it becomes less, or it is granted. -/
namespace Go.Proofs.YtbgpppbcffpdbaaGreatDoor
open Go.RowKit

theorem fIdx_split {α : Type} {p : α → Bool} {A : List α} {a : α} {B : List α} (hA : ∀ b ∈ A, p b = false) (ha : p a = true) : fIdx p (A ++ a :: B) = (A.length : Nat) :=
  fIdx_at (k := A.length) (a := a) (fun i b hi hb => by rw [List.getElem?_append_left hi] at hb; exact hA b (List.mem_of_getElem? hb)) (by rw [List.getElem?_append_right (Nat.le_refl _), Nat.sub_self]; rfl) ha
theorem wait_split {A : List WaitD} {a : WaitD} {B : List WaitD} {y : Int} (hA : ∀ b ∈ A, b.x ≠ y) (ha : a.x = y) : waitI (A ++ a :: B) y = (A.length : Nat) :=
  fIdx_split (fun b hb => by simpa using hA b hb) (by simpa using ha)
theorem wtr_split {d : QueD} {A : List WaitD} {a : WaitD} {B : List WaitD} {y : Int} (hd : d.ws = A ++ a :: B) (hA : ∀ b ∈ A, b.x ≠ y) (ha : a.x = y) : wtrOf d y = a ∧ d.ws.take (waitI d.ws y).toNat = A := by
  unfold wtrOf
  rw [hd, wait_split hA ha, Int.toNat_natCast]
  refine ⟨?_, ?_⟩
  · rw [List.getElem?_append_right (Nat.le_refl _), Nat.sub_self]; rfl
  · rw [List.take_left']; rfl
theorem split_of {d : QueD} {y : Int} (h : 0 ≤ waitI d.ws y) : ∃ A a B, d.ws = A ++ a :: B ∧ a.x = y ∧ (∀ b ∈ A, b.x ≠ y) := by
  obtain ⟨p, a, h1, h2, h3, h4, h5, h6⟩ := wtr_at h
  refine ⟨d.ws.take p, a, d.ws.drop (p + 1), ?_, h5, fun b hb => ?_⟩
  · conv => lhs; rw [← List.take_append_drop p d.ws, List.drop_eq_getElem_cons h2, (List.getElem?_eq_some_iff.1 h3).2]
  · obtain ⟨i, hi⟩ := List.mem_iff_getElem?.1 hb
    rw [List.getElem?_take] at hi
    split at hi
    · exact h6 i b (by assumption) hi
    · cases hi
theorem pumpH_cons (hs : List HoldD) (a : WaitD) (ws : List WaitD) : pumpH hs (a :: ws) = if goesW hs a = false then (hs, a :: ws, []) else ((pumpH (grantH hs ⟨a.x, a.m⟩) ws).1, (pumpH (grantH hs ⟨a.x, a.m⟩) ws).2.1, a.x :: (pumpH (grantH hs ⟨a.x, a.m⟩) ws).2.2) := by
  conv => lhs; unfold pumpH
/-- pump stops ahead of a, or grants it -/
theorem pump_split : ∀ (A : List WaitD) (a : WaitD) (B : List WaitD) (hs : List HoldD), SortH hs → (∃ A', A'.Sublist A ∧ (pumpH hs (A ++ a :: B)).2.1 = A' ++ a :: B ∧ ∀ h ∈ (pumpH hs (A ++ a :: B)).1, h ∈ hs ∨ ∃ w ∈ A, h.x = w.x) ∨
    ∃ hs2, SortH hs2 ∧ (pumpH hs (A ++ a :: B)).1 = (pumpH (grantH hs2 ⟨a.x, a.m⟩) B).1 ∧ (pumpH hs (A ++ a :: B)).2.1 = (pumpH (grantH hs2 ⟨a.x, a.m⟩) B).2.1
  | [], a, B, hs, hso => by
    rw [List.nil_append, pumpH_cons]
    split
    · exact .inl ⟨[], List.Sublist.refl _, rfl, fun h hh => .inl hh⟩
    · exact .inr ⟨hs, hso, rfl, rfl⟩
  | c :: A, a, B, hs, hso => by
    rw [List.cons_append, pumpH_cons]
    split
    · exact .inl ⟨c :: A, List.Sublist.refl _, rfl, fun h hh => .inl hh⟩
    · rcases pump_split A a B (grantH hs ⟨c.x, c.m⟩) (grant_sort hso _) with ⟨A', h1, h2, h3⟩ | ⟨hs2, h1, h2, h3⟩
      · refine .inl ⟨A', h1.trans (List.sublist_cons_self _ _), h2, fun h hh => ?_⟩
        rcases h3 h hh with h4 | ⟨w, hw, he⟩
        · rcases (grant_mem hso _ h).1 h4 with rfl | ⟨h5, _⟩
          · exact .inr ⟨c, List.mem_cons_self, rfl⟩
          · exact .inl h5
        · exact .inr ⟨w, List.mem_cons_of_mem _ hw, he⟩
      · exact .inr ⟨hs2, h1, h2, h3⟩
theorem pump_held : ∀ (ws : List WaitD) (hs : List HoldD) (y : Int), SortH hs → (∀ a ∈ ws, a.x ≠ y) → heldH (pumpH hs ws).1 y = heldH hs y ∧ SortH (pumpH hs ws).1
  | [], hs, y, hso, _ => ⟨rfl, hso⟩
  | a :: ws, hs, y, hso, hn => by
    unfold pumpH
    split
    · exact ⟨rfl, hso⟩
    · obtain ⟨h1, h2⟩ := pump_held ws (grantH hs ⟨a.x, a.m⟩) y (grant_sort hso _) (fun b hb => hn b (List.mem_cons_of_mem _ hb))
      refine ⟨?_, h2⟩
      rw [h1, held_grant hso, if_neg (fun e => hn a List.mem_cons_self e.symm)]
theorem held_ne {hs : List HoldD} {y : Int} (h : heldH hs y ≠ 0) : hs ≠ [] := fun e => by subst e; exact h rfl
/-- where a queue is behind without -/
theorem wo_at {f : QueD → QueD} {L : List QueD} (h : ChkOk L) (hf : FFit f L) (n : Int) {d : QueD} (hd : d ∈ L) (hne : (doneD f n d).1.hs ≠ []) : (doneD f n d).1 ∈ woL f n L ∧ qOf (woL f n L) d.res = (doneD f n d).1 := by
  have hm : (doneD f n d).1 ∈ woL f n L := by
    unfold woL
    exact List.mem_filter.2 ⟨List.mem_map_of_mem (f := fun d => (doneD f n d).1) hd, by
      have : 0 < (doneD f n d).1.hs.length := List.length_pos_iff.2 hne
      simp; exact hne⟩
  obtain ⟨i, hi⟩ := List.mem_iff_getElem?.1 hm
  exact ⟨hm, (qOf_at (wo_chk h hf n).sort hi (done_res f n d)).2.1⟩
theorem wo_tx {f : QueD → QueD} {L : List QueD} (hf : FFit f L) (n y : Int) (h : y ∉ txL L) : y ∉ txL (woL f n L) := fun hm => by
  unfold woL at hm
  exact h ((txL_filter _ _).subset hm |> (txL_map (fun d hd => done_sub hf hd n)).subset)
/-- who waits for nothing keeps what it holds, when another releases -/
theorem keeps_held {L : List QueD} (h : ChkOk L) {y n : Int} (hny : y ≠ n) {r : ResD} (hno : y ∉ txL L) (hm : heldH (qOf L r).hs y ≠ 0) : y ∉ txL (woL (relD n) n L) ∧ heldH (qOf (woL (relD n) n L) r).hs y = heldH (qOf L r).hs y := by
  refine ⟨wo_tx (ffit_rel h n) n y hno, ?_⟩
  cases ht : thereQ L r with
  | false =>
    rw [(qOf_none ht).1] at hm
    exact absurd rfl hm
  | true =>
    obtain ⟨d, hd, hr, hq⟩ := there_some ht
    subst hr
    have hdm := List.mem_of_getElem? hd
    rw [hq] at hm ⊢
    have hno' : ∀ a ∈ d.ws, a.x ≠ y := fun a ha e => hno (txL_mem.2 ⟨d, hdm, a, ha, e⟩)
    have hkey : heldH (doneD (relD n) n d).1.hs y = heldH d.hs y := by
      cases htd : touchD n d with
      | false => rw [doneD_not htd]
      | true =>
        rw [doneD_yes htd]
        have hso2 : SortH (relD n d).hs := List.Pairwise.filter _ (h.sorts d hdm)
        have h1 := (pump_held (relD n d).ws (relD n d).hs y hso2 (fun a ha => hno' a (List.mem_filter.1 ha).1)).1
        show heldH (pumpH (relD n d).hs (relD n d).ws).1 y = _
        rw [h1]
        exact held_filter (h.sorts d hdm) hny
    rw [(wo_at h (ffit_rel h n) n hdm (held_ne (by rw [hkey]; exact hm))).2, hkey]
theorem mem_pre {d : QueD} {A : List WaitD} {a : WaitD} {B : List WaitD} {y b : Int} (hd : d.ws = A ++ a :: B) (hA : ∀ b ∈ A, b.x ≠ y) (ha : a.x = y) : b ∈ preB d y ↔ (∃ h ∈ d.hs, hindB h a = true ∧ h.x = b) ∨ ∃ w ∈ A, w.x = b := by
  obtain ⟨e1, e2⟩ := wtr_split hd hA ha
  unfold preB
  rw [e2, e1, List.mem_append, List.mem_map, List.mem_map]
  constructor
  · rintro (⟨h, hm, rfl⟩ | ⟨w, hw, rfl⟩)
    · exact .inl ⟨h, (List.mem_filter.1 hm).1, (List.mem_filter.1 hm).2, rfl⟩
    · exact .inr ⟨w, hw, rfl⟩
  · rintro (⟨h, hm, h2, rfl⟩ | ⟨w, hw, rfl⟩)
    · exact .inl ⟨h, List.mem_filter.2 ⟨hm, h2⟩, rfl⟩
    · exact .inr ⟨w, hw, rfl⟩
theorem mod_ne {k : Bool} {m : Int} (h : modB k m = true) : m ≠ 0 := fun e => by subst e; unfold modB at h; simp at h
/-- who waits has blockers, other than itself -/
theorem pre_ok {L : List QueD} (h : ChkOk L) {y : Int} {d : QueD} (hw : wtOf L y = some d) : (∃ b, b ∈ preB d y) ∧ ∀ b ∈ preB d y, b ≠ y ∧ txnB b = true := by
  obtain ⟨hdm, h0⟩ := wtOf_mem hw
  obtain ⟨A, a, B, hd, ha, hA⟩ := split_of h0
  have hf := h.fit d hdm
  refine ⟨?_, fun b hb => ?_⟩
  · cases A with
    | nil =>
      obtain ⟨hh, h1, h2, h3⟩ := goesW_not.1 (hf.ws.first a (by rw [hd]; rfl))
      exact ⟨hh.x, (mem_pre hd hA ha).2 (.inl ⟨hh, h1, by unfold hindB; rw [decide_eq_true h2, h3]; rfl, rfl⟩)⟩
    | cons w A => exact ⟨w.x, (mem_pre hd hA ha).2 (.inr ⟨w, List.mem_cons_self, rfl⟩)⟩
  · rcases (mem_pre hd hA ha).1 hb with ⟨hh, h1, h2, rfl⟩ | ⟨w, hw, rfl⟩
    · unfold hindB at h2
      simp only [Bool.and_eq_true, decide_eq_true_eq] at h2
      exact ⟨by rw [← ha]; exact h2.1, (hf.hs.one hh h1).1⟩
    · exact ⟨hA w hw, (hf.ws.one w (by rw [hd]; exact List.mem_append_left _ hw)).1⟩
theorem wtOf_uniq : ∀ {L : List QueD} {y : Int} {d : QueD}, (txL L).Nodup → d ∈ L → 0 ≤ waitI d.ws y → wtOf L y = some d
  | e :: L, y, d, hn, hd, h0 => by
    have hsp : txL (e :: L) = e.ws.map (·.x) ++ txL L := by simp [txL]
    rw [hsp] at hn
    unfold wtOf
    split
    · rename_i h1
      rcases List.mem_cons.1 hd with rfl | hd
      · rfl
      · exfalso
        have m1 : y ∈ e.ws.map (·.x) := by
          apply Classical.byContradiction
          intro hc
          have := (wait_neg (ws := e.ws) (x := y)).2 (fun a ha e2 => hc (List.mem_map.2 ⟨a, ha, e2⟩))
          omega
        have m2 : y ∈ txL L := by
          apply Classical.byContradiction
          intro hc
          have := (wait_neg (ws := d.ws) (x := y)).2 (fun a ha e2 => hc (txL_mem.2 ⟨d, hd, a, ha, e2⟩))
          omega
        exact (List.nodup_append.1 hn).2.2 y m1 y m2 rfl
    · rename_i h1
      rcases List.mem_cons.1 hd with rfl | hd
      · exact absurd h0 h1
      · exact wtOf_uniq (List.nodup_append.1 hn).2.1 hd h0
/-- when another releases: granted, or less hinders it -/
theorem serve_step {L : List QueD} (h : ChkOk L) {y n : Int} (hny : y ≠ n) {d : QueD} (hw : wtOf L y = some d) :
    (y ∉ txL (woL (relD n) n L) ∧ heldH (qOf (woL (relD n) n L) d.res).hs y = (wtrOf d y).m ∧ (wtrOf d y).m ≠ 0) ∨
    ∃ d1, wtOf (woL (relD n) n L) y = some d1 ∧ d1.res = d.res ∧ (wtrOf d1 y).m = (wtrOf d y).m ∧ ∀ b ∈ preB d1 y, b ∈ preB d y ∧ b ≠ n := by
  obtain ⟨hdm, h0⟩ := wtOf_mem hw
  obtain ⟨A, a, B, hd, ha, hA⟩ := split_of h0
  have hf := h.fit d hdm
  have hff := ffit_rel h n
  have hck := wo_chk h hff n
  have hwa := (wtr_split hd hA ha).1
  have ha1 := hf.ws.one a (by rw [hd]; simp)
  have hnd := nd_of h hdm
  rw [hd, List.map_append, List.map_cons] at hnd
  have hB : ∀ b ∈ B, b.x ≠ y := fun b hb e => by
    have h1 := (List.nodup_append.1 hnd).2.1
    have h2 := (List.nodup_cons.1 h1).1
    exact h2 (List.mem_map.2 ⟨b, hb, by rw [e, ha]⟩)
  rw [hwa]
  cases ht : touchD n d with
  | false =>
    refine .inr ⟨d, ?_, rfl, by rw [hwa], fun b hb => ⟨hb, fun e => ?_⟩⟩
    · have h1 := (wo_at h hff n hdm (by rw [doneD_not ht]; exact hf.hs.ne)).1
      rw [doneD_not ht] at h1
      exact wtOf_uniq hck.nodup h1 h0
    · subst e
      unfold touchD at ht
      simp only [Bool.or_eq_false_iff, bne_eq_false_iff_eq, decide_eq_false_iff_not] at ht
      rcases (mem_pre hd hA ha).1 hb with ⟨hh, h1, h2, h3⟩ | ⟨w, hw, h3⟩
      · have h4 := held_mem hf.hs.sort h1 h3
        rw [ht.1] at h4
        exact mod_ne (hf.hs.one hh h1).2 h4.symm
      · exact (wait_neg (ws := d.ws) (x := b)).1 (by omega) w (by rw [hd]; exact List.mem_append_left _ hw) h3
  | true =>
    have hso2 : SortH (relD n d).hs := List.Pairwise.filter _ hf.hs.sort
    have hws : (relD n d).ws = A.filter (fun a => !(a.x == n)) ++ a :: B.filter (fun a => !(a.x == n)) := by
      show d.ws.filter _ = _
      rw [hd, List.filter_append, List.filter_cons, if_pos (by rw [ha]; simpa using hny)]
    obtain ⟨hp, hp0⟩ := pump_fit (hff.fit d hdm)
    have hdone : (doneD (relD n) n d).1 = ⟨d.res, (pumpH (relD n d).hs (relD n d).ws).1, (pumpH (relD n d).hs (relD n d).ws).2.1⟩ := by rw [doneD_yes ht]; rfl
    rw [hws] at hp hp0 hdone
    rcases pump_split (A.filter (fun a => !(a.x == n))) a (B.filter (fun a => !(a.x == n))) (relD n d).hs hso2 with ⟨A', s1, s2, s3⟩ | ⟨hs2, s1, s2, s3⟩
    · have hA' : ∀ b ∈ A', b.x ≠ y := fun b hb => hA b (List.mem_filter.1 (s1.subset hb)).1
      have hne : (doneD (relD n) n d).1.hs ≠ [] := by
        rw [hdone]
        show (pumpH _ _).1 ≠ []
        have hx : ∃ c, (pumpH (relD n d).hs (A.filter (fun a => !(a.x == n)) ++ a :: B.filter (fun a => !(a.x == n)))).2.1[0]? = some c := by
          rw [s2]
          cases A' with
          | nil => exact ⟨a, rfl⟩
          | cons w A' => exact ⟨w, rfl⟩
        obtain ⟨c, hc⟩ := hx
        obtain ⟨hh, h1, _⟩ := goesW_not.1 (hp0 c hc)
        exact List.ne_nil_of_mem h1
      obtain ⟨h1, _⟩ := wo_at h hff n hdm hne
      have hw1 : (doneD (relD n) n d).1.ws = A' ++ a :: B.filter (fun a => !(a.x == n)) := by rw [hdone]; exact s2
      refine .inr ⟨(doneD (relD n) n d).1, wtOf_uniq hck.nodup h1 ?_, done_res _ _ _, by rw [(wtr_split hw1 hA' ha).1], fun b hb => ?_⟩
      · rw [hw1, wait_split hA' ha]; omega
      · rcases (mem_pre hw1 hA' ha).1 hb with ⟨hh, m1, m2, rfl⟩ | ⟨w, hw, rfl⟩
        · rw [hdone] at m1
          rcases s3 hh m1 with m3 | ⟨w, hw, he⟩
          · have m4 := List.mem_filter.1 m3
            exact ⟨(mem_pre hd hA ha).2 (.inl ⟨hh, m4.1, m2, rfl⟩), by simpa using m4.2⟩
          · have m4 := List.mem_filter.1 hw
            rw [he]
            exact ⟨(mem_pre hd hA ha).2 (.inr ⟨w, m4.1, rfl⟩), by simpa using m4.2⟩
        · have m4 := List.mem_filter.1 (s1.subset hw)
          exact ⟨(mem_pre hd hA ha).2 (.inr ⟨w, m4.1, rfl⟩), by simpa using m4.2⟩
    · have hB' : ∀ b ∈ B.filter (fun a => !(a.x == n)), b.x ≠ y := fun b hb => hB b (List.mem_filter.1 hb).1
      have hm0 := mod_ne ha1.2.1
      have hheld : heldH (doneD (relD n) n d).1.hs y = a.m := by
        rw [hdone]
        show heldH (pumpH _ _).1 y = _
        rw [s2, (pump_held _ _ y (grant_sort s1 _) hB').1, held_grant s1, if_pos ha.symm]
      have hne : (doneD (relD n) n d).1.hs ≠ [] := held_ne (y := y) (by rw [hheld]; exact hm0)
      obtain ⟨h1, h2⟩ := wo_at h hff n hdm hne
      refine .inl ⟨fun hm => ?_, by rw [h2, hheld], hm0⟩
      obtain ⟨e1, he1, b, hb, hbx⟩ := txL_mem.1 hm
      have he2 := (List.mem_filter.1 he1).1
      obtain ⟨e, he, rfl⟩ := List.mem_map.1 he2
      have hbe : b ∈ e.ws := (done_sub hff he n).subset hb
      have he0 : 0 ≤ waitI e.ws y := by
        apply Classical.byContradiction
        intro hc
        exact wait_neg.1 (by omega) b hbe hbx
      have hde := wtOf_uniq h.nodup he he0
      rw [hw] at hde
      cases hde
      rw [hdone] at hb
      have hb2 : b ∈ (pumpH (grantH hs2 ⟨a.x, a.m⟩) (B.filter (fun a => !(a.x == n)))).2.1 := by rw [← s3]; exact hb
      exact hB' b ((pump_sub _ _).subset hb2) hbx
end Go.Proofs.YtbgpppbcffpdbaaGreatDoor

/-! How one is served: its blockers release one after another. -/
namespace Go.Proofs.YtbgpppbcffpdbaaGreatDoor
open Go.RowKit

/-- no queue is longer than N, its rows together -/
def Tot (N : Nat) (L : List QueD) : Prop := ∀ d ∈ L, d.hs.length + d.ws.length ≤ N
theorem Tot.sm {N : Nat} {L : List QueD} (h : Tot N L) (hN : N ≤ 100000) : Sm L := fun d hd => by have := h d hd; omega
/-- it waits, and what hinders it is among the rest; or it is granted -/
def Sv (L : List QueD) (y : Int) (r : ResD) (m : Int) (rest : List Int) : Prop := (∃ d, wtOf L y = some d ∧ d.res = r ∧ (wtrOf d y).m = m ∧ ∀ b ∈ preB d y, b ∈ rest) ∨ (y ∉ txL L ∧ heldH (qOf L r).hs y = m ∧ m ≠ 0)
theorem Sv.step {L : List QueD} {y n : Int} {r : ResD} {m : Int} {rest : List Int} (h : Sv L y r m (n :: rest)) (hc : ChkOk L) (hny : y ≠ n) : Sv (woL (relD n) n L) y r m rest := by
  rcases h with ⟨d, hw, rfl, rfl, hb⟩ | ⟨h1, h2, h3⟩
  · rcases serve_step hc hny hw with ⟨h1, h2, h3⟩ | ⟨d1, h1, h2, h3, h4⟩
    · exact .inr ⟨h1, h2, h3⟩
    · refine .inl ⟨d1, h1, h2, h3, fun b hb1 => ?_⟩
      obtain ⟨h5, h6⟩ := h4 b hb1
      rcases List.mem_cons.1 (hb b h5) with e | e
      · exact absurd e h6
      · exact e
  · obtain ⟨h4, h5⟩ := keeps_held hc hny h1 (by rw [h2]; exact h3)
    exact .inr ⟨h4, by rw [h5]; exact h2, h3⟩
theorem Sv.done {L : List QueD} {y : Int} {r : ResD} {m : Int} (h : Sv L y r m []) (hc : ChkOk L) : y ∉ txL L ∧ heldH (qOf L r).hs y = m := by
  rcases h with ⟨d, hw, _, _, hb⟩ | ⟨h1, h2, _⟩
  · obtain ⟨b, hb1⟩ := (pre_ok hc hw).1
    cases hb b hb1
  · exact ⟨h1, h2⟩
end Go.Proofs.YtbgpppbcffpdbaaGreatDoor

/-! What one holds is never less, but by its own Release; who is granted. -/
namespace Go.Proofs.YtbgpppbcffpdbaaGreatDoor
open Go.RowKit

end Go.Proofs.YtbgpppbcffpdbaaGreatDoor

/-! What a step of the law on safe locks keeps. -/
namespace Go.Proofs.YtbgpppbcffpdbaaGreatDoor
open Go.RowKit

theorem Tot.qOf {N : Nat} {L : List QueD} (h : Tot N L) (r : ResD) : (qOf L r).hs.length + (qOf L r).ws.length ≤ N := by
  unfold Go.Proofs.YtbgpppbcffpdbaaGreatDoor.qOf
  cases hx : L[posQ L r]? with
  | none => exact Nat.zero_le _
  | some d =>
    by_cases hr : d.res = r
    · simp only [hr, if_true]; exact h d (List.mem_of_getElem? hx)
    · simp only [hr, if_false]; exact Nat.zero_le _
end Go.Proofs.YtbgpppbcffpdbaaGreatDoor
