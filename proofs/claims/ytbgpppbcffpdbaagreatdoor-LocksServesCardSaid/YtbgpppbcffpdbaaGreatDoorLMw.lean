/- Who waits, when one of all releases: what hinders it becomes less, or it is granted. -/
import Derived.Test.YtbgpppbcffpdbaaGreatDoorLMv
import Derived.Test.YtbgpppbcffpdbaaGreatDoorLBk
namespace Go.Proofs.YtbgpppbcffpdbaaGreatDoor
open Go.RowKit

theorem fIdx_split {α : Type} {p : α → Bool} {A : List α} {a : α} {B : List α} (hA : ∀ b ∈ A, p b = false) (ha : p a = true) : fIdx p (A ++ a :: B) = (A.length : Nat) :=
  fIdx_at (k := A.length) (a := a) (fun i b hi hb => by rw [List.getElem?_append_left hi] at hb; exact hA b (List.mem_of_getElem? hb)) (by rw [List.getElem?_append_right (Nat.le_refl _), Nat.sub_self]; rfl) ha
theorem wait_split {A : List WaitD} {a : WaitD} {B : List WaitD} {y : Int} (hA : ∀ b ∈ A, b.x ≠ y) (ha : a.x = y) : waitI (A ++ a :: B) y = (A.length : Nat) :=
  fIdx_split (fun b hb => by simpa using hA b hb) (by simpa using ha)
theorem wtr_split {d : QueD} {A : List WaitD} {a : WaitD} {B : List WaitD} {y : Int} (hd : d.ws = A ++ a :: B) (hA : ∀ b ∈ A, b.x ≠ y) (ha : a.x = y) : wtrOf d y = a ∧ d.ws.take (waitI d.ws y).toNat = A := by
  unfold wtrOf
  rw [hd, wait_split hA ha, Int.toNat_natCast]
  refine ⟨?_, ?_⟩
  · rw [List.getElem?_append_right (Nat.le_refl _), Nat.sub_self]; rfl
  · rw [List.take_left']; rfl
theorem split_of {d : QueD} {y : Int} (h : 0 ≤ waitI d.ws y) : ∃ A a B, d.ws = A ++ a :: B ∧ a.x = y ∧ (∀ b ∈ A, b.x ≠ y) := by
  obtain ⟨p, a, h1, h2, h3, h4, h5, h6⟩ := wtr_at h
  refine ⟨d.ws.take p, a, d.ws.drop (p + 1), ?_, h5, fun b hb => ?_⟩
  · conv => lhs; rw [← List.take_append_drop p d.ws, List.drop_eq_getElem_cons h2, (List.getElem?_eq_some_iff.1 h3).2]
  · obtain ⟨i, hi⟩ := List.mem_iff_getElem?.1 hb
    rw [List.getElem?_take] at hi
    split at hi
    · exact h6 i b (by assumption) hi
    · cases hi
theorem pumpH_cons (hs : List HoldD) (a : WaitD) (ws : List WaitD) : pumpH hs (a :: ws) = if goesW hs a = false then (hs, a :: ws, []) else ((pumpH (grantH hs ⟨a.x, a.m⟩) ws).1, (pumpH (grantH hs ⟨a.x, a.m⟩) ws).2.1, a.x :: (pumpH (grantH hs ⟨a.x, a.m⟩) ws).2.2) := by
  conv => lhs; unfold pumpH
/-- pump stops ahead of a, or grants it -/
theorem pump_split : ∀ (A : List WaitD) (a : WaitD) (B : List WaitD) (hs : List HoldD), SortH hs → (∃ A', A'.Sublist A ∧ (pumpH hs (A ++ a :: B)).2.1 = A' ++ a :: B ∧ ∀ h ∈ (pumpH hs (A ++ a :: B)).1, h ∈ hs ∨ ∃ w ∈ A, h.x = w.x) ∨
    ∃ hs2, SortH hs2 ∧ (pumpH hs (A ++ a :: B)).1 = (pumpH (grantH hs2 ⟨a.x, a.m⟩) B).1 ∧ (pumpH hs (A ++ a :: B)).2.1 = (pumpH (grantH hs2 ⟨a.x, a.m⟩) B).2.1
  | [], a, B, hs, hso => by
    rw [List.nil_append, pumpH_cons]
    split
    · exact .inl ⟨[], List.Sublist.refl _, rfl, fun h hh => .inl hh⟩
    · exact .inr ⟨hs, hso, rfl, rfl⟩
  | c :: A, a, B, hs, hso => by
    rw [List.cons_append, pumpH_cons]
    split
    · exact .inl ⟨c :: A, List.Sublist.refl _, rfl, fun h hh => .inl hh⟩
    · rcases pump_split A a B (grantH hs ⟨c.x, c.m⟩) (grant_sort hso _) with ⟨A', h1, h2, h3⟩ | ⟨hs2, h1, h2, h3⟩
      · refine .inl ⟨A', h1.trans (List.sublist_cons_self _ _), h2, fun h hh => ?_⟩
        rcases h3 h hh with h4 | ⟨w, hw, he⟩
        · rcases (grant_mem hso _ h).1 h4 with rfl | ⟨h5, _⟩
          · exact .inr ⟨c, List.mem_cons_self, rfl⟩
          · exact .inl h5
        · exact .inr ⟨w, List.mem_cons_of_mem _ hw, he⟩
      · exact .inr ⟨hs2, h1, h2, h3⟩
theorem pump_held : ∀ (ws : List WaitD) (hs : List HoldD) (y : Int), SortH hs → (∀ a ∈ ws, a.x ≠ y) → heldH (pumpH hs ws).1 y = heldH hs y ∧ SortH (pumpH hs ws).1
  | [], hs, y, hso, _ => ⟨rfl, hso⟩
  | a :: ws, hs, y, hso, hn => by
    unfold pumpH
    split
    · exact ⟨rfl, hso⟩
    · obtain ⟨h1, h2⟩ := pump_held ws (grantH hs ⟨a.x, a.m⟩) y (grant_sort hso _) (fun b hb => hn b (List.mem_cons_of_mem _ hb))
      refine ⟨?_, h2⟩
      rw [h1, held_grant hso, if_neg (fun e => hn a List.mem_cons_self e.symm)]
theorem held_ne {hs : List HoldD} {y : Int} (h : heldH hs y ≠ 0) : hs ≠ [] := fun e => by subst e; exact h rfl
/-- where a queue is behind without -/
theorem wo_at {f : QueD → QueD} {L : List QueD} (h : ChkOk L) (hf : FFit f L) (n : Int) {d : QueD} (hd : d ∈ L) (hne : (doneD f n d).1.hs ≠ []) : (doneD f n d).1 ∈ woL f n L ∧ qOf (woL f n L) d.res = (doneD f n d).1 := by
  have hm : (doneD f n d).1 ∈ woL f n L := by
    unfold woL
    exact List.mem_filter.2 ⟨List.mem_map_of_mem (f := fun d => (doneD f n d).1) hd, by
      have : 0 < (doneD f n d).1.hs.length := List.length_pos_iff.2 hne
      simp; exact hne⟩
  obtain ⟨i, hi⟩ := List.mem_iff_getElem?.1 hm
  exact ⟨hm, (qOf_at (wo_chk h hf n).sort hi (done_res f n d)).2.1⟩
theorem wo_tx {f : QueD → QueD} {L : List QueD} (hf : FFit f L) (n y : Int) (h : y ∉ txL L) : y ∉ txL (woL f n L) := fun hm => by
  unfold woL at hm
  exact h ((txL_filter _ _).subset hm |> (txL_map (fun d hd => done_sub hf hd n)).subset)
/-- who waits for nothing keeps what it holds, when another releases -/
theorem keeps_held {L : List QueD} (h : ChkOk L) {y n : Int} (hny : y ≠ n) {r : ResD} (hno : y ∉ txL L) (hm : heldH (qOf L r).hs y ≠ 0) : y ∉ txL (woL (relD n) n L) ∧ heldH (qOf (woL (relD n) n L) r).hs y = heldH (qOf L r).hs y := by
  refine ⟨wo_tx (ffit_rel h n) n y hno, ?_⟩
  cases ht : thereQ L r with
  | false =>
    rw [(qOf_none ht).1] at hm
    exact absurd rfl hm
  | true =>
    obtain ⟨d, hd, hr, hq⟩ := there_some ht
    subst hr
    have hdm := List.mem_of_getElem? hd
    rw [hq] at hm ⊢
    have hno' : ∀ a ∈ d.ws, a.x ≠ y := fun a ha e => hno (txL_mem.2 ⟨d, hdm, a, ha, e⟩)
    have hkey : heldH (doneD (relD n) n d).1.hs y = heldH d.hs y := by
      cases htd : touchD n d with
      | false => rw [doneD_not htd]
      | true =>
        rw [doneD_yes htd]
        have hso2 : SortH (relD n d).hs := List.Pairwise.filter _ (h.sorts d hdm)
        have h1 := (pump_held (relD n d).ws (relD n d).hs y hso2 (fun a ha => hno' a (List.mem_filter.1 ha).1)).1
        show heldH (pumpH (relD n d).hs (relD n d).ws).1 y = _
        rw [h1]
        exact held_filter (h.sorts d hdm) hny
    rw [(wo_at h (ffit_rel h n) n hdm (held_ne (by rw [hkey]; exact hm))).2, hkey]
theorem mem_upTo (d : Array Int) (x : Int) : ∀ m, x ∈ Lib.compactUpTo d m ↔ ∃ j, j < m ∧ d[j]! = x
  | 0 => by simp [Lib.compactUpTo]
  | m + 1 => by
    rw [Lib.compactUpTo_succ, List.mem_append, mem_upTo d x m]
    by_cases hk : Lib.keeps d m = true
    · rw [if_pos hk, List.mem_singleton]
      constructor
      · rintro (⟨j, h1, h2⟩ | rfl)
        · exact ⟨j, by omega, h2⟩
        · exact ⟨m, by omega, rfl⟩
      · rintro ⟨j, h1, h2⟩
        by_cases e : j = m
        · subst e; exact .inr h2.symm
        · exact .inl ⟨j, by omega, h2⟩
    · rw [if_neg hk]
      have hn : m ≠ 0 ∧ d[m]! = d[m - 1]! := by
        unfold Lib.keeps at hk
        have h1 : ¬ (m = 0 ∨ d[m]! ≠ d[m - 1]!) := fun h => hk (decide_eq_true h)
        exact ⟨fun e => h1 (.inl e), Classical.byContradiction fun e => h1 (.inr e)⟩
      constructor
      · rintro (⟨j, h1, h2⟩ | h)
        · exact ⟨j, by omega, h2⟩
        · cases h
      · rintro ⟨j, h1, h2⟩
        by_cases e : j = m
        · subst e; exact .inl ⟨j - 1, by omega, by rw [← hn.2]; exact h2⟩
        · exact .inl ⟨j, by omega, h2⟩
theorem mem_compact {l : List Int} {x : Int} : x ∈ Lib.compact l ↔ x ∈ l := by
  unfold Lib.compact
  rw [mem_upTo]
  constructor
  · rintro ⟨j, h1, h2⟩
    have h3 : l.toArray[j]! = l[j] := by simp [h1]
    rw [h3] at h2
    exact h2 ▸ List.getElem_mem h1
  · intro h
    obtain ⟨j, h1, h2⟩ := List.mem_iff_getElem.1 h
    exact ⟨j, h1, by have h3 : l.toArray[j]! = l[j] := by simp [h1]
                     rw [h3]; exact h2⟩
theorem mem_blk {d : QueD} {y b : Int} : b ∈ blkOf d y ↔ b ∈ preB d y := by
  unfold blkOf
  rw [mem_compact, List.mem_mergeSort]
theorem mem_pre {d : QueD} {A : List WaitD} {a : WaitD} {B : List WaitD} {y b : Int} (hd : d.ws = A ++ a :: B) (hA : ∀ b ∈ A, b.x ≠ y) (ha : a.x = y) : b ∈ preB d y ↔ (∃ h ∈ d.hs, hindB h a = true ∧ h.x = b) ∨ ∃ w ∈ A, w.x = b := by
  obtain ⟨e1, e2⟩ := wtr_split hd hA ha
  unfold preB
  rw [e2, e1, List.mem_append, List.mem_map, List.mem_map]
  constructor
  · rintro (⟨h, hm, rfl⟩ | ⟨w, hw, rfl⟩)
    · exact .inl ⟨h, (List.mem_filter.1 hm).1, (List.mem_filter.1 hm).2, rfl⟩
    · exact .inr ⟨w, hw, rfl⟩
  · rintro (⟨h, hm, h2, rfl⟩ | ⟨w, hw, rfl⟩)
    · exact .inl ⟨h, List.mem_filter.2 ⟨hm, h2⟩, rfl⟩
    · exact .inr ⟨w, hw, rfl⟩
theorem mod_ne {k : Bool} {m : Int} (h : modB k m = true) : m ≠ 0 := fun e => by subst e; unfold modB at h; simp at h
/-- who waits has blockers, other than itself -/
theorem pre_ok {L : List QueD} (h : ChkOk L) {y : Int} {d : QueD} (hw : wtOf L y = some d) : (∃ b, b ∈ preB d y) ∧ ∀ b ∈ preB d y, b ≠ y ∧ txnB b = true := by
  obtain ⟨hdm, h0⟩ := wtOf_mem hw
  obtain ⟨A, a, B, hd, ha, hA⟩ := split_of h0
  have hf := h.fit d hdm
  refine ⟨?_, fun b hb => ?_⟩
  · cases A with
    | nil =>
      obtain ⟨hh, h1, h2, h3⟩ := goesW_not.1 (hf.ws.first a (by rw [hd]; rfl))
      exact ⟨hh.x, (mem_pre hd hA ha).2 (.inl ⟨hh, h1, by unfold hindB; rw [decide_eq_true h2, h3]; rfl, rfl⟩)⟩
    | cons w A => exact ⟨w.x, (mem_pre hd hA ha).2 (.inr ⟨w, List.mem_cons_self, rfl⟩)⟩
  · rcases (mem_pre hd hA ha).1 hb with ⟨hh, h1, h2, rfl⟩ | ⟨w, hw, rfl⟩
    · unfold hindB at h2
      simp only [Bool.and_eq_true, decide_eq_true_eq] at h2
      exact ⟨by rw [← ha]; exact h2.1, (hf.hs.one hh h1).1⟩
    · exact ⟨hA w hw, (hf.ws.one w (by rw [hd]; exact List.mem_append_left _ hw)).1⟩
theorem wtOf_uniq : ∀ {L : List QueD} {y : Int} {d : QueD}, (txL L).Nodup → d ∈ L → 0 ≤ waitI d.ws y → wtOf L y = some d
  | e :: L, y, d, hn, hd, h0 => by
    have hsp : txL (e :: L) = e.ws.map (·.x) ++ txL L := by simp [txL]
    rw [hsp] at hn
    unfold wtOf
    split
    · rename_i h1
      rcases List.mem_cons.1 hd with rfl | hd
      · rfl
      · exfalso
        have m1 : y ∈ e.ws.map (·.x) := by
          apply Classical.byContradiction
          intro hc
          have := (wait_neg (ws := e.ws) (x := y)).2 (fun a ha e2 => hc (List.mem_map.2 ⟨a, ha, e2⟩))
          omega
        have m2 : y ∈ txL L := by
          apply Classical.byContradiction
          intro hc
          have := (wait_neg (ws := d.ws) (x := y)).2 (fun a ha e2 => hc (txL_mem.2 ⟨d, hd, a, ha, e2⟩))
          omega
        exact (List.nodup_append.1 hn).2.2 y m1 y m2 rfl
    · rename_i h1
      rcases List.mem_cons.1 hd with rfl | hd
      · exact absurd h0 h1
      · exact wtOf_uniq (List.nodup_append.1 hn).2.1 hd h0
/-- when another releases: granted, or less hinders it -/
theorem serve_step {L : List QueD} (h : ChkOk L) {y n : Int} (hny : y ≠ n) {d : QueD} (hw : wtOf L y = some d) :
    (y ∉ txL (woL (relD n) n L) ∧ heldH (qOf (woL (relD n) n L) d.res).hs y = (wtrOf d y).m ∧ (wtrOf d y).m ≠ 0) ∨
    ∃ d1, wtOf (woL (relD n) n L) y = some d1 ∧ d1.res = d.res ∧ (wtrOf d1 y).m = (wtrOf d y).m ∧ ∀ b ∈ preB d1 y, b ∈ preB d y ∧ b ≠ n := by
  obtain ⟨hdm, h0⟩ := wtOf_mem hw
  obtain ⟨A, a, B, hd, ha, hA⟩ := split_of h0
  have hf := h.fit d hdm
  have hff := ffit_rel h n
  have hck := wo_chk h hff n
  have hwa := (wtr_split hd hA ha).1
  have ha1 := hf.ws.one a (by rw [hd]; simp)
  have hnd := nd_of h hdm
  rw [hd, List.map_append, List.map_cons] at hnd
  have hB : ∀ b ∈ B, b.x ≠ y := fun b hb e => by
    have h1 := (List.nodup_append.1 hnd).2.1
    have h2 := (List.nodup_cons.1 h1).1
    exact h2 (List.mem_map.2 ⟨b, hb, by rw [e, ha]⟩)
  rw [hwa]
  cases ht : touchD n d with
  | false =>
    refine .inr ⟨d, ?_, rfl, by rw [hwa], fun b hb => ⟨hb, fun e => ?_⟩⟩
    · have h1 := (wo_at h hff n hdm (by rw [doneD_not ht]; exact hf.hs.ne)).1
      rw [doneD_not ht] at h1
      exact wtOf_uniq hck.nodup h1 h0
    · subst e
      unfold touchD at ht
      simp only [Bool.or_eq_false_iff, bne_eq_false_iff_eq, decide_eq_false_iff_not] at ht
      rcases (mem_pre hd hA ha).1 hb with ⟨hh, h1, h2, h3⟩ | ⟨w, hw, h3⟩
      · have h4 := held_mem hf.hs.sort h1 h3
        rw [ht.1] at h4
        exact mod_ne (hf.hs.one hh h1).2 h4.symm
      · exact (wait_neg (ws := d.ws) (x := b)).1 (by omega) w (by rw [hd]; exact List.mem_append_left _ hw) h3
  | true =>
    have hso2 : SortH (relD n d).hs := List.Pairwise.filter _ hf.hs.sort
    have hws : (relD n d).ws = A.filter (fun a => !(a.x == n)) ++ a :: B.filter (fun a => !(a.x == n)) := by
      show d.ws.filter _ = _
      rw [hd, List.filter_append, List.filter_cons, if_pos (by rw [ha]; simpa using hny)]
    obtain ⟨hp, hp0⟩ := pump_fit (hff.fit d hdm)
    have hdone : (doneD (relD n) n d).1 = ⟨d.res, (pumpH (relD n d).hs (relD n d).ws).1, (pumpH (relD n d).hs (relD n d).ws).2.1⟩ := by rw [doneD_yes ht]; rfl
    rw [hws] at hp hp0 hdone
    rcases pump_split (A.filter (fun a => !(a.x == n))) a (B.filter (fun a => !(a.x == n))) (relD n d).hs hso2 with ⟨A', s1, s2, s3⟩ | ⟨hs2, s1, s2, s3⟩
    · have hA' : ∀ b ∈ A', b.x ≠ y := fun b hb => hA b (List.mem_filter.1 (s1.subset hb)).1
      have hne : (doneD (relD n) n d).1.hs ≠ [] := by
        rw [hdone]
        show (pumpH _ _).1 ≠ []
        have hx : ∃ c, (pumpH (relD n d).hs (A.filter (fun a => !(a.x == n)) ++ a :: B.filter (fun a => !(a.x == n)))).2.1[0]? = some c := by
          rw [s2]
          cases A' with
          | nil => exact ⟨a, rfl⟩
          | cons w A' => exact ⟨w, rfl⟩
        obtain ⟨c, hc⟩ := hx
        obtain ⟨hh, h1, _⟩ := goesW_not.1 (hp0 c hc)
        exact List.ne_nil_of_mem h1
      obtain ⟨h1, _⟩ := wo_at h hff n hdm hne
      have hw1 : (doneD (relD n) n d).1.ws = A' ++ a :: B.filter (fun a => !(a.x == n)) := by rw [hdone]; exact s2
      refine .inr ⟨(doneD (relD n) n d).1, wtOf_uniq hck.nodup h1 ?_, done_res _ _ _, by rw [(wtr_split hw1 hA' ha).1], fun b hb => ?_⟩
      · rw [hw1, wait_split hA' ha]; omega
      · rcases (mem_pre hw1 hA' ha).1 hb with ⟨hh, m1, m2, rfl⟩ | ⟨w, hw, rfl⟩
        · rw [hdone] at m1
          rcases s3 hh m1 with m3 | ⟨w, hw, he⟩
          · have m4 := List.mem_filter.1 m3
            exact ⟨(mem_pre hd hA ha).2 (.inl ⟨hh, m4.1, m2, rfl⟩), by simpa using m4.2⟩
          · have m4 := List.mem_filter.1 hw
            rw [he]
            exact ⟨(mem_pre hd hA ha).2 (.inr ⟨w, m4.1, rfl⟩), by simpa using m4.2⟩
        · have m4 := List.mem_filter.1 (s1.subset hw)
          exact ⟨(mem_pre hd hA ha).2 (.inr ⟨w, m4.1, rfl⟩), by simpa using m4.2⟩
    · have hB' : ∀ b ∈ B.filter (fun a => !(a.x == n)), b.x ≠ y := fun b hb => hB b (List.mem_filter.1 hb).1
      have hm0 := mod_ne ha1.2.1
      have hheld : heldH (doneD (relD n) n d).1.hs y = a.m := by
        rw [hdone]
        show heldH (pumpH _ _).1 y = _
        rw [s2, (pump_held _ _ y (grant_sort s1 _) hB').1, held_grant s1, if_pos ha.symm]
      have hne : (doneD (relD n) n d).1.hs ≠ [] := held_ne (y := y) (by rw [hheld]; exact hm0)
      obtain ⟨h1, h2⟩ := wo_at h hff n hdm hne
      refine .inl ⟨fun hm => ?_, by rw [h2, hheld], hm0⟩
      obtain ⟨e1, he1, b, hb, hbx⟩ := txL_mem.1 hm
      have he2 := (List.mem_filter.1 he1).1
      obtain ⟨e, he, rfl⟩ := List.mem_map.1 he2
      have hbe : b ∈ e.ws := (done_sub hff he n).subset hb
      have he0 : 0 ≤ waitI e.ws y := by
        apply Classical.byContradiction
        intro hc
        exact wait_neg.1 (by omega) b hbe hbx
      have hde := wtOf_uniq h.nodup he he0
      rw [hw] at hde
      cases hde
      rw [hdone] at hb
      have hb2 : b ∈ (pumpH (grantH hs2 ⟨a.x, a.m⟩) (B.filter (fun a => !(a.x == n)))).2.1 := by rw [← s3]; exact hb
      exact hB' b ((pump_sub _ _).subset hb2) hbx
end Go.Proofs.YtbgpppbcffpdbaaGreatDoor
