/- What Ask, Release and Leave do to a queue, as `changed` and `without` want it. -/
import Derived.Test.YtbgpppbcffpdbaaGreatDoorLWo
import Derived.Test.YtbgpppbcffpdbaaGreatDoorLAk
import Derived.Test.YtbgpppbcffpdbaaGreatDoorLRk
namespace Go.Proofs.YtbgpppbcffpdbaaGreatDoor
open Go.RowKit

def relD (x : Int) (d : QueD) : QueD := ⟨d.res, d.hs.filter (fun a => !(a.x == x)), d.ws.filter (fun a => !(a.x == x))⟩
def graD (a : WaitD) (d : QueD) : QueD := ⟨d.res, grantH d.hs ⟨a.x, a.m⟩, d.ws⟩
/-- where a waiter lines up -/
def lineP (ws : List WaitD) (a : WaitD) : Nat := if convB a = true then (ws.takeWhile convB).length else ws.length
def linD (a : WaitD) (d : QueD) : QueD := ⟨d.res, d.hs, d.ws.take (lineP d.ws a) ++ a :: d.ws.drop (lineP d.ws a)⟩
/-- conversions stand ahead of all others -/
def OrdW (ws : List WaitD) : Prop := ∀ (j : Nat) p a, ws[j]? = some p → ws[j + 1]? = some a → convB a = true → convB p = true
theorem tw_in : ∀ {ws : List WaitD} {k : Nat} {b : WaitD}, k < (ws.takeWhile convB).length → ws[k]? = some b → convB b = true
  | [], k, b, h, _ => by simp at h
  | a :: ws, k, b, h, hb => by
    rw [List.takeWhile_cons] at h
    split at h
    · rename_i hc
      cases k with
      | zero => simp at hb; subst hb; exact hc
      | succ k => exact tw_in (ws := ws) (by simpa using h) (by simpa using hb)
    · simp at h
theorem tw_at : ∀ {ws : List WaitD} {b : WaitD}, ws[(ws.takeWhile convB).length]? = some b → convB b = false
  | [], b, h => by simp at h
  | a :: ws, b, h => by
    rw [List.takeWhile_cons] at h
    split at h
    · rw [List.length_cons, List.getElem?_cons_succ] at h
      exact tw_at (ws := ws) h
    · rename_i hc
      simp at h; subst h; simpa using hc
theorem tw_past {ws : List WaitD} (h : OrdW ws) : ∀ (e : Nat) b, ws[(ws.takeWhile convB).length + e]? = some b → convB b = false
  | 0, b, hb => tw_at hb
  | e + 1, b, hb => by
    have hl := (List.getElem?_eq_some_iff.1 hb).1
    have hx : ws[(ws.takeWhile convB).length + e]? = some (ws[(ws.takeWhile convB).length + e]'(by omega)) := List.getElem?_eq_getElem (by omega)
    have h1 := tw_past h e _ hx
    cases hc : convB b with
    | false => rfl
    | true =>
      have := h _ _ b hx (by rw [Nat.add_assoc]; exact hb) hc
      rw [h1] at this; cases this
theorem lineAt_of {ws : List WaitD} (h : OrdW ws) (a : WaitD) : LineAt ws a (lineP ws a) := by
  unfold lineP
  by_cases hc : convB a = true
  · rw [if_pos hc]
    refine ⟨(List.takeWhile_sublist _).length_le, (fun e => by rw [hc] at e; cases e), fun _ => ⟨fun k b hk hb => ?_, fun k b hk hb => ?_⟩⟩
    · obtain ⟨e, rfl⟩ : ∃ e, k = (ws.takeWhile convB).length + e := ⟨k - (ws.takeWhile convB).length, by omega⟩
      exact tw_past h e b hb
    · exact tw_in (by omega) hb
  · rw [if_neg hc]
    exact ⟨Nat.le_refl _, fun _ => rfl, fun e => absurd e hc⟩

theorem do_release (cap : Nat) (L : List QueD) (r : ResD) (x : Int) (w : World) (hcap : w.cell? ⟨cap, 0, none⟩ = some (.int .i64 x)) (hsm : Sm L) : DoIt 60 cap L r (relD x) w := by
  intro u lo G m c' i V1 v d hb hlo hlu hrow hv hq hng hnd hd
  have hsz : d.hs.length ≤ 100000 ∧ d.ws.length ≤ 100000 := by
    rcases hd with hd | rfl
    · exact hsm d hd
    · exact ⟨Nat.zero_le _, Nat.zero_le _⟩
  have hcl : cap < w.heap.size := cell_in hcap
  have hG : lo ≤ G := (hrow.far _ rfl).1
  refine (release1_any lo G m c' i (i * 5) rfl V1 v d.hs d.ws x u hrow hv hq.hs hq.ws (fun a ha e => hng (by rw [← e]; exact hbs_h ha)) (fun a ha e => hng (by rw [← e]; exact hbs_w ha)) (fun a b ha hb e => ?_) (by have := hq.hs.len; omega) (by have := hq.ws.len; omega) cap (cell_kept hb (Nat.le_refl _) hcap) ⟨by omega, fun a ha e => by have := (hq.hs.far a ha).1; omega⟩).mono ?_
  · unfold hbs at hnd
    rw [ha, hb] at hnd
    simp at hnd
    exact hnd e
  · rintro e w' ⟨m1, m2, rfl, h1, h2, h3, h4⟩
    exact ⟨_, rfl, h1, ⟨hq.res, hq.ok, h2, h3⟩, fun b hb => .inl hb, hnd, h4.mono (fun k _ e => by
      rcases e with (e | ⟨a, ha, e⟩) | (e | ⟨a, ha, e⟩)
      · exact .inl e
      · exact .inr (by rw [e]; exact hbs_h ha)
      · exact .inl e
      · exact .inr (by rw [e]; exact hbs_w ha))⟩
theorem do_ask1 (cap : Nat) (L : List QueD) (r : ResD) (wx wm wh : Int) (w : World) (hcap : Boxed w cap [.int .i64 wx, .int .i64 wm, .int .i64 wh]) (hsm : Sm L) (hsH : ∀ d ∈ L, SortH d.hs) : DoIt 69 cap L r (graD ⟨wx, wm, wh⟩) w := by
  intro u lo G m c' i V1 v d hb hlo hlu hrow hv hq hng hnd hd
  have hsz : d.hs.length ≤ 100000 ∧ SortH d.hs := by
    rcases hd with hd | rfl
    · exact ⟨(hsm d hd).1, hsH d hd⟩
    · exact ⟨Nat.zero_le _, List.Pairwise.nil⟩
  have hap : ∀ a b, v.hq = some a → v.wq = some b → a.block ≠ b.block := fun a b ha hb e => by
    unfold hbs at hnd
    rw [ha, hb] at hnd
    simp at hnd
    exact hnd e
  refine (ask1_any lo G m c' i (i * 5) rfl V1 v d.hs wx wm wh u hlu hrow hv hq.hs (fun a ha e => hng (by rw [← e]; exact hbs_h ha)) hsz.2 (by have := hq.hs.len; omega) cap (hcap.below hb (Nat.le_refl _))).mono ?_
  rintro e w' ⟨q', m', c2, rfl, h1, h2, h3, h4⟩
  have hna : ∀ a, q' = some a → (∃ b, v.hq = some b ∧ a.block = b.block) ∨ u.heap.size ≤ a.block := h3
  refine ⟨_, rfl, h1, ⟨hq.res, hq.ok, h2, hq.ws.fr h4 (fun a ha e => ?_)⟩, fun b hbm => ?_, hbs_nodup (fun a b ha hb e => ?_), h4.mono (fun k _ e => by
      rcases e with e | ⟨a, ha, e⟩
      · exact .inl e
      · exact .inr (by rw [e]; exact hbs_h ha))⟩
  · rcases e with e | ⟨b, hb, e⟩
    · exact hng (by rw [← e]; exact hbs_w ha)
    · exact hap b a hb ha e.symm
  · rcases hbs_or hbm with ⟨a, ha, rfl⟩ | ⟨a, ha, rfl⟩
    · rcases hna a ha with ⟨b, h5, h6⟩ | h5
      · exact .inl (by rw [h6]; exact hbs_h h5)
      · exact .inr h5
    · exact .inl (hbs_w ha)
  · rcases hna a ha with ⟨b', h5, h6⟩ | h5
    · exact hap b' b h5 hb (by rw [← h6]; exact e)
    · have := (hq.ws.far b hb).2; omega
theorem do_ask2 (cap : Nat) (L : List QueD) (r : ResD) (wx wm wh : Int) (w : World) (hcap : Boxed w cap [.int .i64 wx, .int .i64 wm, .int .i64 wh]) (hsm : Sm L) (hor : ∀ d ∈ L, OrdW d.ws) : DoIt 71 cap L r (linD ⟨wx, wm, wh⟩) w := by
  intro u lo G m c' i V1 v d hb hlo hlu hrow hv hq hng hnd hd
  have hsz : d.ws.length ≤ 100000 ∧ OrdW d.ws := by
    rcases hd with hd | rfl
    · exact ⟨(hsm d hd).2, hor d hd⟩
    · exact ⟨Nat.zero_le _, fun j p a h => by simp at h⟩
  have hap : ∀ a b, v.hq = some a → v.wq = some b → a.block ≠ b.block := fun a b ha hb e => by
    unfold hbs at hnd
    rw [ha, hb] at hnd
    simp at hnd
    exact hnd e
  refine (ask2_any lo G m c' i (i * 5) rfl V1 v d.ws wx wm wh (lineP d.ws ⟨wx, wm, wh⟩) (lineAt_of hsz.2 _) u hlu hrow hv hq.ws (fun a ha e => hng (by rw [← e]; exact hbs_w ha)) (by have := hq.ws.len; omega) cap (hcap.below hb (Nat.le_refl _))).mono ?_
  rintro e w' ⟨q', m', c2, rfl, h1, h2, h3, h4⟩
  have hna : ∀ a, q' = some a → (∃ b, v.wq = some b ∧ a.block = b.block) ∨ u.heap.size ≤ a.block := h3
  refine ⟨_, rfl, h1, ⟨hq.res, hq.ok, hq.hs.fr h4 (fun a ha e => ?_), h2⟩, fun b hbm => ?_, hbs_nodup (fun a b ha hb e => ?_), h4.mono (fun k _ e => by
      rcases e with e | ⟨a, ha, e⟩
      · exact .inl e
      · exact .inr (by rw [e]; exact hbs_w ha))⟩
  · rcases e with e | ⟨b, hb, e⟩
    · exact hng (by rw [← e]; exact hbs_h ha)
    · exact hap a b ha hb e
  · rcases hbs_or hbm with ⟨a, ha, rfl⟩ | ⟨a, ha, rfl⟩
    · exact .inl (hbs_h ha)
    · rcases hna a ha with ⟨b, h5, h6⟩ | h5
      · exact .inl (by rw [h6]; exact hbs_w h5)
      · exact .inr h5
  · rcases hna b hb with ⟨b', h5, h6⟩ | h5
    · exact hap a b' ha h5 (by rw [← h6]; exact e)
    · have := (hq.hs.far a ha).2; omega
end Go.Proofs.YtbgpppbcffpdbaaGreatDoor
