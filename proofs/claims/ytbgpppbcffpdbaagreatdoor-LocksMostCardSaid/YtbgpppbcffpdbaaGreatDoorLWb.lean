/- without of locks: how far its queues are done. -/
import Derived.Test.YtbgpppbcffpdbaaGreatDoorLCg
import Derived.Test.YtbgpppbcffpdbaaGreatDoorLPn
import Derived.Test.YtbgpppbcffpdbaaGreatDoorLTr
import Derived.Test.YtbgpppbcffpdbaaGreatDoorLWt
namespace Go.Proofs.YtbgpppbcffpdbaaGreatDoor
open Go.RowKit Go.Maps

/-- a queue of the call's own that may have been pumped -/
structure QP (w : World) (lo : Nat) (v : QV) (d : QueD) : Prop where
  res : v.res = d.res
  ok : d.res.ok
  hs : OwnS 45 w lo (.slice v.hq v.hn v.hc) d.hs
  ws : OwnO 47 w lo v.wq v.wn v.wc d.ws
theorem QO.qp {w : World} {lo : Nat} {v : QV} {d : QueD} (h : QO w lo v d) : QP w lo v d := ⟨h.res, h.ok, h.hs, h.ws.oo⟩
theorem QP.on {w : World} {lo : Nat} {v : QV} {d : QueD} (h : QP w lo v d) : v.On w d := ⟨h.res, h.ok, h.hs.reads, h.ws.reads⟩
theorem QP.lt {w : World} {lo : Nat} {v : QV} {d : QueD} (h : QP w lo v d) : ∀ b ∈ hbs v, lo ≤ b ∧ b < w.heap.size := fun b hb => by
  rcases hbs_or hb with ⟨a, ha, rfl⟩ | ⟨a, ha, rfl⟩
  · exact h.hs.far a ha
  · exact h.ws.far a ha
theorem QP.fr {S : Nat → Prop} {w w' : World} {lo : Nat} {v : QV} {d : QueD} (h : QP w lo v d) (hf : Fr S w w') (hn : ∀ b ∈ hbs v, ¬ S b) : QP w' lo v d :=
  ⟨h.res, h.ok, h.hs.fr hf (fun _ ha => hn _ (hbs_h ha)), h.ws.fr hf (fun _ ha => hn _ (hbs_w ha))⟩
theorem QP.mono {w : World} {lo lo' : Nat} {v : QV} {d : QueD} (h : QP w lo v d) (hl : lo' ≤ lo) : QP w lo' v d := ⟨h.res, h.ok, h.hs.mono hl, h.ws.mono hl⟩

/-- locks of the call's own, of which queues may have been pumped -/
structure LkP (w : World) (lo : Nat) (q : Option Addr) (n c : Nat) (V : List QV) (L : List QueD) : Prop where
  row : OwnS 43 w lo (.slice q n c) V
  len : L.length = n
  on : ∀ (i : Nat) (v : QV) (d : QueD), V[i]? = some v → L[i]? = some d → QP w lo v d
  nd : (bl V).Nodup
  ne : ∀ a, q = some a → a.block ∉ bl V
theorem LkW.lp {w : World} {lo : Nat} {q : Option Addr} {n c : Nat} {V : List QV} {L : List QueD} (h : LkW w lo q n c V L) : LkP w lo q n c V L := ⟨h.row, h.len, fun i v d h1 h2 => (h.on i v d h1 h2).qp, h.nd, h.ne⟩
theorem LkP.lk {w : World} {lo : Nat} {q : Option Addr} {n c : Nat} {V : List QV} {L : List QueD} (h : LkP w lo q n c V L) : LkOn w q n c V L := ⟨h.row.reads, h.len, fun i v d h1 h2 => (h.on i v d h1 h2).on⟩
theorem LkP.below {w w' : World} {lo : Nat} {q : Option Addr} {n c : Nat} {V : List QV} {L : List QueD} (h : LkP w lo q n c V L) (hb : Below w.heap.size w w') : LkP w' lo q n c V L :=
  ⟨h.row.below hb, h.len, fun i v d h1 h2 => (h.on i v d h1 h2).fr (S := fun _ => False) (Fr.of_below hb) (fun _ _ e => e), h.nd, h.ne⟩
theorem LkP.mono {w : World} {lo lo' : Nat} {q : Option Addr} {n c : Nat} {V : List QV} {L : List QueD} (h : LkP w lo q n c V L) (hl : lo' ≤ lo) : LkP w lo' q n c V L :=
  ⟨h.row.mono hl, h.len, fun i v d h1 h2 => (h.on i v d h1 h2).mono hl, h.nd, h.ne⟩

/-- what comes of a queue, and who is granted -/
def pumD (f : QueD → QueD) (d : QueD) : QueD × List Int := (⟨d.res, (pumpH (f d).hs (f d).ws).1, (pumpH (f d).hs (f d).ws).2.1⟩, (pumpH (f d).hs (f d).ws).2.2)
def doneD (f : QueD → QueD) (x : Int) (d : QueD) : QueD × List Int := if touchD x d = true then pumD f d else (d, [])
theorem doneD_not {f : QueD → QueD} {x : Int} {d : QueD} (h : touchD x d = false) : doneD f x d = (d, []) := by unfold doneD; rw [if_neg (by rw [h]; decide)]
theorem doneD_yes {f : QueD → QueD} {x : Int} {d : QueD} (h : touchD x d = true) : doneD f x d = pumD f d := by unfold doneD; rw [if_pos h]

/-- how far the queues are done -/
structure WoE (F : QueD → QueD × List Int) (wS : World) (lo b9 : Nat) (q : Option Addr) (n c : Nat) (V : List QV) (L : List QueD) (k : Nat) (wr : World) (Vk : List QV) (gq : Option Addr) (gn gc : Nat) : Prop where
  row : OwnS 43 wr lo (.slice q n c) Vk
  did : ∀ (j : Nat) v d, j < k → Vk[j]? = some v → L[j]? = some d → QP wr lo v (F d).1
  todo : ∀ (j : Nat) v d, k ≤ j → Vk[j]? = some v → L[j]? = some d → QO wr lo v d
  nd : (bl Vk).Nodup
  ne : ∀ a, q = some a → a.block ∉ bl Vk
  sub : ∀ b ∈ bl Vk, b ∈ bl V ∨ wS.heap.size + 2 ≤ b
  box : RowV 33 wr b9 [.slice gq gn gc]
  own : OwnS 3 wr (wS.heap.size + 2) (.slice gq gn gc) ((L.take k).flatMap (fun d => (F d).2))
  gap : ∀ a, gq = some a → a.block ∉ bl Vk
  fr : Fr (fun j => j = b9 ∨ (∃ a, q = some a ∧ j = a.block) ∨ j ∈ bl V) wS wr
structure WoB (wS : World) (lo b9 : Nat) (q : Option Addr) (n : Nat) (V : List QV) (L : List QueD) : Prop where
  bq : ∀ a, q = some a → a.block < wS.heap.size
  bV : ∀ b ∈ bl V, b < wS.heap.size
  z9 : b9 < wS.heap.size
  b9V : b9 ∉ bl V
  b9q : ∀ a, q = some a → a.block ≠ b9
  ll : L.length = n
def WoS (F : QueD → QueD × List Int) (wS : World) (lo b9 : Nat) (q : Option Addr) (n c : Nat) (V : List QV) (L : List QueD) (k : Nat) (wr : World) : Prop := ∃ Vk gq gn gc, WoE F wS lo b9 q n c V L k wr Vk gq gn gc

section
variable {F : QueD → QueD × List Int} {wS wr : World} {lo b9 : Nat} {q : Option Addr} {n c : Nat} {V : List QV} {L : List QueD} {k : Nat}
theorem WoE.vl {Vk : List QV} {gq : Option Addr} {gn gc : Nat} (h : WoE F wS lo b9 q n c V L k wr Vk gq gn gc) : Vk.length = n := h.row.len.symm
theorem WoE.lt {Vk : List QV} {gq : Option Addr} {gn gc : Nat} (h : WoE F wS lo b9 q n c V L k wr Vk gq gn gc) (hb : WoB wS lo b9 q n V L) : ∀ b ∈ bl Vk, b < wr.heap.size := fun b hm => by
  obtain ⟨i, v, hv, hm⟩ := bl_or hm
  have hvl := h.vl
  have hi := (List.getElem?_eq_some_iff.1 hv).1
  have hl := hb.ll
  have hd : L[i]? = some (L[i]'(by omega)) := List.getElem?_eq_getElem (by omega)
  rcases Nat.lt_or_ge i k with h1 | h1
  · exact ((h.did i v _ h1 hv hd).lt b hm).2
  · exact ((h.todo i v _ h1 hv hd).lt b hm).2
theorem WoE.fr2 {Vk : List QV} {gq : Option Addr} {gn gc : Nat} (h : WoE F wS lo b9 q n c V L k wr Vk gq gn gc) (hb : WoB wS lo b9 q n V L) {wr' : World} (hf : Fr (fun j => j = wS.heap.size ∨ j = wS.heap.size + 1) wr wr') : WoE F wS lo b9 q n c V L k wr' Vk gq gn gc := by
  have hV : ∀ b ∈ bl Vk, ¬ (b = wS.heap.size ∨ b = wS.heap.size + 1) := fun b hm e => by
    rcases h.sub b hm with h1 | h1
    · have := hb.bV b h1; omega
    · omega
  exact ⟨h.row.fr hf (fun a ha e => by have := hb.bq a ha; omega), fun j v d h1 h2 h3 => (h.did j v d h1 h2 h3).fr hf (fun b hm => hV b (bl_mem h2 hm)), fun j v d h1 h2 h3 => (h.todo j v d h1 h2 h3).fr hf (fun b hm => hV b (bl_mem h2 hm)), h.nd, h.ne, h.sub,
    h.box.block (hf.block _ h.box.lt (fun e => by have := hb.z9; omega)), h.own.fr hf (fun a ha e => by have := (h.own.far a ha).1; omega), h.gap, h.fr.then hf (fun j hj e => by omega)⟩
theorem WoE.skip {Vk : List QV} {gq : Option Addr} {gn gc : Nat} {d : QueD} (h : WoE F wS lo b9 q n c V L k wr Vk gq gn gc) (hd : L[k]? = some d) (hF : F d = (d, [])) : WoE F wS lo b9 q n c V L (k + 1) wr Vk gq gn gc := by
  refine ⟨h.row, fun j v e h1 h2 h3 => ?_, fun j v e h1 h2 h3 => h.todo j v e (by omega) h2 h3, h.nd, h.ne, h.sub, h.box, ?_, h.gap, h.fr⟩
  · rcases Nat.lt_or_ge j k with h4 | h4
    · exact h.did j v e h4 h2 h3
    · obtain rfl : j = k := by omega
      have h5 := h.todo j v e (Nat.le_refl _) h2 h3
      rw [hd] at h3; cases h3
      rw [hF]; exact h5.qp
  · have h1 := h.own
    rw [List.take_add_one, hd]
    simp only [Option.toList_some, List.flatMap_append, List.flatMap_cons, List.flatMap_nil, hF, List.append_nil]
    exact h1
theorem WoS.ext {f : QueD → QueD} {x : Int} : ∀ {e k : Nat}, WoS (doneD f x) wS lo b9 q n c V L k wr → k + e ≤ L.length → (∀ j, k ≤ j → j < k + e → touch L x j = false) → WoS (doneD f x) wS lo b9 q n c V L (k + e) wr
  | 0, _, h, _, _ => h
  | e + 1, k, h, hl, hn => by
    obtain ⟨Vk, gq, gn, gc, h⟩ := h
    have hd : L[k]? = some (L[k]'(by omega)) := List.getElem?_eq_getElem (by omega)
    have ht := hn k (Nat.le_refl _) (by omega)
    rw [touch_at hd] at ht
    have h1 : WoS (doneD f x) wS lo b9 q n c V L (k + 1) wr := ⟨Vk, gq, gn, gc, h.skip hd (doneD_not ht)⟩
    have := WoS.ext (e := e) h1 (by omega) (fun j h2 h3 => hn j (by omega) (by omega))
    rw [show k + 1 + e = k + (e + 1) by omega] at this
    exact this

theorem WoE.step {Vk : List QV} {gq gq' : Option Addr} {gn gc gn' gc' G : Nat} {u5 : World} {v v2 : QV} {d : QueD} (h : WoE F wS lo b9 (some ⟨G, 0, none⟩) n c V L k wr Vk gq gn gc) (hb : WoB wS lo b9 (some ⟨G, 0, none⟩) n V L) (hz : wS.heap.size + 2 ≤ wr.heap.size) (hv : Vk[k]? = some v) (hd : L[k]? = some d)
    (row5 : OwnS 43 u5 lo (.slice (some ⟨G, 0, none⟩) n c) (Vk.set k v2)) (qp5 : QP u5 lo v2 (F d).1) (blk : ∀ b ∈ hbs v2, b ∈ hbs v ∨ wr.heap.size ≤ b) (nd2 : (hbs v2).Nodup) (ng : G ∉ hbs v2) (box5 : RowV 33 u5 b9 [.slice gq' gn' gc'])
    (own5 : OwnS 3 u5 (wS.heap.size + 2) (.slice gq' gn' gc') ((L.take k).flatMap (fun d => (F d).2) ++ (F d).2)) (gap5 : ∀ a, gq' = some a → (∃ b, gq = some b ∧ a.block = b.block) ∨ wr.heap.size ≤ a.block) (gapv : ∀ a, gq' = some a → a.block ∉ hbs v2)
    (fr5 : Fr (fun j => j = b9 ∨ j = G ∨ j ∈ hbs v ∨ ∃ a, gq = some a ∧ j = a.block) wr u5) : WoE F wS lo b9 (some ⟨G, 0, none⟩) n c V L (k + 1) u5 (Vk.set k v2) gq' gn' gc' := by
  have hlt := h.lt hb
  have hnd := h.nd
  have hs := bl_split hv
  have hki := (List.getElem?_eq_some_iff.1 hv).1
  have hnb9 : b9 ∉ bl Vk := fun hm => by
    rcases h.sub _ hm with h1 | h1
    · exact hb.b9V h1
    · have := hb.z9; omega
  have hnG : G ∉ bl Vk := h.ne _ rfl
  have hkeep : ∀ j u, j ≠ k → Vk[j]? = some u → ∀ b ∈ hbs u, ¬ (b = b9 ∨ b = G ∨ b ∈ hbs v ∨ ∃ a, gq = some a ∧ b = a.block) := fun j u hj hu b hm e => by
    have hm2 := bl_mem hu hm
    rcases e with e | e | e | ⟨a, ha, e⟩
    · exact hnb9 (by rw [← e]; exact hm2)
    · exact hnG (by rw [← e]; exact hm2)
    · exact bl_apart hnd hv hu (fun e => hj e.symm) b hm e
    · exact h.gap a ha (by rw [← e]; exact hm2)
  have hget : ∀ j u, (Vk.set k v2)[j]? = some u → (j = k ∧ u = v2) ∨ (j ≠ k ∧ Vk[j]? = some u) := fun j u hu => by
    rw [List.getElem?_set] at hu
    by_cases hj : k = j
    · rw [if_pos hj, if_pos hki] at hu; cases hu; exact .inl ⟨hj.symm, rfl⟩
    · rw [if_neg hj] at hu; exact .inr ⟨fun e => hj e.symm, hu⟩
  rw [hs] at hnd
  obtain ⟨n1, n2, n3⟩ := List.nodup_append.1 hnd
  obtain ⟨n4, n5, n6⟩ := List.nodup_append.1 n2
  rw [hs] at hlt hnG
  refine ⟨row5, fun j u e h1 h2 h3 => ?_, fun j u e h1 h2 h3 => ?_, ?_, fun a ha hm => ?_, fun b hm => ?_, box5, ?_, fun a ha hm => ?_, ?_⟩
  · rcases hget j u h2 with ⟨rfl, rfl⟩ | ⟨h4, h5⟩
    · rw [hd] at h3; cases h3; exact qp5
    · exact (h.did j u e (by omega) h5 h3).fr fr5 (hkeep j u h4 h5)
  · rcases hget j u h2 with ⟨rfl, rfl⟩ | ⟨h4, h5⟩
    · omega
    · exact (h.todo j u e (by omega) h5 h3).fr fr5 (hkeep j u h4 h5)
  · rw [bl_set v2 hv]
    refine List.nodup_append.2 ⟨n1, List.nodup_append.2 ⟨nd2, n5, fun a ha b hbm e => ?_⟩, fun a ha b hbm e => ?_⟩
    · subst e
      rcases blk a ha with h7 | h7
      · exact n6 a h7 a hbm rfl
      · have := hlt a (List.mem_append.2 (.inr (List.mem_append.2 (.inr hbm))))
        omega
    · subst e
      rcases List.mem_append.1 hbm with hbm | hbm
      · rcases blk a hbm with h7 | h7
        · exact n3 a ha a (List.mem_append.2 (.inl h7)) rfl
        · have := hlt a (List.mem_append.2 (.inl ha))
          omega
      · exact n3 a ha a (List.mem_append.2 (.inr hbm)) rfl
  · cases ha
    rw [bl_set v2 hv] at hm
    rcases List.mem_append.1 hm with hm | hm
    · exact hnG (List.mem_append.2 (.inl hm))
    · rcases List.mem_append.1 hm with hm | hm
      · exact ng hm
      · exact hnG (List.mem_append.2 (.inr (List.mem_append.2 (.inr hm))))
  · rw [bl_set v2 hv] at hm
    rcases List.mem_append.1 hm with hm | hm
    · exact h.sub b (by rw [hs]; exact List.mem_append.2 (.inl hm))
    · rcases List.mem_append.1 hm with hm | hm
      · rcases blk b hm with h7 | h7
        · exact h.sub b (bl_mem hv h7)
        · exact .inr (by omega)
      · exact h.sub b (by rw [hs]; exact List.mem_append.2 (.inr (List.mem_append.2 (.inr hm))))
  · rw [List.take_add_one, hd]
    simp only [Option.toList_some, List.flatMap_append, List.flatMap_cons, List.flatMap_nil, List.append_nil]
    exact own5
  · rw [bl_set v2 hv] at hm
    have hother : a.block ∈ bl (Vk.take k) ∨ a.block ∈ bl (Vk.drop (k + 1)) → False := fun hm => by
      have hmV : a.block ∈ bl Vk := by
        rw [hs]
        rcases hm with hm | hm
        · exact List.mem_append.2 (.inl hm)
        · exact List.mem_append.2 (.inr (List.mem_append.2 (.inr hm)))
      rcases gap5 a ha with ⟨b, h1, h2⟩ | h1
      · exact h.gap b h1 (by rw [← h2]; exact hmV)
      · have := h.lt hb _ hmV; omega
    rcases List.mem_append.1 hm with hm | hm
    · exact hother (.inl hm)
    · rcases List.mem_append.1 hm with hm | hm
      · exact gapv a ha hm
      · exact hother (.inr hm)
  · refine h.fr.then fr5 (fun j hj e => ?_)
    rcases e with e | e | e | ⟨a, ha, e⟩
    · exact .inl e
    · exact .inr (.inl ⟨_, rfl, e⟩)
    · rcases h.sub j (bl_mem hv e) with h7 | h7
      · exact .inr (.inr h7)
      · omega
    · have := (h.own.far a ha).1; omega
end

/-- two lists that go together, when some are struck -/
theorem two_filter {R : QV → QueD → Prop} {p : QV → Bool} {p' : QueD → Bool} (hp : ∀ v d, R v d → p v = p' d) : ∀ {V : List QV} {L : List QueD}, V.length = L.length → (∀ (i : Nat) v d, V[i]? = some v → L[i]? = some d → R v d) →
    (V.filter p).length = (L.filter p').length ∧ ∀ (i : Nat) v d, (V.filter p)[i]? = some v → (L.filter p')[i]? = some d → R v d
  | [], [], _, _ => ⟨rfl, fun i v d h => by simp at h⟩
  | [], d :: L, h, _ => by simp at h
  | v :: V, [], h, _ => by simp at h
  | v :: V, d :: L, h, hR => by
    have h0 := hR 0 v d rfl rfl
    obtain ⟨i1, i2⟩ := two_filter hp (V := V) (L := L) (by simpa using h) (fun i v d h1 h2 => hR (i + 1) v d (by simpa using h1) (by simpa using h2))
    have he := hp v d h0
    cases hc : p v with
    | true =>
      rw [List.filter_cons_of_pos hc, List.filter_cons_of_pos (by rw [← he]; exact hc)]
      refine ⟨by simp [i1], fun i v' d' h1 h2 => ?_⟩
      cases i with
      | zero => simp at h1 h2; subst h1 h2; exact h0
      | succ i => exact i2 i v' d' (by simpa using h1) (by simpa using h2)
    | false =>
      rw [List.filter_cons_of_neg (by rw [hc]; decide), List.filter_cons_of_neg (by rw [← he, hc]; decide)]
      exact ⟨i1, i2⟩
theorem bl_sub {V V' : List QV} (h : V'.Sublist V) : (bl V').Sublist (bl V) := by
  induction h with
  | slnil => exact List.Sublist.refl _
  | cons a _ ih => exact ih.trans (by simp only [bl, List.flatMap_cons]; exact List.sublist_append_right _ _)
  | cons_cons a _ ih => simp only [bl, List.flatMap_cons]; exact (List.Sublist.refl _).append ih
end Go.Proofs.YtbgpppbcffpdbaaGreatDoor
