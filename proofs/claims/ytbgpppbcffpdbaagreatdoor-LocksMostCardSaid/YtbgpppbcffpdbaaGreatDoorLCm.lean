/- Locks of the call's own, of which one queue is done something to, or to which one is added. -/
import Derived.Test.YtbgpppbcffpdbaaGreatDoorLGe
import Derived.Test.YtbgpppbcffpdbaaGreatDoorLGd
namespace Go.Proofs.YtbgpppbcffpdbaaGreatDoor
open Go.RowKit

theorem QO.mono {w : World} {lo lo' : Nat} {v : QV} {d : QueD} (h : QO w lo v d) (hl : lo' ≤ lo) : QO w lo' v d := ⟨h.res, h.ok, h.hs.mono hl, h.ws.mono hl⟩
theorem LkW.mono {w : World} {lo lo' : Nat} {q : Option Addr} {n c : Nat} {V : List QV} {L : List QueD} (h : LkW w lo q n c V L) (hl : lo' ≤ lo) : LkW w lo' q n c V L :=
  ⟨h.row.mono hl, h.len, fun i v d h1 h2 => (h.on i v d h1 h2).mono hl, h.nd, h.ne⟩
theorem LkW.vlen {w : World} {lo : Nat} {q : Option Addr} {n c : Nat} {V : List QV} {L : List QueD} (h : LkW w lo q n c V L) : V.length = n := h.row.len.symm
theorem LkW.lt {w : World} {lo : Nat} {q : Option Addr} {n c : Nat} {V : List QV} {L : List QueD} (h : LkW w lo q n c V L) : ∀ b ∈ bl V, b < w.heap.size := fun b hb => by
  obtain ⟨i, v, hv, hb⟩ := bl_or hb
  have hl := h.len
  have hvl := h.vlen
  have hi := (List.getElem?_eq_some_iff.1 hv).1
  exact ((h.on i v _ hv (List.getElem?_eq_getElem (by omega))).lt b hb).2
theorem bl_split {V : List QV} {i : Nat} {v : QV} (hv : V[i]? = some v) : bl V = bl (V.take i) ++ (hbs v ++ bl (V.drop (i + 1))) := by
  have hi := (List.getElem?_eq_some_iff.1 hv).1
  have h := List.take_append_drop i V
  have h2 : V.drop i = v :: V.drop (i + 1) := by
    rw [List.drop_eq_getElem_cons hi]
    rw [(List.getElem?_eq_some_iff.1 hv).2]
  rw [h2] at h
  conv => lhs; rw [← h]
  simp [bl]
theorem bl_set {V : List QV} {i : Nat} {v : QV} (v' : QV) (hv : V[i]? = some v) : bl (V.set i v') = bl (V.take i) ++ (hbs v' ++ bl (V.drop (i + 1))) := by
  have hi := (List.getElem?_eq_some_iff.1 hv).1
  rw [bl_split (v := v') (by rw [List.getElem?_set, if_pos rfl, if_pos hi])]
  congr 1
  · rw [List.take_set_of_le (by omega)]
  · congr 1
    rw [List.drop_set_of_lt (by omega)]
theorem bl_apart {V : List QV} {i j : Nat} {v u : QV} (hn : (bl V).Nodup) (hv : V[i]? = some v) (hu : V[j]? = some u) (hij : i ≠ j) : ∀ b ∈ hbs u, b ∉ hbs v := fun b hb hb2 => by
  rw [bl_split hv] at hn
  obtain ⟨_, h2, h3⟩ := List.nodup_append.1 hn
  obtain ⟨_, _, h4⟩ := List.nodup_append.1 h2
  rcases Nat.lt_or_ge j i with h | h
  · have hm : b ∈ bl (V.take i) := bl_mem (i := j) (by rw [List.getElem?_take, if_pos h]; exact hu) hb
    exact h3 b hm b (List.mem_append.2 (.inl hb2)) rfl
  · have hm : b ∈ bl (V.drop (i + 1)) := bl_mem (i := j - (i + 1)) (by rw [List.getElem?_drop, show i + 1 + (j - (i + 1)) = j by omega]; exact hu) hb
    exact h4 b hb2 b hm rfl

/-- what is done to one queue of a row -/
def DoPost (lo G n c i : Nat) (V : List QV) (v : QV) (d' : QueD) (w : World) (e : Ending) (w' : World) : Prop := ∃ v', e = .returned (.tuple #[]) ∧ OwnS 43 w' lo (.slice (some ⟨G, 0, none⟩) n c) (V.set i v') ∧ QO w' lo v' d' ∧ (∀ b ∈ hbs v', b ∈ hbs v ∨ w.heap.size ≤ b) ∧ (hbs v').Nodup ∧ Fr (fun k => k = G ∨ k ∈ hbs v) w w'

theorem LkW.did {w w' : World} {lo G n c i : Nat} {V : List QV} {L : List QueD} {v v' : QV} {d d' : QueD} (h : LkW w lo (some ⟨G, 0, none⟩) n c V L) (hv : V[i]? = some v) (hd : L[i]? = some d) (h1 : OwnS 43 w' lo (.slice (some ⟨G, 0, none⟩) n c) (V.set i v')) (h2 : QO w' lo v' d') (h3 : ∀ b ∈ hbs v', b ∈ hbs v ∨ w.heap.size ≤ b) (h4 : (hbs v').Nodup) (h5 : Fr (fun k => k = G ∨ k ∈ hbs v) w w') : LkW w' lo (some ⟨G, 0, none⟩) n c (V.set i v') (L.set i d') := by
  have hi := (List.getElem?_eq_some_iff.1 hv).1
  have hi2 := (List.getElem?_eq_some_iff.1 hd).1
  have hnG : G ∉ bl V := h.ne _ rfl
  have hlt := h.lt
  have hs := bl_split hv
  have hnd := h.nd
  rw [hs] at hnd hlt hnG
  obtain ⟨n1, n2, n3⟩ := List.nodup_append.1 hnd
  obtain ⟨n4, n5, n6⟩ := List.nodup_append.1 n2
  refine ⟨h1, by rw [List.length_set]; exact h.len, fun j u e hu he => ?_, ?_, fun a ha hm => ?_⟩
  · rw [List.getElem?_set] at hu he
    by_cases hj : i = j
    · subst hj
      rw [if_pos rfl, if_pos hi] at hu
      rw [if_pos rfl, if_pos hi2] at he
      cases hu; cases he
      exact h2
    · rw [if_neg hj] at hu he
      refine (h.on j u e hu he).fr h5 (fun b hb hb2 => ?_)
      rcases hb2 with hb2 | hb2
      · exact h.ne _ rfl (by rw [← hb2]; exact bl_mem hu hb)
      · exact bl_apart h.nd hv hu hj b hb hb2
  · rw [bl_set v' hv]
    refine List.nodup_append.2 ⟨n1, List.nodup_append.2 ⟨h4, n5, fun a ha b hb e => ?_⟩, fun a ha b hb e => ?_⟩
    · subst e
      rcases h3 a ha with h7 | h7
      · exact n6 a h7 a hb rfl
      · have := hlt a (List.mem_append.2 (.inr (List.mem_append.2 (.inr hb))))
        omega
    · subst e
      rcases List.mem_append.1 hb with hb | hb
      · rcases h3 a hb with h7 | h7
        · exact n3 a ha a (List.mem_append.2 (.inl h7)) rfl
        · have := hlt a (List.mem_append.2 (.inl ha))
          omega
      · exact n3 a ha a (List.mem_append.2 (.inr hb)) rfl
  · cases ha
    rw [bl_set v' hv] at hm
    rcases List.mem_append.1 hm with hm | hm
    · exact hnG (List.mem_append.2 (.inl hm))
    · rcases List.mem_append.1 hm with hm | hm
      · rcases h3 _ hm with h7 | h7
        · exact hnG (List.mem_append.2 (.inr (List.mem_append.2 (.inl h7))))
        · have h8 : lo ≤ G ∧ G < w.heap.size := h.row.far _ rfl
          have h9 : w.heap.size ≤ G := h7
          omega
      · exact hnG (List.mem_append.2 (.inr (List.mem_append.2 (.inr hm))))

/-- a queue of nobody -/
def qNew (r : ResD) : QV := ⟨r, none, 0, 0, none, 0, 0⟩
theorem ins_get {α : Type} {V : List α} {p j : Nat} {x u : α} (hp : p ≤ V.length) (h : (V.take p ++ x :: V.drop p)[j]? = some u) : (j < p ∧ V[j]? = some u) ∨ (j = p ∧ u = x) ∨ (p < j ∧ V[j - 1]? = some u) := by
  have hl : (V.take p).length = p := by rw [List.length_take]; omega
  rcases Nat.lt_trichotomy j p with h1 | h1 | h1
  · rw [List.getElem?_append_left (by omega), List.getElem?_take, if_pos h1] at h
    exact .inl ⟨h1, h⟩
  · rw [List.getElem?_append_right (by omega), hl, h1, Nat.sub_self] at h
    exact .inr (.inl ⟨h1, by simpa using h.symm⟩)
  · rw [List.getElem?_append_right (by omega), hl] at h
    obtain ⟨k, rfl⟩ : ∃ k, j = p + k + 1 := ⟨j - p - 1, by omega⟩
    rw [show p + k + 1 - p = k + 1 by omega, List.getElem?_cons_succ, List.getElem?_drop] at h
    exact .inr (.inr ⟨h1, by rw [show p + k + 1 - 1 = p + k by omega]; exact h⟩)
theorem LkW.ins {w w' : World} {lo n c c' p : Nat} {q q' : Option Addr} {V : List QV} {L : List QueD} (h : LkW w lo q n c V L) (r : ResD) (hok : r.ok) (hp : p ≤ n) (h1 : OwnS 43 w' lo (.slice q' (n + 1) c') (V.take p ++ qNew r :: V.drop p)) (hg : w.grownBy w' (q.map (·.block))) (hna : NewAt q q' w.heap.size) :
    LkW w' lo q' (n + 1) c' (V.take p ++ qNew r :: V.drop p) (L.take p ++ ⟨r, [], []⟩ :: L.drop p) := by
  have hvl := h.vlen
  have hl := h.len
  have hbl : bl (V.take p ++ qNew r :: V.drop p) = bl V := by
    have h7 : bl V = bl (V.take p) ++ bl (V.drop p) := by
      have h8 : bl (V.take p ++ V.drop p) = bl (V.take p) ++ bl (V.drop p) := by simp only [bl, List.flatMap_append]
      rw [List.take_append_drop] at h8
      exact h8
    have h9 : bl (V.take p ++ qNew r :: V.drop p) = bl (V.take p) ++ (hbs (qNew r) ++ bl (V.drop p)) := by simp only [bl, List.flatMap_append, List.flatMap_cons]
    rw [h7, h9]; rfl
  have hold : ∀ j u e, V[j]? = some u → L[j]? = some e → QO w' lo u e := fun j u e hu he =>
    (h.on j u e hu he).fr (S := fun k => q.map (·.block) = some k) (Fr.of_grown hg (fun k e => e)) (fun b hb hb2 => by
      cases q with
      | none => cases hb2
      | some a => exact h.ne a rfl (by have e : a.block = b := by simpa using hb2
                                       rw [e]; exact bl_mem hu hb))
  refine ⟨h1, by rw [List.length_append, List.length_cons, List.length_take, List.length_drop]; omega, fun j u e hu he => ?_, by rw [hbl]; exact h.nd, fun a ha hm => ?_⟩
  · rcases ins_get (by omega) hu with ⟨j1, hu⟩ | ⟨j1, hu⟩ | ⟨j1, hu⟩ <;> rcases ins_get (by omega) he with ⟨j2, he⟩ | ⟨j2, he⟩ | ⟨j2, he⟩
    · exact hold j u e hu he
    · omega
    · omega
    · omega
    · subst hu he
      exact ⟨rfl, hok, OwnS.nil _ _ _, OwnS.nil _ _ _⟩
    · omega
    · omega
    · omega
    · exact hold _ u e hu he
  · rw [hbl] at hm
    rcases hna a ha with ⟨a0, h7, h8⟩ | h7
    · exact h.ne a0 h7 (by rw [← h8]; exact hm)
    · have := h.lt _ hm
      omega

/-- locks behind what is done to the queue of something -/
def chgL (L : List QueD) (r : ResD) (f : QueD → QueD) : List QueD := if thereQ L r = true then L.set (posQ L r) (f (qOf L r)) else L.take (posQ L r) ++ f ⟨r, [], []⟩ :: L.drop (posQ L r)
def ChPost (L : List QueD) (w : World) (e : Ending) (w' : World) : Prop := ∃ q' n' c' V', e = .returned (.agg #[.slice q' n' c']) ∧ LkW w' w.heap.size q' n' c' V' L ∧ Below w.heap.size w w'
end Go.Proofs.YtbgpppbcffpdbaaGreatDoor
