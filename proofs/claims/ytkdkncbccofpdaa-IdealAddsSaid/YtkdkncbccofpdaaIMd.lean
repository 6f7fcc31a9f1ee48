/- Adds and Moves, as what they make of each row: they go well in either order to the same rows, and a Move leaves the sum. -/
import Derived.Test.YtkdkncbccofpdaaISb
import Derived.Test.YtkdkncbccofpdaaIBk
namespace Go.Proofs.Ytkdkncbccofpdaa

/-- what a value more does to a row -/
def bump (k : KeyD) (v : Int) (r : RowD) : RowD := if eqK r.key k = true then ⟨r.key, r.val + v, r.note⟩ else r
theorem bump_key (k : KeyD) (v : Int) (r : RowD) : (bump k v r).key = r.key := by unfold bump; split <;> rfl
theorem bump_comm (k j : KeyD) (v u : Int) (r : RowD) : bump k v (bump j u r) = bump j u (bump k v r) := by
  obtain ⟨rk, rv, rs⟩ := r
  unfold bump
  cases h1 : eqK rk k <;> cases h2 : eqK rk j <;> simp [h1, h2]
  omega
theorem bec_plus {bs : List BdD} {l : List RowD} {k : KeyD} {v : Int} (h : (becR bs l k (erPlus v) (nwPlus v)).1 = 0) : findB l k = true ∧ (becR bs l k (erPlus v) (nwPlus v)).2 = l.map (bump k v) := by
  unfold becR at h ⊢
  cases hf : findK l k with
  | none => rw [hf] at h; simp at h
  | some i =>
    rw [hf] at h
    simp only at h ⊢
    cases hd : l[i]? with
    | none => rw [hd] at h; simp at h
    | some d =>
      rw [hd] at h
      simp only at h ⊢
      by_cases he : erPlus v d = 0
      · rw [if_pos he] at h ⊢
        refine ⟨by unfold findB; rw [hf]; rfl, ?_⟩
        have hfit : fits d.val v = true := by
          unfold erPlus at he
          split at he
          · assumption
          · cases he
        have hnw : nwPlus v d = ⟨d.key, d.val + v, d.note⟩ := by unfold nwPlus; rw [if_pos hfit]
        have hk : d.key = k := by
          have h1 := List.findIdx?_eq_some_iff_getElem.1 (show l.findIdx? (fun r => eqK r.key k) = some i from hf)
          obtain ⟨hi, h2, _⟩ := h1
          have h3 : l[i] = d := by rw [List.getElem?_eq_getElem hi] at hd; exact Option.some.inj hd
          rw [h3] at h2
          exact eqK_iff.1 h2
        obtain ⟨T, D, o, h0⟩ := put0_of h
        show putR bs l (nwPlus v d) = _
        rw [h0.res]
        have hp := h0.parts
        rw [hnw] at hp ⊢
        have hkey : ({ key := d.key, val := d.val + v, note := d.note } : RowD).key = k := hk
        rw [hkey] at hp
        have hz : cmpK d.key k = 0 := cmpK_zero.2 hk
        have hm : d ∈ l := List.mem_of_getElem? hd
        rw [hp.eq] at hm
        have hT : T.map (bump k v) = T := by
          conv => rhs; rw [← List.map_id T]
          refine List.map_congr_left fun x hx => ?_
          have := hp.lo x hx
          unfold bump
          rw [if_neg (by rw [eqK_cmp]; simp; omega)]
          rfl
        have hD : D.map (bump k v) = D := by
          conv => rhs; rw [← List.map_id D]
          refine List.map_congr_left fun x hx => ?_
          have := hp.hi x hx
          unfold bump
          rw [if_neg (by rw [eqK_cmp]; simp; omega)]
          rfl
        have hx : o = some d := by
          rcases List.mem_append.1 hm with h1 | h1
          · have := hp.lo d h1; omega
          · rcases List.mem_append.1 h1 with h1 | h1
            · cases o with
              | none => simp at h1
              | some x => simp at h1; rw [h1]
            · have := hp.hi d h1; omega
        have heq := hp.eq
        rw [hx] at heq
        rw [heq]
        simp only [Option.toList_some, List.singleton_append, List.map_append, List.map_cons, hT, hD]
        congr 2
        unfold bump
        rw [if_pos (eqK_iff.2 hk)]
      · rw [if_neg he] at h
        exact absurd h he
/-- what a blind request does to a row -/
def blindOf (q : ReqD) (r : RowD) : RowD := if q.k = 7 then bump q.key q.val r else bump q.to q.val (bump q.key (-q.val) r)
theorem blind_key (q : ReqD) (r : RowD) : (blindOf q r).key = r.key := by unfold blindOf; split <;> simp only [bump_key]
theorem blind_comm (a b : ReqD) (r : RowD) : blindOf a (blindOf b r) = blindOf b (blindOf a r) := by
  unfold blindOf
  split <;> split
  · rw [bump_comm]
  · rw [bump_comm, bump_comm a.key b.key]
  · rw [bump_comm a.key b.key, bump_comm a.to b.key]
  · rw [bump_comm a.key b.to, bump_comm a.key b.key, bump_comm a.to b.to, bump_comm a.to b.key]
theorem findB_map (l : List RowD) (k : KeyD) (f : RowD → RowD) (hf : ∀ r, (f r).key = r.key) : findK (l.map f) k = findK l k := by
  unfold findK
  rw [List.findIdx?_map]
  congr 1
  funext r
  simp [hf]
theorem lay_none {x : SerD} {p : Int × List RowD} (h : (layW x p).2.e = 0) : p.1 = 0 ∧ (layW x p).1.rows = p.2 := by
  unfold layW at h ⊢
  split
  · rename_i h0; exact ⟨h0, rfl⟩
  · rename_i h0; rw [if_neg h0] at h; exact absurd h h0
theorem do_blind {bs : List BdD} {l : List RowD} {q : ReqD} (hq : q.k = 7 ∨ q.k = 8) (h : (doM bs l q).2.e = 0) : (doM bs l q).1 = l.map (blindOf q) ∧ (q.k = 8 → findB l q.key = true ∧ findB l q.to = true) := by
  unfold doM at h ⊢
  by_cases hc : chkList bs l = 0
  · rw [if_neg (by simpa using hc)] at h ⊢
    by_cases hr : (reqB bs q && decide (q.k ≤ 8)) = false
    · rw [if_pos hr] at h; exact absurd (show (250 : Int) = 0 from h) (by decide)
    · rw [if_neg hr] at h ⊢
      simp only at h ⊢
      rcases hq with hk | hk
      · have e : stepW (aloneS bs l) q = layW (aloneS bs l) (becR bs l q.key (erPlus q.val) (nwPlus q.val)) := by
          unfold stepW; rw [hk]; rfl
        rw [e] at h ⊢
        obtain ⟨h1, h2⟩ := lay_none h
        refine ⟨?_, fun e => by omega⟩
        rw [h2, (bec_plus h1).2]
        exact List.map_congr_left fun r _ => by unfold blindOf; rw [if_pos hk]
      · have e : stepW (aloneS bs l) q = movW (aloneS bs l) q.key q.to q.val := by
          unfold stepW; rw [hk]; rfl
        rw [e] at h ⊢
        unfold movW at h ⊢
        by_cases hb : (findB (aloneS bs l).rows q.key && findB (aloneS bs l).rows q.to) = true
        · rw [if_pos hb] at h ⊢
          obtain ⟨h1, h2⟩ := lay_none h
          have hb2 : findB l q.key = true ∧ findB l q.to = true := by simpa [aloneS] using hb
          refine ⟨?_, fun _ => hb2⟩
          rw [h2]
          have h1 : (movP (aloneS bs l) q.key q.to q.val).1 = 0 := h1
          unfold movP at h1 ⊢
          by_cases h3 : (becR (aloneS bs l).bs (aloneS bs l).rows q.key (erPlus (-q.val)) (nwPlus (-q.val))).1 = 0
          · rw [if_pos h3] at h1 ⊢
            rw [(bec_plus h1).2, (bec_plus h3).2, List.map_map]
            exact List.map_congr_left fun r _ => by unfold blindOf; rw [if_neg (by omega)]; rfl
          · rw [if_neg h3] at h1
            exact absurd h1 h3
        · rw [if_neg hb] at h
          exact absurd (show (4 : Int) = 0 from h) (by decide)
  · rw [if_pos (by simpa using hc)] at h
    exact absurd h hc
theorem do_err {bs : List BdD} {l : List RowD} {q : ReqD} (h : (doM bs l q).2.e ≠ 0) : (doM bs l q).1 = l := by
  unfold doM at h ⊢
  split
  · rfl
  · rename_i h1
    rw [if_neg h1] at h
    split
    · rfl
    · rename_i h2
      rw [if_neg h2] at h
      have h3 : (stepW (aloneS bs l) q).2.e ≠ 0 := h
      rw [step_err h3]
      rfl
theorem do_len {bs : List BdD} {l : List RowD} {q : ReqD} (hq : q.k = 7 ∨ q.k = 8) : (doM bs l q).1.length = l.length := by
  by_cases h : (doM bs l q).2.e = 0
  · rw [(do_blind hq h).1, List.length_map]
  · rw [do_err h]
/-- in either order the same rows -/
theorem adds_comm {bs : List BdD} {l : List RowD} {a b : ReqD} (ha : a.k = 7 ∨ a.k = 8) (hb : b.k = 7 ∨ b.k = 8) (h1 : (doM bs l a).2.e = 0) (h2 : (doM bs (doM bs l a).1 b).2.e = 0) (h3 : (doM bs l b).2.e = 0) (h4 : (doM bs (doM bs l b).1 a).2.e = 0) :
    (doM bs (doM bs l a).1 b).1 = (doM bs (doM bs l b).1 a).1 := by
  rw [(do_blind hb h2).1, (do_blind ha h1).1, (do_blind ha h4).1, (do_blind hb h3).1, List.map_map, List.map_map]
  exact List.map_congr_left fun r _ => blind_comm b a r
theorem find_at {l : List RowD} {k : KeyD} (h : findB l k = true) : ∃ (i : Nat) (r : RowD), findN l k = i ∧ l[i]? = some r ∧ r.key = k := by
  unfold findB at h
  obtain ⟨i, hi⟩ := Option.isSome_iff_exists.1 h
  have h1 := List.findIdx?_eq_some_iff_getElem.1 (show l.findIdx? (fun r => eqK r.key k) = some i from hi)
  obtain ⟨h2, h3, _⟩ := h1
  exact ⟨i, l[i], by unfold findN; rw [hi], List.getElem?_eq_getElem h2, eqK_iff.1 h3⟩
/-- a Move leaves the sum of the two -/
theorem move_sum {q : ReqD} {r s : RowD} (hq : q.k = 8) (hr : r.key = q.key) (hs : s.key = q.to) (he : q.key = q.to → r = s) : (blindOf q r).val + (blindOf q s).val = r.val + s.val := by
  have h7 : ¬ q.k = 7 := by omega
  obtain ⟨qk, qkey, qto, qv, qs, qn⟩ := q
  obtain ⟨rk, rv, rn⟩ := r
  obtain ⟨sk, sv, sn⟩ := s
  have hr : rk = qkey := hr
  have hs : sk = qto := hs
  subst hr hs
  have h7 : ¬ qk = 7 := h7
  have he : rk = sk → (⟨rk, rv, rn⟩ : RowD) = ⟨sk, sv, sn⟩ := he
  simp only [blindOf, if_neg h7, bump]
  by_cases h : rk = sk
  · have e := he h
    subst h
    have e1 : rv = sv := by injection e
    subst e1
    simp [eqK_iff.2]
    omega
  · have e1 : eqK rk sk = false := by
      cases hh : eqK rk sk with
      | false => rfl
      | true => exact absurd (eqK_iff.1 hh) h
    have e2 : eqK sk rk = false := by
      cases hh : eqK sk rk with
      | false => rfl
      | true => exact absurd (eqK_iff.1 hh).symm h
    simp [e1, e2, eqK_iff.2]
    omega
end Go.Proofs.Ytkdkncbccofpdaa
