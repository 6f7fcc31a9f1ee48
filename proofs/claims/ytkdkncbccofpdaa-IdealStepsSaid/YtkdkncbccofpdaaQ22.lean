/- Parts of the proof: Adds and Moves, as what they make of each row: they go well in either order to the same rows, and a Move leaves the sum; What the document says that requests come to, as mathematics, and that it is what ideal answers; Fits and plus of the document's ideal -/
import Derived.Test.YtkdkncbccofpdaaQ21
import Derived.Test.YtkdkncbccofpdaaQ07
namespace Go.Proofs.Ytkdkncbccofpdaa
/-- what a value more does to a row -/
def bump (k : KeyD) (v : Int) (r : RowD) : RowD := if eqK r.key k = true then ⟨r.key, r.val + v, r.note⟩ else r
theorem bump_key (k : KeyD) (v : Int) (r : RowD) : (bump k v r).key = r.key := by unfold bump; split <;> rfl
theorem bump_comm (k j : KeyD) (v u : Int) (r : RowD) : bump k v (bump j u r) = bump j u (bump k v r) := by
 obtain ⟨rk, rv, rs⟩ := r
 unfold bump
 cases h1 : eqK rk k <;> cases h2 : eqK rk j <;> simp [h1, h2]
 omega
theorem bec_plus {bs : List BdD} {l : List RowD} {k : KeyD} {v : Int} (h : (becR bs l k (erPlus v) (nwPlus v)).1 = 0) : findB l k = true ∧ (becR bs l k (erPlus v) (nwPlus v)).2 = l.map (bump k v) := by
 unfold becR at h ⊢
 cases hf : findK l k with
 | none => rw [hf] at h; simp at h
 | some i =>
   rw [hf] at h
   simp only at h ⊢
   cases hd : l[i]? with
   | none => rw [hd] at h; simp at h
   | some d =>
     rw [hd] at h
     simp only at h ⊢
     by_cases he : erPlus v d = 0
     · rw [if_pos he] at h ⊢
       refine ⟨by unfold findB; rw [hf]; rfl, ?_⟩
       have hfit : fits d.val v = true := by
        unfold erPlus at he
        split at he
        · assumption
        · cases he
       have hnw : nwPlus v d = ⟨d.key, d.val + v, d.note⟩ := by unfold nwPlus; rw [if_pos hfit]
       have hk : d.key = k := by
        have h1 := List.findIdx?_eq_some_iff_getElem.1 (show l.findIdx? (fun r => eqK r.key k) = some i from hf)
        obtain ⟨hi, h2, _⟩ := h1
        have h3 : l[i] = d := by rw [List.getElem?_eq_getElem hi] at hd; exact Option.some.inj hd
        rw [h3] at h2
        exact eqK_iff.1 h2
       obtain ⟨T, D, o, h0⟩ := put0_of h
       show putR bs l (nwPlus v d) = _
       rw [h0.res]
       have hp := h0.parts
       rw [hnw] at hp ⊢
       have hkey : ({ key := d.key, val := d.val + v, note := d.note } : RowD).key = k := hk
       rw [hkey] at hp
       have hz : cmpK d.key k = 0 := cmpK_zero.2 hk
       have hm : d ∈ l := List.mem_of_getElem? hd
       rw [hp.eq] at hm
       have hT : T.map (bump k v) = T := by
        conv => rhs; rw [← List.map_id T]
        refine List.map_congr_left fun x hx => ?_
        have := hp.lo x hx
        unfold bump
        rw [if_neg (by rw [eqK_cmp]; simp; omega)]
        rfl
       have hD : D.map (bump k v) = D := by
        conv => rhs; rw [← List.map_id D]
        refine List.map_congr_left fun x hx => ?_
        have := hp.hi x hx
        unfold bump
        rw [if_neg (by rw [eqK_cmp]; simp; omega)]
        rfl
       have hx : o = some d := by
        rcases List.mem_append.1 hm with h1 | h1
        · have := hp.lo d h1; omega
        · rcases List.mem_append.1 h1 with h1 | h1
          · cases o with
            | none => simp at h1
            | some x => simp at h1; rw [h1]
          · have := hp.hi d h1; omega
       have heq := hp.eq
       rw [hx] at heq
       rw [heq]
       simp only [Option.toList_some, List.singleton_append, List.map_append, List.map_cons, hT, hD]
       congr 2
       unfold bump
       rw [if_pos (eqK_iff.2 hk)]
     · rw [if_neg he] at h
       exact absurd h he
theorem findB_map (l : List RowD) (k : KeyD) (f : RowD → RowD) (hf : ∀ r, (f r).key = r.key) : findK (l.map f) k = findK l k := by
 unfold findK
 rw [List.findIdx?_map]
 congr 1
 funext r
 simp [hf]
end Go.Proofs.Ytkdkncbccofpdaa
namespace Go.Proofs.Ytkdkncbccofpdaa
set_option maxRecDepth 100000
/-- a value within the bounds of a table -/
def fitB (bs : List BdD) (t v : Int) : Bool := match bs[t.toNat]? with | some b => inB b v | none => false
def plusV (r : RowD) (v : Int) : RowD := ⟨r.key, plusN r.val v, r.note⟩
def plusB (bs : List BdD) (r : RowD) (v : Int) : Bool := fits r.val v && fitB bs r.key.t (plusN r.val v)
/-- the row of a key -/
def rowK (l : List RowD) (k : KeyD) : RowD := match findK l k with | some i => (l[i]?).getD zeroR | none => zeroR
/-- why a request is refused -/
def refE (bs : List BdD) (l : List RowD) (q : ReqD) : Int :=
 if (q.k = 3 ∨ q.k = 6) ∧ fitB bs q.key.t q.val = false then 152
 else if q.k = 2 then 0
 else if q.k = 3 then (if findB l q.key = true then 5 else if 60 ≤ l.length then 6 else 0)
 else if findB l q.key = false then 4
 else if q.k = 7 then (if plusB bs (rowK l q.key) q.val = true then 0 else 152)
 else if q.k = 8 then (if findB l q.to = false then 4 else if (plusB bs (rowK l q.key) (-q.val) && plusB bs (rowK l q.to) q.val) = true then 0 else 152)
 else 0
def okA : AnsD := ⟨0, [], 0⟩
/-- what a request to rows comes to, by the document -/
def docR (bs : List BdD) (l : List RowD) (q : ReqD) : List RowD × AnsD :=
 if refE bs l q ≠ 0 then (l, errA (refE bs l q))
 else if q.k = 1 then (l, ⟨0, [rowK l q.key], 0⟩)
 else if q.k = 2 then (l, ⟨0, ofL l q.key.t, 0⟩)
 else if q.k = 3 then (withL l ⟨q.key, q.val, q.note⟩, okA)
 else if q.k = 4 then (outL l q.key, okA)
 else if q.k = 5 then (withL l (nwNote q.note (rowK l q.key)), okA)
 else if q.k = 6 then (withL l (nwSet q.val (rowK l q.key)), okA)
 else if q.k = 7 then (withL l (plusV (rowK l q.key) q.val), okA)
 else (withL (withL l (plusV (rowK l q.to) q.val)) (plusV (rowK l q.key) (-q.val)), okA)
theorem rowK_of {l : List RowD} {k : KeyD} (h : findB l k = true) : ∃ i, findK l k = some i ∧ l[i]? = some (rowK l k) ∧ (rowK l k).key = k := by
 unfold findB at h
 obtain ⟨i, hi⟩ := Option.isSome_iff_exists.1 h
 have h1 := List.findIdx?_eq_some_iff_getElem.1 (show l.findIdx? (fun r => eqK r.key k) = some i from hi)
 obtain ⟨h2, h3, _⟩ := h1
 have e : rowK l k = l[i] := by unfold rowK; rw [hi]; simp only; rw [List.getElem?_eq_getElem h2]; rfl
 refine ⟨i, hi, ?_, ?_⟩
 · rw [e]; exact List.getElem?_eq_getElem h2
 · rw [e]; exact eqK_iff.1 h3
theorem find_none' {l : List RowD} {k : KeyD} (h : findB l k = false) : findK l k = none := by
 unfold findB at h
 cases hf : findK l k with
 | none => rfl
 | some i => rw [hf] at h; cases h
section
variable {bs : List BdD} {l : List RowD} {q : ReqD}
theorem row_ok (hc : chkList bs l = 0) {i : Nat} {r : RowD} (h : l[i]? = some r) : rowE bs r = 0 := (((okL_iff bs l).1 (chkList_zero hc).2).2 i r h).1
theorem rowE_bound {r : RowD} (hk : keyE bs r.key = 0) (hn : r.note.size ≤ 8) : rowE bs r = if fitB bs r.key.t r.val = true then 0 else 152 := by
 unfold rowE
 rw [if_pos hk, if_pos (by unfold noteE; rw [if_pos hn])]
 unfold boundE fitB
 have h2 : r.key.t.toNat < bs.length := by
  rcases keyE_or bs r.key with ⟨h1, h2, _⟩ | ⟨_, e⟩
  · omega
  · rw [e] at hk; cases hk
 rw [List.getElem?_eq_getElem h2]
theorem rowE_parts {r : RowD} (h : rowE bs r = 0) : keyE bs r.key = 0 ∧ r.note.size ≤ 8 := by
 unfold rowE at h
 split at h
 · rename_i h1
   refine ⟨h1, ?_⟩
   split at h
   · rename_i h2
     rcases noteE_or r with ⟨h3, _⟩ | ⟨_, e⟩
     · exact h3
     · rw [e] at h2; cases h2
   · cases h
 · cases h
/-- the row of a key that stands becomes another one -/
theorem bec_any (hc : chkList bs l = 0) {k : KeyD} (hf : findB l k = true) (er : RowD → Int) (nw : RowD → RowD) (hk : (nw (rowK l k)).key = k) (he : er (rowK l k) = 0) :
 becR bs l k er nw = (rowE bs (nw (rowK l k)), if rowE bs (nw (rowK l k)) = 0 then withL l (nw (rowK l k)) else []) := by
 obtain ⟨i, hi, hd, hkey⟩ := rowK_of hf
 unfold becR
 rw [hi]
 simp only
 rw [hd]
 simp only
 rw [if_pos he]
 have hs := says_of (bs := bs) (l := l) (r := nw (rowK l k)) hc
 have ha : ¬ findAt l (nw (rowK l k)).key < 0 := by rw [hk]; unfold findAt; rw [hi]; simp
 have hE : putE bs l (nw (rowK l k)) = rowE bs (nw (rowK l k)) := by
  rcases hs.no with h | h
  · exact absurd h.2.1 ha
  · exact h.2
 rw [hE]
 split
 · rename_i h0
   rw [hs.put (hE.trans h0)]
 · rename_i h0
   rw [put_none hE h0]
theorem bec_none {k : KeyD} (hf : findB l k = false) (er : RowD → Int) (nw : RowD → RowD) : becR bs l k er nw = (4, []) := by
 unfold becR
 rw [find_none' hf]
theorem bec_er {k : KeyD} (hf : findB l k = true) (er : RowD → Int) (nw : RowD → RowD) (he : er (rowK l k) ≠ 0) : becR bs l k er nw = (er (rowK l k), []) := by
 obtain ⟨i, hi, hd, hkey⟩ := rowK_of hf
 unfold becR
 rw [hi]
 simp only
 rw [hd]
 simp only
 rw [if_neg he]
theorem nwPlus_eq {r : RowD} {v : Int} (h : fits r.val v = true) : nwPlus v r = plusV r v := by
 unfold nwPlus plusV plusN
 rw [if_pos h, if_pos h]
/-- a value more -/
theorem bec_add (hc : chkList bs l = 0) {k : KeyD} (hf : findB l k = true) (v : Int) :
 (plusB bs (rowK l k) v = true → becR bs l k (erPlus v) (nwPlus v) = (0, withL l (plusV (rowK l k) v))) ∧ (plusB bs (rowK l k) v = false → (becR bs l k (erPlus v) (nwPlus v)).1 = 152 ∧ (becR bs l k (erPlus v) (nwPlus v)).1 ≠ 0) := by
 obtain ⟨i, hi, hd, hkey⟩ := rowK_of hf
 obtain ⟨hk0, hn0⟩ := rowE_parts (row_ok hc hd)
 by_cases hft : fits (rowK l k).val v = true
 · have e := bec_any hc hf (erPlus v) (nwPlus v) (by rw [nwPlus_eq hft]; exact hkey) (by unfold erPlus; rw [if_pos hft])
   rw [nwPlus_eq hft, rowE_bound (r := plusV (rowK l k) v) hk0 hn0] at e
   rw [e]
   unfold plusB
   rw [hft]
   simp only [Bool.true_and]
   show (fitB bs (rowK l k).key.t (plusN (rowK l k).val v) = true → _) ∧ (_ → _)
   refine ⟨fun h => ?_, fun h => ?_⟩
   · have h' : fitB bs (plusV (rowK l k) v).key.t (plusV (rowK l k) v).val = true := h
     rw [if_pos h', if_pos rfl]
   · have h' : ¬ fitB bs (plusV (rowK l k) v).key.t (plusV (rowK l k) v).val = true := by
      show ¬ fitB bs (rowK l k).key.t (plusN (rowK l k).val v) = true
      rw [h]; simp
     rw [if_neg h']
     exact ⟨rfl, by decide⟩
 · have hft' : fits (rowK l k).val v = false := by simpa using hft
   have he : erPlus v (rowK l k) = 152 := by unfold erPlus; rw [if_neg hft]
   rw [bec_er hf (erPlus v) (nwPlus v) (by rw [he]; decide), he]
   unfold plusB
   rw [hft']
   simp
theorem lay_yes (x : SerD) (m : List RowD) : layW x (0, m) = ({ x with rows := m }, okA) := by unfold layW; rw [if_pos rfl]; rfl
theorem lay_no (x : SerD) {p : Int × List RowD} {E : Int} (h : p.1 = E) (hE : E ≠ 0) : layW x p = (x, errA E) := by unfold layW; rw [h, if_neg hE]
theorem key_of (hr : reqB bs q = true) (hk : q.k = 1 ∨ q.k = 2 ∨ q.k = 3 ∨ q.k = 4 ∨ q.k = 5 ∨ q.k = 6 ∨ q.k = 7 ∨ q.k = 8) : keyE bs q.key = 0 ∧ ((q.k = 3 ∨ q.k = 5) → q.note.size ≤ 8) ∧ (q.k = 8 → q.to ≠ q.key) := by
 have h := ((Bool.and_eq_true _ _).mp hr).2
 unfold cntB at h
 have key : keyB bs q.key = true → keyE bs q.key = 0 := fun h => by
  unfold keyB chkKey at h
  have h := of_decide_eq_true h
  split at h
  · exact h
  · cases h
 by_cases h1 : q.k = 1 ∨ q.k = 2 ∨ q.k = 4 ∨ q.k = 6 ∨ q.k = 7
 · rw [if_pos h1] at h
   exact ⟨key h, fun h => by omega, fun h => by omega⟩
 · rw [if_neg h1] at h
   by_cases h2 : q.k = 3 ∨ q.k = 5
   · rw [if_pos h2] at h
     simp only [Bool.and_eq_true, decide_eq_true_eq] at h
     exact ⟨key h.1, fun _ => h.2, fun h => by omega⟩
   · rw [if_neg h2, if_pos (by omega)] at h
     simp only [Bool.and_eq_true, decide_eq_true_eq] at h
     refine ⟨key h.1, fun h => by omega, fun _ e => ?_⟩
     have h3 := h.2.2.1
     rw [e, eqK_iff.2 rfl] at h3
     cases h3
theorem with_bump (hc : chkList bs l = 0) {k : KeyD} (hf : findB l k = true) {v : Int} (h : plusB bs (rowK l k) v = true) : withL l (plusV (rowK l k) v) = l.map (bump k v) ∧ chkList bs (withL l (plusV (rowK l k) v)) = 0 := by
 have e := (bec_add hc hf v).1 h
 have h1 := bec_plus (bs := bs) (l := l) (k := k) (v := v) (by rw [e])
 have h2 := bec_okP bs l k (erPlus v) (nwPlus v) (by rw [e])
 rw [e] at h1 h2
 exact ⟨h1.2, h2⟩
theorem findB_bump (l : List RowD) (k j : KeyD) (v : Int) : findB (l.map (bump k v)) j = findB l j := by
 unfold findB
 rw [findB_map l j (bump k v) (bump_key k v)]
theorem rowK_bump {k j : KeyD} (v : Int) (hj : findB l j = true) (hne : j ≠ k) : rowK (l.map (bump k v)) j = rowK l j := by
 obtain ⟨i, hi, hd, hkey⟩ := rowK_of hj
 have e : rowK (l.map (bump k v)) j = ((l.map (bump k v))[i]?).getD zeroR := by
  conv => lhs; unfold rowK
  rw [findB_map l j (bump k v) (bump_key k v), hi]
 rw [e, List.getElem?_map, hd]
 show bump k v (rowK l j) = _
 unfold bump
 rw [if_neg]
 rw [hkey]
 intro h
 exact hne (eqK_iff.1 h)
end
theorem doc_eq {bs : List BdD} {l : List RowD} {q : ReqD} (hc : chkList bs l = 0) (hr : reqB bs q = true) (hk8 : q.k ≤ 8) : doM bs l q = docR bs l q := by
 have hk := reqB_kind hr
 have hcase : q.k = 1 ∨ q.k = 2 ∨ q.k = 3 ∨ q.k = 4 ∨ q.k = 5 ∨ q.k = 6 ∨ q.k = 7 ∨ q.k = 8 := by omega
 obtain ⟨hkey, hnote, hto⟩ := key_of hr hcase
 have hS := (chkList_zero hc).1
 have h60 := ((okL_good bs l).1 (chkList_zero hc).2).1
 have e0 : doM bs l q = ((stepW (aloneS bs l) q).1.rows, (stepW (aloneS bs l) q).2) := by
  unfold doM
  rw [if_neg (by simpa using hc), if_neg (by rw [hr]; simpa using hk8)]
 rw [e0]
 obtain ⟨qk, key, to, val, note, n⟩ := q
 simp only at hk8 hk hcase hkey hnote hto
 clear e0 hk8 hk hr
 rcases hcase with rfl | rfl | rfl | rfl | rfl | rfl | rfl | rfl
 · -- Read
   show ((readW (aloneS bs l) key).1.rows, (readW (aloneS bs l) key).2) = _
   cases hf : findB l key with
   | false =>
     have e : docR bs l ⟨1, key, to, val, note, n⟩ = (l, errA 4) := by
      have e1 : refE bs l ⟨1, key, to, val, note, n⟩ = 4 := by simp [refE, hf]
      simp [docR, e1]
     rw [e]
     unfold readW
     rw [show (aloneS bs l).rows = l from rfl, find_none' hf]
     rfl
   | true =>
     obtain ⟨i, hi, hd, _⟩ := rowK_of hf
     have e1 : refE bs l ⟨1, key, to, val, note, n⟩ = 0 := by simp [refE, hf]
     have e : docR bs l ⟨1, key, to, val, note, n⟩ = (l, ⟨0, [rowK l key], 0⟩) := by simp [docR, e1]
     rw [e]
     unfold readW
     rw [show (aloneS bs l).rows = l from rfl, hi]
     simp only
     rw [hd]
     rfl
 · have e1 : refE bs l ⟨2, key, to, val, note, n⟩ = 0 := by simp [refE]
   have e : docR bs l ⟨2, key, to, val, note, n⟩ = (l, ⟨0, ofL l key.t, 0⟩) := by simp [docR, e1]
   rw [e]
   rfl
 · -- Insert
   show ((insW (aloneS bs l) key val note).1.rows, (insW (aloneS bs l) key val note).2) = _
   have hn := hnote (.inl rfl)
   have hrow : chkRow bs ⟨key, val, note⟩ = if fitB bs key.t val = true then 0 else 152 := by
    unfold chkRow
    rw [if_pos hS]
    exact rowE_bound (r := ⟨key, val, note⟩) hkey hn
   have hrow' := rowE_bound (r := ⟨key, val, note⟩) hkey hn
   unfold insW
   rw [show (aloneS bs l).rows = l from rfl, show (aloneS bs l).bs = bs from rfl, hrow]
   cases hb : fitB bs key.t val with
   | false =>
     have e1 : refE bs l ⟨3, key, to, val, note, n⟩ = 152 := by simp [refE, hb]
     have e : docR bs l ⟨3, key, to, val, note, n⟩ = (l, errA 152) := by simp [docR, e1]
     rw [e]
     rfl
   | true =>
     have hrow' : rowE bs ⟨key, val, note⟩ = 0 := by rw [hrow']; show (if fitB bs key.t val = true then (0 : Int) else 152) = 0; rw [hb]; rfl
     rw [if_pos (by simp)]
     cases hf : findB l key with
     | true =>
       have e1 : refE bs l ⟨3, key, to, val, note, n⟩ = 5 := by simp [refE, hb, hf]
       have e : docR bs l ⟨3, key, to, val, note, n⟩ = (l, errA 5) := by simp [docR, e1]
       rw [e]
       rfl
     | false =>
       rw [if_neg (by simp)]
       have hs := says_of (bs := bs) (l := l) (r := ⟨key, val, note⟩) hc
       have ha : findAt l key = -1 := by unfold findAt; rw [find_none' hf]
       by_cases h6 : 60 ≤ l.length
       · have hE : putE bs l ⟨key, val, note⟩ = 6 := by
          rcases hs.no with h | h
          · exact h.2.2.2
          · exact absurd ⟨hrow', (by show findAt l key < 0; omega), (by omega)⟩ h.1
         have e1 : refE bs l ⟨3, key, to, val, note, n⟩ = 6 := by simp [refE, hb, hf, h6]
         have e : docR bs l ⟨3, key, to, val, note, n⟩ = (l, errA 6) := by simp [docR, e1]
         rw [e, lay_no (E := 6) _ hE (by decide)]
         rfl
       · have hE : putE bs l ⟨key, val, note⟩ = 0 := by
          rcases hs.no with h | h
          · exact absurd h.2.2.1 (by omega)
          · rw [h.2, hrow']
         have e1 : refE bs l ⟨3, key, to, val, note, n⟩ = 0 := by simp [refE, hb, hf, h6]
         have e : docR bs l ⟨3, key, to, val, note, n⟩ = (withL l ⟨key, val, note⟩, okA) := by simp [docR, e1]
         rw [e, hE, hs.put hE, lay_yes]
 · -- Delete
   show ((layW (aloneS bs l) (takeE bs l key, takeL bs l key)).1.rows, (layW (aloneS bs l) (takeE bs l key, takeL bs l key)).2) = _
   have hs := says_of (bs := bs) (l := l) (r := ⟨key, 0, ⟨#[]⟩⟩) hc
   cases hf : findB l key with
   | false =>
     have ha : findAt l key = -1 := by unfold findAt; rw [find_none' hf]
     have hE : takeE bs l key = 4 := by
      rcases hs.not with h | h
      · exact h.2.2
      · exact absurd ⟨hkey, (by show findAt l key < 0; omega)⟩ h.1
     have e1 : refE bs l ⟨4, key, to, val, note, n⟩ = 4 := by simp [refE, hf]
     have e : docR bs l ⟨4, key, to, val, note, n⟩ = (l, errA 4) := by simp [docR, e1]
     rw [e, lay_no (E := 4) _ hE (by decide)]
     rfl
   | true =>
     obtain ⟨i, hi, _, _⟩ := rowK_of hf
     have ha : ¬ findAt l key < 0 := by unfold findAt; rw [hi]; simp
     have hE : takeE bs l key = 0 := by
      rcases hs.not with h | h
      · exact absurd h.2.1 ha
      · rw [h.2]; exact hkey
     have e1 : refE bs l ⟨4, key, to, val, note, n⟩ = 0 := by simp [refE, hf]
     have e : docR bs l ⟨4, key, to, val, note, n⟩ = (outL l key, okA) := by simp [docR, e1]
     rw [e, hE, (hs.take hE).1, lay_yes]
 · -- Note
   show ((layW (aloneS bs l) (becR bs l key erZ (nwNote note))).1.rows, (layW (aloneS bs l) (becR bs l key erZ (nwNote note))).2) = _
   cases hf : findB l key with
   | false =>
     have e1 : refE bs l ⟨5, key, to, val, note, n⟩ = 4 := by simp [refE, hf]
     have e : docR bs l ⟨5, key, to, val, note, n⟩ = (l, errA 4) := by simp [docR, e1]
     rw [e, lay_no (E := 4) _ (by rw [bec_none hf]) (by decide)]
     rfl
   | true =>
     obtain ⟨i, hi, hd, hke⟩ := rowK_of hf
     have h0 := row_ok hc hd
     have hE : rowE bs (nwNote note (rowK l key)) = 0 := by
      rw [rowE_bound (r := nwNote note (rowK l key)) (rowE_parts h0).1 (hnote (.inr rfl))]
      have h1 := rowE_bound (r := rowK l key) (rowE_parts h0).1 (rowE_parts h0).2
      rw [h0] at h1
      exact h1.symm
     have e1 : refE bs l ⟨5, key, to, val, note, n⟩ = 0 := by simp [refE, hf]
     have e : docR bs l ⟨5, key, to, val, note, n⟩ = (withL l (nwNote note (rowK l key)), okA) := by simp [docR, e1]
     rw [e, bec_any hc hf erZ (nwNote note) hke rfl, hE, if_pos rfl, lay_yes]
 · -- Set
   show ((setW (aloneS bs l) key val).1.rows, (setW (aloneS bs l) key val).2) = _
   have hrow : chkRow bs ⟨key, val, ⟨#[]⟩⟩ = if fitB bs key.t val = true then 0 else 152 := by
    unfold chkRow
    rw [if_pos hS]
    exact rowE_bound (r := ⟨key, val, ⟨#[]⟩⟩) hkey (Nat.zero_le _)
   unfold setW
   rw [show (aloneS bs l).rows = l from rfl, show (aloneS bs l).bs = bs from rfl, hrow]
   cases hb : fitB bs key.t val with
   | false =>
     have e1 : refE bs l ⟨6, key, to, val, note, n⟩ = 152 := by simp [refE, hb]
     have e : docR bs l ⟨6, key, to, val, note, n⟩ = (l, errA 152) := by simp [docR, e1]
     rw [e]
     rfl
   | true =>
     rw [if_pos (by simp)]
     cases hf : findB l key with
     | false =>
       have e1 : refE bs l ⟨6, key, to, val, note, n⟩ = 4 := by simp [refE, hb, hf]
       have e : docR bs l ⟨6, key, to, val, note, n⟩ = (l, errA 4) := by simp [docR, e1]
       rw [e, lay_no (E := 4) _ (by rw [bec_none hf]) (by decide)]
       rfl
     | true =>
       obtain ⟨i, hi, hd, hke⟩ := rowK_of hf
       have h0 := row_ok hc hd
       have hE : rowE bs (nwSet val (rowK l key)) = 0 := by
        rw [rowE_bound (r := nwSet val (rowK l key)) (rowE_parts h0).1 (rowE_parts h0).2]
        show (if fitB bs (rowK l key).key.t val = true then (0 : Int) else 152) = 0
        rw [hke, hb]
        rfl
       have e1 : refE bs l ⟨6, key, to, val, note, n⟩ = 0 := by simp [refE, hb, hf]
       have e : docR bs l ⟨6, key, to, val, note, n⟩ = (withL l (nwSet val (rowK l key)), okA) := by simp [docR, e1]
       rw [e, bec_any hc hf erZ (nwSet val) hke rfl, hE, if_pos rfl, lay_yes]
 · -- Add
   show ((layW (aloneS bs l) (becR bs l key (erPlus val) (nwPlus val))).1.rows, (layW (aloneS bs l) (becR bs l key (erPlus val) (nwPlus val))).2) = _
   cases hf : findB l key with
   | false =>
     have e1 : refE bs l ⟨7, key, to, val, note, n⟩ = 4 := by simp [refE, hf]
     have e : docR bs l ⟨7, key, to, val, note, n⟩ = (l, errA 4) := by simp [docR, e1]
     rw [e, lay_no (E := 4) _ (by rw [bec_none hf]) (by decide)]
     rfl
   | true =>
     have hba := bec_add hc hf val
     cases hp : plusB bs (rowK l key) val with
     | false =>
       have e1 : refE bs l ⟨7, key, to, val, note, n⟩ = 152 := by simp [refE, hf, hp]
       have e : docR bs l ⟨7, key, to, val, note, n⟩ = (l, errA 152) := by simp [docR, e1]
       rw [e, lay_no (E := 152) _ (hba.2 hp).1 (by decide)]
       rfl
     | true =>
       have e1 : refE bs l ⟨7, key, to, val, note, n⟩ = 0 := by simp [refE, hf, hp]
       have e : docR bs l ⟨7, key, to, val, note, n⟩ = (withL l (plusV (rowK l key) val), okA) := by simp [docR, e1]
       rw [e, hba.1 hp, lay_yes]
 · -- Move
   show ((movW (aloneS bs l) key to val).1.rows, (movW (aloneS bs l) key to val).2) = _
   have hne := hto rfl
   unfold movW
   rw [show (aloneS bs l).rows = l from rfl]
   cases hf : findB l key with
   | false =>
     have e1 : refE bs l ⟨8, key, to, val, note, n⟩ = 4 := by simp [refE, hf]
     have e : docR bs l ⟨8, key, to, val, note, n⟩ = (l, errA 4) := by simp [docR, e1]
     rw [e]
     rfl
   | true =>
     cases hg : findB l to with
     | false =>
       have e1 : refE bs l ⟨8, key, to, val, note, n⟩ = 4 := by simp [refE, hf, hg]
       have e : docR bs l ⟨8, key, to, val, note, n⟩ = (l, errA 4) := by simp [docR, e1]
       rw [e]
       rfl
     | true =>
       rw [if_pos (show (true && true) = true from rfl)]
       unfold movP
       rw [show (aloneS bs l).rows = l from rfl, show (aloneS bs l).bs = bs from rfl]
       have hba := bec_add hc hf (-val)
       cases hp : plusB bs (rowK l key) (-val) with
       | false =>
         have e1 : refE bs l ⟨8, key, to, val, note, n⟩ = 152 := by simp [refE, hf, hg, hp]
         have e : docR bs l ⟨8, key, to, val, note, n⟩ = (l, errA 152) := by simp [docR, e1]
         rw [e, if_neg (hba.2 hp).2, lay_no (E := 152) _ (hba.2 hp).1 (by decide)]
         rfl
       | true =>
         obtain ⟨hw1, hc1⟩ := with_bump hc hf hp
         rw [hba.1 hp, if_pos rfl]
         simp only
         have hg1 : findB (withL l (plusV (rowK l key) (-val))) to = true := by rw [hw1, findB_bump]; exact hg
         have hr1 : rowK (withL l (plusV (rowK l key) (-val))) to = rowK l to := by rw [hw1]; exact rowK_bump _ hg hne
         have hb2 := bec_add hc1 hg1 val
         rw [hr1] at hb2
         cases hp2 : plusB bs (rowK l to) val with
         | false =>
           have e1 : refE bs l ⟨8, key, to, val, note, n⟩ = 152 := by simp [refE, hf, hg, hp, hp2]
           have e : docR bs l ⟨8, key, to, val, note, n⟩ = (l, errA 152) := by simp [docR, e1]
           rw [e, lay_no (E := 152) _ (hb2.2 hp2).1 (by decide)]
           rfl
         | true =>
           have e1 : refE bs l ⟨8, key, to, val, note, n⟩ = 0 := by simp [refE, hf, hg, hp, hp2]
           have e : docR bs l ⟨8, key, to, val, note, n⟩ = (withL (withL l (plusV (rowK l to) val)) (plusV (rowK l key) (-val)), okA) := by simp [docR, e1]
           rw [e, hb2.1 hp2, lay_yes]
           obtain ⟨hw2, hc2⟩ := with_bump hc hg hp2
           have hf2 : findB (withL l (plusV (rowK l to) val)) key = true := by rw [hw2, findB_bump]; exact hf
           have hr2 : rowK (withL l (plusV (rowK l to) val)) key = rowK l key := by rw [hw2]; exact rowK_bump _ hf (Ne.symm hne)
           have h3 := with_bump hc2 hf2 (v := -val) (by rw [hr2]; exact hp)
           rw [hr2] at h3
           have h4 := with_bump hc1 hg1 (v := val) (by rw [hr1]; exact hp2)
           rw [hr1] at h4
           show (withL (withL l (plusV (rowK l key) (-val))) (plusV (rowK l to) val), okA) = _
           rw [h3.1, h4.1, hw1, hw2, List.map_map, List.map_map]
           rw [show (bump to val ∘ bump key (-val)) = (bump key (-val) ∘ bump to val) from funext fun r => bump_comm _ _ _ _ _]
end Go.Proofs.Ytkdkncbccofpdaa
namespace Go.Proofs.Ytkdkncbccofpdaa
open Go.ChangeShapes Go.WideShapes Go.ChangeAt Go.RowKit Go.Deep Go.Joins
set_option maxRecDepth 100000
set_option maxHeartbeats 2000000 in
theorem fits_any (tq : Option Addr) (tn tc : Nat) (bs : List BdD) (t id v : Int) (w : World) (h : SchOn w tq tn tc bs) (hk : keyE bs ⟨t, id⟩ = 0) :
 Calls Try.prog 62 #[.agg #[.slice tq tn tc], .agg #[.int .i64 t, .int .u16 id], .int .i64 v] w (fun e w' => e = .returned (.bool (fitB bs t v)) ∧ Below w.heap.size w w') := by
 have hl := h.len
 obtain ⟨k, rfl⟩ : ∃ k : Nat, t = (k : Int) := by
  rcases keyE_or bs ⟨t, id⟩ with ⟨h1, _, _⟩ | ⟨_, e⟩
  · exact ⟨t.toNat, by have h1 : 0 ≤ t := h1; omega⟩
  · rw [e] at hk; cases hk
 have hkn : k < tn := by
  rcases keyE_or bs ⟨(k : Int), id⟩ with ⟨_, h2, _⟩ | ⟨_, e⟩
  · have h2 : (k : Int) < bs.length := h2; omega
  · rw [e] at hk; cases hk
 clear hk
 obtain ⟨W, hW⟩ : ∃ W, (w.alloc (.cells #[.slice tq tn tc] 24)).alloc (.cells #[.int .i64 (k : Int), .int .u16 id] 28) = W := ⟨_, rfl⟩
 have hbx := Lib.hid (two_rowsI (xs := [.slice tq tn tc]) (ys := [.int .i64 (k : Int), .int .u16 id]) hW)
 obtain ⟨A, ⟨lo, hi⟩, rfl, hx, _, hc⟩ := (h.below hbx.out.1 (Nat.le_refl _)).at hkn
 have y0 : W.cell? ⟨w.heap.size, 0, none⟩ = some (.slice (some A) tn tc) := hbx.out.2.1.cell 0
 have y1 : W.cell? ⟨w.heap.size + 1, 0, none⟩ = some (.int .i64 (k : Int)) := hbx.out.2.2.1.cell 0
 have c0 : W.cell? (A.add (k * 2)) = some (.int .i64 lo) := by have h := hc 0 _ rfl; rwa [add0] at h
 have c1 : W.cell? ⟨(A.add (k * 2)).block, (A.add (k * 2)).off + 1, none⟩ = some (.int .i64 hi) := hc 1 _ rfl
 have i0 : (0 : Int) ≤ k := by omega
 have i1 : (k : Int) < tn := by omega
 have hfit : Hid (fitB bs (k : Int) v = (decide (lo ≤ v) && decide (v ≤ hi))) := by
  show _ = _
  unfold fitB inB
  rw [show ((k : Int)).toNat = k from rfl, hx]
 rw [hfit.out]
 clear h hc hx hl hfit
 by_cases h1 : lo ≤ v
 · by_cases h2 : v ≤ hi
   · rw [decide_eq_true h1, decide_eq_true h2]
     go_enter Try.func62, Try.ntmps62
     go_wp2
     go_ret
     exact ⟨rfl, hbx.out.1⟩
   · rw [decide_eq_true h1, decide_eq_false h2]
     go_enter Try.func62, Try.ntmps62
     go_wp2
     go_ret
     exact ⟨rfl, hbx.out.1⟩
 · rw [decide_eq_false h1]
   go_enter Try.func62, Try.ntmps62
   go_wp2
   go_ret
   exact ⟨rfl, hbx.out.1⟩
def PlPost (bs : List BdD) (r : RowD) (v : Int) (w : World) (e : Ending) (w' : World) : Prop :=
 e = .returned (.tuple #[.agg #[.int .i64 r.key.t, .int .u16 r.key.id, .int .i64 (plusN r.val v), .string r.note], .bool (plusB bs r v)]) ∧ Below w.heap.size w w'
set_option maxHeartbeats 4000000 in
theorem plusD_any (tq : Option Addr) (tn tc : Nat) (bs : List BdD) (rt ri rv : Int) (rs : ByteArray) (by_ : Int) (w : World) (h : SchOn w tq tn tc bs) (hk : keyE bs ⟨rt, ri⟩ = 0) (hv : I64 rv) (hb : I64 by_) :
 Calls Try.prog 48 #[.agg #[.slice tq tn tc], .agg #[.int .i64 rt, .int .u16 ri, .int .i64 rv, .string rs], .int .i64 by_] w (PlPost bs ⟨⟨rt, ri⟩, rv, rs⟩ by_ w) := by
 obtain ⟨W, hW⟩ : ∃ W, ((w.alloc (.cells #[.slice tq tn tc] 24)).alloc (.cells #[.int .i64 rt, .int .u16 ri, .int .i64 rv, .string rs] 68)).alloc (.cells #[.int .i64 0, .int .u16 0, .int .i64 0, .string ⟨#[]⟩] 68) = W := ⟨_, rfl⟩
 have hbx := Lib.hid (three_rowsI (xs := [.slice tq tn tc]) (ys := [.int .i64 rt, .int .u16 ri, .int .i64 rv, .string rs]) (zs := [.int .i64 0, .int .u16 0, .int .i64 0, .string ⟨#[]⟩]) hW)
 have b0 := Lib.hid hbx.out.1
 have s0 := Lib.hid hbx.out.2.1
 have r0 := Lib.hid hbx.out.2.2.1
 have z0 := Lib.hid hbx.out.2.2.2.1
 have hh := Lib.hid h
 have hpl := Lib.hid (refPlus_any rv by_ W (by unfold I64 at hv; omega) (by unfold I64 at hb; omega))
 have y0 : W.cell? ⟨w.heap.size + 1, 2, none⟩ = some (.int .i64 rv) := r0.out.cell 2
 have hsz := Lib.hid hbx.out.2.2.2.2
 have hk' := Lib.hid hk
 have hse := sizeRow rt ri (plusN rv by_) rs
 clear hbx h hv hb hk
 go_enter Try.func48, Try.ntmps48
 go_wp2_with fail
 clear hW y0
 refine hpl.out.mono ?_
 rintro e u1 ⟨rfl, hb⟩
 clear hpl
 have b1 := Lib.hid (b0.out.trans (hb.mono b0.out.size))
 have s1 := Lib.hid (s0.out.below hb)
 have r1 := Lib.hid (r0.out.below hb)
 have z1 := Lib.hid (z0.out.below hb)
 have hsu : w.heap.size ≤ u1.heap.size := b1.out.size
 clear hb b0 s0 r0 z0
 have y0 : u1.cell? ⟨w.heap.size + 1, 2, none⟩ = some (.int .i64 rv) := r1.out.cell 2
 have f0 := r1.out.free 2
 obtain ⟨u2, hu2⟩ : ∃ u2, u1.setCell ⟨w.heap.size + 1, 2, none⟩ (.int .i64 (plusN rv by_)) = u2 := ⟨_, rfl⟩
 have hgr : u1.grownBy u2 (some (w.heap.size + 1)) := by rw [← hu2]; exact setCell_grown _ _ _ _
 have r2 : Hid (RowV 68 u2 (w.heap.size + 1) [.int .i64 rt, .int .u16 ri, .int .i64 (plusN rv by_), .string rs]) := by
  show RowV _ _ _ _
  rw [← hu2]
  exact r1.out.set 2 (.int .i64 (plusN rv by_))
 have s2 := Lib.hid (s1.out.kept hgr (by omega))
 have z2 := Lib.hid (z1.out.kept hgr (by omega))
 have b2 := Lib.hid (b1.out.grown hgr hsu (fun k hk => by cases hk; omega))
 have h2 := Lib.hid (hh.out.below b2.out (Nat.le_refl _))
 clear hgr r1 z1 s1 b1 hh
 obtain ⟨FB, hFB⟩ : ∃ b, fits rv by_ = b := ⟨_, rfl⟩
 have hpb : Hid (plusB bs ⟨⟨rt, ri⟩, rv, rs⟩ by_ = (FB && fitB bs rt (plusN rv by_))) := by show _ = _; unfold plusB; rw [← hFB]
 obtain ⟨PN, hPN⟩ : ∃ x, plusN rv by_ = x := ⟨_, rfl⟩
 unfold PlPost
 simp only
 rw [hFB]
 rw [hPN] at r2 hu2 hse hpb ⊢
 have hPN' := Lib.hid hPN
 clear hFB hPN
 cases FB with
 | true =>
   go_wp2
   refine wp_region_held (S := fun u => u.cell? ⟨w.heap.size, 0, none⟩ = some (.slice tq tn tc) ∧ u.cell? ⟨w.heap.size + 1, 0, none⟩ = some (.int .i64 rt) ∧ u.cell? ⟨w.heap.size + 1, 1, none⟩ = some (.int .u16 ri) ∧ u.cell? ⟨w.heap.size + 1, 2, none⟩ = some (.int .i64 PN) ∧ u.cell? ⟨w.heap.size + 1, 3, none⟩ = some (.string rs)) (by kernel_rfl) ?_
   change wpAnyH _ _ _ _ _ _ _ _ (World.drew u2)
   clear hu2
   have hX0 : Hid ((fun u : World => u.cell? ⟨w.heap.size, 0, none⟩ = some (.slice tq tn tc) ∧ u.cell? ⟨w.heap.size + 1, 0, none⟩ = some (.int .i64 rt) ∧ u.cell? ⟨w.heap.size + 1, 1, none⟩ = some (.int .u16 ri) ∧ u.cell? ⟨w.heap.size + 1, 2, none⟩ = some (.int .i64 PN) ∧ u.cell? ⟨w.heap.size + 1, 3, none⟩ = some (.string rs)) u2.drew) := ⟨s2.out.cell 0, r2.out.cell 0, r2.out.cell 1, r2.out.cell 2, r2.out.cell 3⟩
   refine held_tk (i := 0) (dst := some 19) (v := .agg #[.int .i64 rt, .int .u16 ri, .int .i64 PN, .string rs]) rfl rfl (.inl ⟨rfl, fun u hu => by have y0 := hu.2.1; have y1 := hu.2.2.1; have y2 := hu.2.2.2.1; have y3 := hu.2.2.2.2; go_simp⟩) hX0.out ?_
   go_frame
   refine held_tk (i := 1) (dst := some 20) (v := .bool true) rfl rfl (y_move (.tmp 9) rfl rfl rfl) hX0.out ?_
   go_frame
   refine held_tk (i := 2) (dst := some 21) (v := .bool true) rfl rfl (y_move (.tmp 20) rfl rfl rfl) hX0.out ?_
   go_frame
   refine held_tk (i := 3) (dst := some 22) (v := .agg #[.slice tq tn tc]) rfl rfl (.inl ⟨rfl, fun u hu => by have y0 := hu.1; go_simp⟩) hX0.out ?_
   go_frame
   refine held_tk (i := 4) (dst := some 23) (v := .pointer (some ⟨w.heap.size + 1, 0, none⟩)) rfl rfl (.inl ⟨rfl, fun u _ => by go_simp⟩) hX0.out ?_
   go_frame
   refine held_tk (i := 5) (dst := some 24) (v := .agg #[.int .i64 rt, .int .u16 ri]) rfl rfl (.inl ⟨rfl, fun u hu => by have y0 := hu.2.1; have y1 := hu.2.2.1; go_simp⟩) hX0.out ?_
   go_frame
   refine held_tk (i := 6) (dst := some 25) (v := .int .i64 PN) rfl rfl (y_move (.tmp 8) rfl rfl rfl) hX0.out ?_
   go_frame
   have hft := fits_any tq tn tc bs rt ri PN u2.drew (h2.out.below (below_drew u2) (Nat.le_refl _)) hk'.out
   refine held_call (i := 7) (dst := some 26) rfl rfl (by kernel_rfl) rfl (by go_simp) hft ?_
   rintro e u3 ⟨rfl, hb⟩
   have hb3 : Below u2.heap.size u2 u3 := (below_drew u2).trans hb
   have hX1 : Hid ((fun u : World => u.cell? ⟨w.heap.size, 0, none⟩ = some (.slice tq tn tc) ∧ u.cell? ⟨w.heap.size + 1, 0, none⟩ = some (.int .i64 rt) ∧ u.cell? ⟨w.heap.size + 1, 1, none⟩ = some (.int .u16 ri) ∧ u.cell? ⟨w.heap.size + 1, 2, none⟩ = some (.int .i64 PN) ∧ u.cell? ⟨w.heap.size + 1, 3, none⟩ = some (.string rs)) u3) := by
    obtain ⟨x0, x1, x2, x3, x4⟩ := hX0.out
    exact ⟨cell_keeps hb3 (Nat.le_refl _) x0, cell_keeps hb3 (Nat.le_refl _) x1, cell_keeps hb3 (Nat.le_refl _) x2, cell_keeps hb3 (Nat.le_refl _) x3, cell_keeps hb3 (Nat.le_refl _) x4⟩
   have b3 := Lib.hid (b2.out.trans (hb3.mono b2.out.size))
   have z3 := Lib.hid (z2.out.below hb3)
   clear hb hb3 hft
   refine ⟨_, rfl, hX1.out, ?_⟩
   go_frame
   refine held_tk (i := 8) (dst := some 27) (v := .bool (fitB bs rt PN)) rfl rfl (.inl ⟨rfl, fun u _ => by go_simp⟩) hX1.out ?_
   go_frame
   obtain ⟨u9, hst, h9, hg9⟩ := run_storeVar_at (P := Try.prog) (ty := 68) (o := 0) (vs := [.int .i64 rt, .int .u16 ri, .int .i64 PN, .string rs]) z3.out hse (Nat.le_refl _) (RowD.one ⟨⟨rt, ri⟩, PN, rs⟩)
   have hX9 : Hid ((fun u : World => u.cell? ⟨w.heap.size, 0, none⟩ = some (.slice tq tn tc) ∧ u.cell? ⟨w.heap.size + 1, 0, none⟩ = some (.int .i64 rt) ∧ u.cell? ⟨w.heap.size + 1, 1, none⟩ = some (.int .u16 ri) ∧ u.cell? ⟨w.heap.size + 1, 2, none⟩ = some (.int .i64 PN) ∧ u.cell? ⟨w.heap.size + 1, 3, none⟩ = some (.string rs)) u9) := by
    obtain ⟨x0, x1, x2, x3, x4⟩ := hX1.out
    exact ⟨hg9.cell x0 (by simp), hg9.cell x1 (by simp), hg9.cell x2 (by simp), hg9.cell x3 (by simp), hg9.cell x4 (by simp)⟩
   refine held_skip (i := 9) (dst := none) (w' := u9) rfl rfl (by kernel_rfl) rfl (run_store_op rfl rfl rfl hst) hX9.out ?_
   go_frame
   refine held_tk (i := 10) (dst := some 7) (v := .bool (fitB bs rt PN)) rfl rfl (.inl ⟨rfl, fun u _ => by go_simp⟩) hX9.out ?_
   go_frame
   refine wpAnyH_done (by kernel_rfl) ?_ _
   have h9' : Hid (RowV 68 u9 (w.heap.size + 2) [.int .i64 rt, .int .u16 ri, .int .i64 PN, .string rs]) := h9
   have b9 := Lib.hid (b3.out.grown hg9 b3.out.size (fun k hk => by cases hk; omega))
   clear hst h9 hg9 hX9 hX0
   go_wp2
   have m0 := h9'.out.cell 0
   have m1 := h9'.out.cell 1
   have m2 := h9'.out.cell 2
   have m3 := h9'.out.cell 3
   simp only [List.getElem?_cons_zero, List.getElem?_cons_succ] at m0 m1 m2 m3
   refine bodyPost_ret (v := .tuple #[.agg #[.int .i64 rt, .int .u16 ri, .int .i64 PN, .string rs], .bool (fitB bs rt PN)]) (by simp [results, Try.results48, go_sem, m0, m1, m2, m3]) rfl ?_
   obtain rfl := hPN'.out
   exact ⟨by rw [hpb.out]; rfl, b9.out⟩
 | false =>
   go_wp2
   refine wp_region_held (S := fun u => u.cell? ⟨w.heap.size, 0, none⟩ = some (.slice tq tn tc) ∧ u.cell? ⟨w.heap.size + 1, 0, none⟩ = some (.int .i64 rt) ∧ u.cell? ⟨w.heap.size + 1, 1, none⟩ = some (.int .u16 ri) ∧ u.cell? ⟨w.heap.size + 1, 2, none⟩ = some (.int .i64 PN) ∧ u.cell? ⟨w.heap.size + 1, 3, none⟩ = some (.string rs)) (by kernel_rfl) ?_
   change wpAnyH _ _ _ _ _ _ _ _ (World.drew u2)
   clear hu2
   have hX0 : Hid ((fun u : World => u.cell? ⟨w.heap.size, 0, none⟩ = some (.slice tq tn tc) ∧ u.cell? ⟨w.heap.size + 1, 0, none⟩ = some (.int .i64 rt) ∧ u.cell? ⟨w.heap.size + 1, 1, none⟩ = some (.int .u16 ri) ∧ u.cell? ⟨w.heap.size + 1, 2, none⟩ = some (.int .i64 PN) ∧ u.cell? ⟨w.heap.size + 1, 3, none⟩ = some (.string rs)) u2.drew) := ⟨s2.out.cell 0, r2.out.cell 0, r2.out.cell 1, r2.out.cell 2, r2.out.cell 3⟩
   refine held_tk (i := 0) (dst := some 19) (v := .agg #[.int .i64 rt, .int .u16 ri, .int .i64 PN, .string rs]) rfl rfl (.inl ⟨rfl, fun u hu => by have y0 := hu.2.1; have y1 := hu.2.2.1; have y2 := hu.2.2.2.1; have y3 := hu.2.2.2.2; go_simp⟩) hX0.out ?_
   go_frame
   refine held_tk (i := 1) (dst := some 20) (v := .bool false) rfl rfl (y_move (.tmp 9) rfl rfl rfl) hX0.out ?_
   go_frame
   refine held_tk (i := 2) (dst := some 21) (v := .bool false) rfl rfl (y_move (.tmp 20) rfl rfl rfl) hX0.out ?_
   go_frame
   refine tu 3 22 hX0.out ?_
   go_frame
   refine tu 4 23 hX0.out ?_
   go_frame
   refine tu 5 24 hX0.out ?_
   go_frame
   refine tu 6 25 hX0.out ?_
   go_frame
   refine tu 7 26 hX0.out ?_
   go_frame
   refine held_tk (i := 8) (dst := some 27) (v := .bool false) rfl rfl (.inl ⟨rfl, fun u _ => by go_simp⟩) hX0.out ?_
   go_frame
   have z3 := Lib.hid (z2.out.below (below_drew u2))
   have b3 := Lib.hid (b2.out.trans ((below_drew u2).mono b2.out.size))
   obtain ⟨u9, hst, h9, hg9⟩ := run_storeVar_at (P := Try.prog) (ty := 68) (o := 0) (vs := [.int .i64 rt, .int .u16 ri, .int .i64 PN, .string rs]) z3.out hse (Nat.le_refl _) (RowD.one ⟨⟨rt, ri⟩, PN, rs⟩)
   have hX9 : Hid ((fun u : World => u.cell? ⟨w.heap.size, 0, none⟩ = some (.slice tq tn tc) ∧ u.cell? ⟨w.heap.size + 1, 0, none⟩ = some (.int .i64 rt) ∧ u.cell? ⟨w.heap.size + 1, 1, none⟩ = some (.int .u16 ri) ∧ u.cell? ⟨w.heap.size + 1, 2, none⟩ = some (.int .i64 PN) ∧ u.cell? ⟨w.heap.size + 1, 3, none⟩ = some (.string rs)) u9) := by
    obtain ⟨x0, x1, x2, x3, x4⟩ := hX0.out
    exact ⟨hg9.cell x0 (by simp), hg9.cell x1 (by simp), hg9.cell x2 (by simp), hg9.cell x3 (by simp), hg9.cell x4 (by simp)⟩
   refine held_skip (i := 9) (dst := none) (w' := u9) rfl rfl (by kernel_rfl) rfl (run_store_op rfl rfl rfl hst) hX9.out ?_
   go_frame
   refine held_tk (i := 10) (dst := some 7) (v := .bool false) rfl rfl (.inl ⟨rfl, fun u _ => by go_simp⟩) hX9.out ?_
   go_frame
   refine wpAnyH_done (by kernel_rfl) ?_ _
   have h9' : Hid (RowV 68 u9 (w.heap.size + 2) [.int .i64 rt, .int .u16 ri, .int .i64 PN, .string rs]) := h9
   have b9 := Lib.hid (b3.out.grown hg9 b3.out.size (fun k hk => by cases hk; omega))
   clear hst h9 hg9 hX9 hX0
   go_wp2
   have m0 := h9'.out.cell 0
   have m1 := h9'.out.cell 1
   have m2 := h9'.out.cell 2
   have m3 := h9'.out.cell 3
   simp only [List.getElem?_cons_zero, List.getElem?_cons_succ] at m0 m1 m2 m3
   refine bodyPost_ret (v := .tuple #[.agg #[.int .i64 rt, .int .u16 ri, .int .i64 PN, .string rs], .bool (false)]) (by simp [results, Try.results48, go_sem, m0, m1, m2, m3]) rfl ?_
   obtain rfl := hPN'.out
   exact ⟨by rw [hpb.out]; rfl, b9.out⟩
end Go.Proofs.Ytkdkncbccofpdaa
