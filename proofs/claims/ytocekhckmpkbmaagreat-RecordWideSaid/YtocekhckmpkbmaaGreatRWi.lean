/- RecordWide: for every record and row of images the law returns true, and its arguments read as they did. No condition. -/
import Derived.Test.YtocekhckmpkbmaaGreatQ34
import Derived.Test.YtocekhckmpkbmaaGreatQ35
namespace Go.Proofs.YtocekhckmpkbmaaGreat
open Go.ChangeShapes Go.WideShapes Go.ChangeAt Go.RowKit
set_option maxRecDepth 100000 in
theorem slice_imgs (p : Option Addr) (n c k : Nat) (hk : k ≤ n) (hn : n ≤ c) (u : World) :
 (Instr.slice 25 (.slice p n c) none (some (.int .i64 (k : Int))) none).run Tryz.prog u = .ok (.slice p k c) u := by
 have h := run_slice_h (P := Tryz.prog) u 25 p n c (by kernel_rfl) .i64 (k : Int) (by omega) (by omega)
 rw [h, show (sizeOf (Tryz.prog.elem 25)).run Tryz.prog u = .ok 7 u by kernel_rfl]
 simp only [Result.andThen, sliced, Int.toNat_natCast, Nat.zero_mul, Nat.sub_zero]
 congr 2
 split
 · rfl
 · cases p <;> simp [add_zero]
theorem ImgsOn.front {w : World} {q : Option Addr} {n c m : Nat} {V : List ImgV} {L : List ImgD} (h : ImgsOn w q n c V L) (hm : m ≤ n) : ImgsOn w q m c (V.take m) (L.take m) :=
 ⟨h.on.front hm, by rw [List.length_take, List.length_take, h.len], fun i v x hv hx => by
  rw [List.getElem?_take] at hv hx
  split at hv
  · rename_i hi
    rw [if_pos hi] at hx
    exact h.get i v x hv hx
  · cases hv⟩
/-- a step's images cost -/
theorem chg_ok {s : StepD} (h : stpB s = true) : chg s = if s.kind = 3 ∨ s.kind = 4 then 12 else 1 := by
 unfold stpB at h
 rw [Bool.and_eq_true] at h
 have h2 := h.2
 unfold chg
 by_cases h1 : s.kind = 1
 · rw [if_pos h1, if_neg (by omega)]
 by_cases h2' : s.kind = 2
 · rw [if_neg h1, if_pos h2', if_neg (by omega)]
 by_cases h3 : s.kind = 3
 · rw [if_neg h1, if_neg h2', if_pos h3, if_pos (.inl h3)]
 by_cases h4 : s.kind = 4
 · rw [if_neg h1, if_neg h2', if_neg h3, if_pos h4, if_pos (.inr h4)]
 · exfalso
   simp only [h1, h2', h3, h4, if_false] at h2
   cases h2
/-- images of which the first say nothing of what was ahead -/
def bareI (v : ImgV) : ImgV := ⟨v.page, ⟨0, none, 0, 0, none, 0, 0⟩, v.aft⟩
def bareV (V : List ImgV) (j : Nat) : List ImgV := (V.take j).map bareI ++ V.drop j
def bareD' (L : List ImgD) : List ImgD := L.map (fun d => ⟨d.page, zeroC, d.aft⟩)
theorem bareV_at {V : List ImgV} {j : Nat} {v : ImgV} (h : V[j]? = some v) : (bareV V j)[j]? = some v ∧ (bareV V j).set j (bareI v) = bareV V (j + 1) := by
 obtain ⟨hj, rfl⟩ := List.getElem?_eq_some_iff.1 h
 have hl : ((V.take j).map bareI).length = j := by rw [List.length_map, List.length_take, Nat.min_eq_left (by omega)]
 have hd : V.drop j = V[j] :: V.drop (j + 1) := List.drop_eq_getElem_cons hj
 unfold bareV
 refine ⟨?_, ?_⟩
 · rw [List.getElem?_append_right (by omega), hl, Nat.sub_self, hd]; rfl
 · rw [List.set_append_right _ _ (by omega), hl, Nat.sub_self, hd, List.set_cons_zero, List.take_add_one, h, List.map_append, List.append_assoc]
   rfl
theorem bareV_all (V : List ImgV) : bareV V V.length = V.map bareI := by
 unfold bareV
 rw [List.take_of_length_le (Nat.le_refl _), List.drop_of_length_le (Nat.le_refl _), List.append_nil]
theorem splice_app {a b vs : List Value} {o k : Nat} (h : a.length = k) : splice (a ++ b) (k + o) vs = a ++ splice b o vs := by
 unfold splice
 rw [List.take_append, List.drop_append, h, List.take_of_length_le (by omega), List.drop_of_length_le (by omega), show k + o - k = o by omega, show k + o + vs.length - k = o + vs.length by omega]
 simp
abbrev zC : List Value := [.int .i64 0, .slice none 0 0, .slice none 0 0]
theorem splice_bare : ∀ (L : List ImgV) (i : Nat) (x : ImgV), L[i]? = some x → splice (cellsL L) (i * 7 + 1) zC = cellsL (L.set i (bareI x))
 | [], i, x, h => by simp at h
 | s :: l, 0, x, h => by
   simp at h; subst h
   rfl
 | s :: l, i + 1, x, h => by
   simp at h
   have ih := splice_bare l i x h
   simp only [List.set_cons_succ, cellsL]
   rw [show (i + 1) * 7 + 1 = 7 + (i * 7 + 1) by omega, splice_app (by exact Cel.len s), ih]
theorem OwnS.bare {w' : World} {B g n c : Nat} {L : List ImgV} {cur : List Value} (hB : B ≤ g) (hn : n ≤ c) (hc : c ≤ maxLen) (hs : cur.length = c * 7) (ht : cur.take (n * 7) = cellsL L) (hl : L.length = n) {i : Nat} {x : ImgV} (hx : L[i]? = some x) (hr : RowV 62 w' g (splice cur (i * 7 + 1) zC)) : OwnS 62 w' B (.slice (some ⟨g, 0, none⟩) n c) (L.set i (bareI x)) := by
 have hi := (List.getElem?_eq_some_iff.1 hx).1
 refine OwnS.mk hB hr hn hc ?_ ?_ (by rw [List.length_set]; exact hl)
 · unfold splice
   simp only [List.length_append, List.length_take, List.length_drop, zC, List.length_cons, List.length_nil]
   show _ = c * 7
   omega
 · show (splice cur (i * 7 + 1) zC).take (n * 7) = _
   rw [← splice_bare L i x hx, ← ht]
   unfold splice
   have h1 : (cur.take (i * 7 + 1)).length = i * 7 + 1 := by rw [List.length_take]; omega
   have hz : zC.length = 3 := rfl
   rw [List.take_append, h1, List.take_take, Nat.min_eq_right (by omega), List.take_take, Nat.min_eq_left (by omega), List.take_append, List.take_of_length_le (l := zC) (by rw [hz]; omega), hz, List.drop_take, Nat.sub_sub]
/-- what RecordWide makes, in its own memory: the record's box and its images -/
structure UF (w5 wx : World) (B : Nat) (v : RecV) (V U : List ImgV) (L : List ImgD) : Prop where
 below : Below w5.heap.size w5 wx
 box : RowV 30 wx B v.cells
 hB : w5.heap.size ≤ B
 own : OwnS 62 wx w5.heap.size (.slice v.iq v.im v.ic) V
 imm : ImgsM wx w5.heap.size (v.iq.map (·.block)) U L
 apB : ∀ a, v.iq = some a → a.block ≠ B
def wideR (L1 txn lsn next : Int) (L : List ImgD) : RecD := ⟨5, L1, txn, lsn, next, L, [], 0, [], []⟩
set_option maxRecDepth 100000 in
set_option maxHeartbeats 16000000 in
theorem wide_law (va : RecV) (Va : List ImgV) (ra : RecD) (lq : Option Addr) (ln lc : Nat) (Vl : List ImgV) (Ll : List ImgD) (w : World) (ha : va.On w Va ra) (hl : ImgsOn w lq ln lc Vl Ll) :
 Calls Tryz.prog 9 #[va.val, .slice lq ln lc] w (fun e w' => e = .returned (.bool true) ∧ Below w.heap.size w w') := by
 obtain ⟨kinda, lsna, txna, preva, nexta, iqa, ima, ica, sqa, sna, sca, nextTxna, tqa, tna, tca, dqa, dna, dca⟩ := va
 obtain ⟨W, hW⟩ : ∃ W, w.alloc (.cells #[.int .i64 kinda, .int .u64 lsna, .int .i64 txna, .int .u64 preva, .int .u64 nexta, .slice iqa ima ica, .slice sqa sna sca, .int .i64 nextTxna, .slice tqa tna tca, .slice dqa dna dca] 30) = W := ⟨_, rfl⟩
 have hbx := Lib.hid (one_box (xs := [.int .i64 kinda, .int .u64 lsna, .int .i64 txna, .int .u64 preva, .int .u64 nexta, .slice iqa ima ica, .slice sqa sna sca, .int .i64 nextTxna, .slice tqa tna tca, .slice dqa dna dca]) hW)
 have hdW := Lib.hid hbx.out.1
 have hl := Lib.hid hl
 have hsza : (Tryz.prog.info? 30).map (·.size) = some ([.int .i64 kinda, .int .u64 lsna, .int .i64 txna, .int .u64 preva, .int .u64 nexta, .slice iqa ima ica, .slice sqa sna sca, .int .i64 nextTxna, .slice tqa tna tca, .slice dqa dna dca] : List Value).length := sizeRec ⟨kinda, lsna, txna, preva, nexta, iqa, ima, ica, sqa, sna, sca, nextTxna, tqa, tna, tca, dqa, dna, dca⟩
 show Calls _ _ #[.agg #[.int .i64 kinda, .int .u64 lsna, .int .i64 txna, .int .u64 preva, .int .u64 nexta, .slice iqa ima ica, .slice sqa sna sca, .int .i64 nextTxna, .slice tqa tna tca, .slice dqa dna dca], .slice lq ln lc] _ _
 go_enter Tryz.func9, Tryz.ntmps9
 go_wp2_with fail
 clear hW
 refine (wakes_any _).mono ?_
 rintro e w1 ⟨rfl, hb1⟩
 have hd1 := Lib.hid (hdW.out.trans (hb1.mono hdW.out.size))
 have hxa := Lib.hid (hbx.out.2.1.below hb1 (Nat.le_refl _))
 clear hb1
 go_wp2_with (first
  | (with_reducible refine wpList_load_at rfl 30 (.tmp 2) rfl Tryz.underlying30 rfl hsza rfl hxa.out.all ?_))
 refine (few_any ⟨kinda, lsna, txna, preva, nexta, iqa, ima, ica, sqa, sna, sca, nextTxna, tqa, tna, tca, dqa, dna, dca⟩ Va ra w1 (ha.below hd1.out (Nat.le_refl _))).mono ?_
 clear ha
 rintro e w3 ⟨⟨kindc, lsnc, txnc, prevc, nextc, iqc, imc, icc, sqc, snc, scc, nextTxnc, tqc, tnc, tcc, dqc, dnc, dcc⟩, Vc, rfl, hon3, _, _, hb3⟩
 obtain ⟨R, hR⟩ : ∃ R, fewRec ra = R := ⟨_, rfl⟩
 rw [hR] at hon3
 have hd3 := Lib.hid (hd1.out.trans (hb3.mono hd1.out.size))
 obtain ⟨w4, hw4⟩ : ∃ y, w3.alloc (.cells #[.int .i64 kindc, .int .u64 lsnc, .int .i64 txnc, .int .u64 prevc, .int .u64 nextc, .slice iqc imc icc, .slice sqc snc scc, .int .i64 nextTxnc, .slice tqc tnc tcc, .slice dqc dnc dcc] 30) = y := ⟨_, rfl⟩
 have hbc := Lib.hid (one_box (xs := [.int .i64 kindc, .int .u64 lsnc, .int .i64 txnc, .int .u64 prevc, .int .u64 nextc, .slice iqc imc icc, .slice sqc snc scc, .int .i64 nextTxnc, .slice tqc tnc tcc, .slice dqc dnc dcc]) hw4)
 have hd4 := Lib.hid (hd3.out.trans (hbc.out.1.mono hd3.out.size))
 have hon := Lib.hid (hon3 w4 (fun k _ h2 => hbc.out.1.block k h2))
 have hszc : (Tryz.prog.info? 30).map (·.size) = some ([.int .i64 kindc, .int .u64 lsnc, .int .i64 txnc, .int .u64 prevc, .int .u64 nextc, .slice iqc imc icc, .slice sqc snc scc, .int .i64 nextTxnc, .slice tqc tnc tcc, .slice dqc dnc dcc] : List Value).length := sizeRec ⟨kindc, lsnc, txnc, prevc, nextc, iqc, imc, icc, sqc, snc, scc, nextTxnc, tqc, tnc, tcc, dqc, dnc, dcc⟩
 clear hb3 hR hon3
 have hck := checkRec_any ⟨kindc, lsnc, txnc, prevc, nextc, iqc, imc, icc, sqc, snc, scc, nextTxnc, tqc, tnc, tcc, dqc, dnc, dcc⟩ Vc R w4 hon.out
 obtain ⟨B, hB⟩ : ∃ B, mayB R = B := ⟨_, rfl⟩
 cases B with
 | false =>
   rw [show chkRec R = 220 by unfold chkRec; rw [hB]; rfl] at hck
   replace hck := Lib.hid hck
   go_wp2_with (first
    | (with_reducible refine wpList_load_at rfl 30 (.tmp 5) rfl Tryz.underlying30 rfl hszc rfl hbc.out.2.1.all ?_))
   clear hw4
   refine hck.out.mono ?_
   rintro e w5 ⟨rfl, hb5⟩
   have hdE := Lib.hid (hd4.out.trans (hb5.mono hd4.out.size))
   clear hb5
   go_wp2_with fail
   go_ret
   exact ⟨rfl, hdE.out⟩
 | true =>
   rw [show chkRec R = 0 by unfold chkRec; rw [hB]; rfl] at hck
   replace hck := Lib.hid hck
   go_wp2_with (first
    | (with_reducible refine wpList_load_at rfl 30 (.tmp 5) rfl Tryz.underlying30 rfl hszc rfl hbc.out.2.1.all ?_))
   clear hw4
   refine hck.out.mono ?_
   clear hck
   rintro e w5 ⟨rfl, hb5⟩
   have hd5 := Lib.hid (hd4.out.trans (hb5.mono hd4.out.size))
   have hbc5 := Lib.hid (hbc.out.2.1.below hb5 (Nat.le_refl _))
   have hon5 := Lib.hid (hon.out.below hb5 (Nat.le_refl _))
   have hgc : Hid (w3.heap.size < w5.heap.size) := Nat.lt_of_lt_of_le (by have h1 := hbc.out.2.2; omega) hb5.size
   have hm := Lib.hid hB
   clear hb5 hB hbc hon hd4
   have z0 : w5.cell? ⟨w3.heap.size, 0, none⟩ = some (.int .i64 kindc) := hbc5.out.cell 0 rfl
   have z1 : w5.cell? ⟨w3.heap.size, 1, none⟩ = some (.int .u64 lsnc) := hbc5.out.cell 1 rfl
   by_cases hk : kindc = 4
   rotate_left
   · have hkb : (kindc != 4) = true := by simpa using hk
     go_wp2_with fail
     go_ret
     exact ⟨rfl, hd5.out⟩
   subst hk
   by_cases hmx : lsnc = 1099511627776
   · subst hmx
     go_wp2_with fail
     go_ret
     exact ⟨rfl, hd5.out⟩
   have hmxb : (lsnc == 1099511627776) = false := by simpa using hmx
   have hk4 : Hid (R.kind = 4) := hon5.out.kind.symm
   have e1 : lsnc = R.lsn := hon5.out.lsn
   have hlp := may_parts hm.out
   obtain ⟨L1, hL1⟩ : ∃ l, lsnc + 1 = l := ⟨_, rfl⟩
   have hL1r : 1 ≤ L1 ∧ L1 ≤ 1099511627776 := by have h1 := hlp.1; have h2 := hlp.2.1; omega
   have ew1 : IntKind.u64.wrap (lsnc + 1) = L1 := by rw [hL1]; exact IntWalk.u64_in _ (by omega)
   have hL1r := Lib.hid hL1r
   replace e1 := Lib.hid e1
   have hst2 : Hid ((∀ s ∈ R.steps, stpB s = true) ∧ R.steps.length ≤ 2) := by
    have h1 := lay_of hm.out
    unfold LayOk at h1
    rw [hk4.out] at h1
    show _ ∧ _
    simpa using h1
   clear hlp
   replace hL1 := Lib.hid hL1
   replace hmx := Lib.hid hmx
   have z6 : w5.cell? ⟨w3.heap.size, 6, none⟩ = some (.slice sqc snc scc) := hbc5.out.cell 6 rfl
   have hSl : Hid (R.steps.length = snc) := hon5.out.steps.len
   have hsn2 : snc ≤ 2 := by have h1 := hst2.out.2; have h2 := hSl.out; omega
   have h0 : Hid (chgs (R.steps.take 0) = 0 ∧ Below w5.heap.size w5 w5) := ⟨rfl, Below.refl _ _⟩
   replace ew1 := Lib.hid ew1
   go_wp2_with fail
   clear z0 z1 z6
   go_loopw [35, 6] (fun v v6 wr => ∃ j P : Nat, j ≤ snc ∧ v = .int .i64 j ∧ v6 = .int .i64 P ∧ Hid (chgs (R.steps.take j) = P ∧ Below w5.heap.size w5 wr)) (fun v _ _ => snc - (RowKit.intOf v).toNat)
   case atStart => exact ⟨0, 0, Nat.zero_le _, rfl, rfl, h0⟩
   case round =>
    obtain ⟨j, P, hj, rfl, rfl, hst⟩ := hrel
    clear h0
    have hP24 : P ≤ 24 := by
     have h1 := chgs_le (R.steps.take j)
     have h2 := hst.out.1
     rw [List.length_take] at h1
     omega
    by_cases hlt : j < snc
    · obtain ⟨A, ⟨sk, ⟨⟨t, id⟩, v, s⟩, by_⟩, hqA, hx, hcA⟩ := (hon5.out.steps.below hst.out.2 (Nat.le_refl _)).at (show j < snc from hlt)
      have hok := hst2.out.1 _ (List.mem_of_getElem? hx)
      have hcg := chgs_step hx
      rw [chg_ok hok, hst.out.1] at hcg
      subst hqA
      have hcA : Hid (∀ j' x, ([.int .i64 sk, .int .i64 t, .int .u16 id, .int .i64 v, .string s, .int .i64 by_] : List Value)[j']? = some x → wr.cell? ((A.add (j * 6)).add j') = some x) := hcA
      have hs : (Tryz.prog.info? 70).map (·.size) = some ([.int .i64 sk, .int .i64 t, .int .u16 id, .int .i64 v, .string s, .int .i64 by_] : List Value).length := sizeStep ⟨sk, ⟨⟨t, id⟩, v, s⟩, by_⟩
      have i0 : (0 : Int) ≤ j := by omega
      have i1 : (j : Int) < snc := by omega
      simp only at hcg
      have hcg := Lib.hid hcg
      clear hx hok
      obtain ⟨we, hwe⟩ : ∃ x, wr.alloc (.cells #[.int .i64 sk, .int .i64 t, .int .u16 id, .int .i64 v, .string s, .int .i64 by_] 70) = x := ⟨_, rfl⟩
      have hbk := Lib.hid (one_box (xs := [.int .i64 sk, .int .i64 t, .int .u16 id, .int .i64 v, .string s, .int .i64 by_]) hwe)
      have d0 : we.cell? ⟨wr.heap.size, 0, none⟩ = some (.int .i64 sk) := hbk.out.2.1.cell 0 rfl
      have hde := Lib.hid (below_step hbk.out.1 hst.out.2)
      have ep1 : wrap64 ((P : Int) + 1) = ((P + 1 : Nat) : Int) := by unfold wrap64; omega
      have ep2 : wrap64 (((P + 1 : Nat) : Int) + 11) = ((P + 12 : Nat) : Int) := by unfold wrap64; omega
      by_cases h3 : sk = 3
      · have b3 : (sk == 3) = true := by simpa using h3
        have hnew : Hid (chgs (R.steps.take (j + 1)) = P + 12 ∧ Below w5.heap.size w5 we) := ⟨by rw [hcg.out, if_pos (.inl h3)], hde.out⟩
        replace h3 := Lib.hid h3
        go_wp2_with (first
         | (with_reducible refine wpList_load_at rfl 70 (.tmp 37) rfl Tryz.underlying70 rfl hs rfl hcA.out ?_))
        clear hwe
        go_roundw
        case rel => exact ⟨j + 1, P + 12, by omega, by go_num, by go_num, hnew⟩
        case measure => simp [RowKit.intOf]; omega
      have b3 : (sk == 3) = false := by simpa using h3
      by_cases h4 : sk = 4
      · have b4 : (sk == 4) = true := by simpa using h4
        have hnew : Hid (chgs (R.steps.take (j + 1)) = P + 12 ∧ Below w5.heap.size w5 we) := ⟨by rw [hcg.out, if_pos (.inr h4)], hde.out⟩
        replace h4 := Lib.hid h4
        replace h3 := Lib.hid h3
        go_wp2_with (first
         | (with_reducible refine wpList_load_at rfl 70 (.tmp 37) rfl Tryz.underlying70 rfl hs rfl hcA.out ?_))
        clear hwe
        go_roundw
        case rel => exact ⟨j + 1, P + 12, by omega, by go_num, by go_num, hnew⟩
        case measure => simp [RowKit.intOf]; omega
      · have b4 : (sk == 4) = false := by simpa using h4
        have hnew : Hid (chgs (R.steps.take (j + 1)) = P + 1 ∧ Below w5.heap.size w5 we) := ⟨by rw [hcg.out, if_neg (fun h => h.elim h3 h4)], hde.out⟩
        replace h4 := Lib.hid h4
        replace h3 := Lib.hid h3
        go_wp2_with (first
         | (with_reducible refine wpList_load_at rfl 70 (.tmp 37) rfl Tryz.underlying70 rfl hs rfl hcA.out ?_))
        clear hwe
        go_roundw
        case rel => exact ⟨j + 1, P + 1, by omega, by go_num, by go_num, hnew⟩
        case measure => simp [RowKit.intOf]; omega
    · obtain rfl : snc = j := by omega
      rename World => wL
      have hPc : Hid (chgs R.steps = P) := by have h1 := hst.out.1; rw [List.take_of_length_le (Nat.le_of_eq hSl.out)] at h1; exact h1
      obtain ⟨M, hM⟩ : ∃ m : Nat, m = min ln (min P 16) := ⟨_, rfl⟩
      have hm1 : min (min (ln : Int) (P : Int)) 16 = (M : Int) := by omega
      have hm2 : min (ln : Int) (min (P : Int) 16) = (M : Int) := by omega
      have hMl : M ≤ ln := by omega
      have hM16 : M ≤ 16 := by omega
      have hMP : M ≤ P := by omega
      replace hM := Lib.hid hM
      have hlc : ln ≤ lc := hl.out.on.le
      have hsl := Lib.hid (fun u => slice_imgs lq ln lc M hMl hlc u)
      have hdr := Lib.hid (hd5.out.trans (hst.out.2.mono hd5.out.size))
      have hbcr := Lib.hid (hbc5.out.below hst.out.2 (Nat.le_refl _))
      have hlr := Lib.hid ((hl.out.front hMl).below hdr.out (Nat.le_refl _))
      have hrng := Lib.hid hon5.out.ints
      have hws : Hid (w5.heap.size ≤ wL.heap.size) := hst.out.2.size
      have hst0 := Lib.hid hst.out.2
      go_upto_region 14 with fail
      go_cut [9] from 52 to 68 (fun v9 wx => ∃ (G : Nat) (iq : Option Addr) (im ic : Nat) (sq : Option Addr) (sc : Nat) (tq : Option Addr) (tc : Nat) (dq : Option Addr) (dc : Nat) (U : List ImgV), v9 = .pointer (some ⟨G, 0, none⟩) ∧ Hid (UF wL wx G ⟨5, L1, txnc, lsnc, nextc, iq, im, ic, sq, 0, sc, 0, tq, 0, tc, dq, 0, dc⟩ U U (((Ll.take M).take 17).map fewI)) ∧ Hid (SlOn wx sq 0 sc ([] : List StepD) ∧ SlOn wx tq 0 tc ([] : List TxnD) ∧ SlOn wx dq 0 dc ([] : List PgD)))
      case first =>
       refine wp_region_held (S := fun u => Below wL.heap.size wL u) (by kernel_rfl) ?_
       change wpAnyH _ _ _ _ _ _ _ _ (World.drew wL)
       have hS0 : Below wL.heap.size wL (World.drew wL) := below_drew wL
       generalize World.drew wL = u0 at hS0 ⊢
       have kc : ∀ {u : World}, Below wL.heap.size wL u → Boxed u w3.heap.size [.int .i64 4, .int .u64 lsnc, .int .i64 txnc, .int .u64 prevc, .int .u64 nextc, .slice iqc imc icc, .slice sqc snc scc, .int .i64 nextTxnc, .slice tqc tnc tcc, .slice dqc dnc dcc] := fun hu => hbcr.out.below hu (Nat.le_refl _)
       have ew1 := ew1.out
       refine tg 0 52 (.pointer (some ⟨w3.heap.size, 1, none⟩)) hS0 ?_; go_frame
       refine held_tk (i := 1) (dst := some 53) (v := .int .u64 lsnc) rfl rfl (.inl ⟨rfl, fun u hu => by have c0 := (kc hu).cell 1 rfl; go_simp⟩) hS0 ?_; go_frame
       refine tg 2 54 (.int .u64 L1) hS0 ?_; go_frame
       refine tg 3 55 (.pointer (some ⟨w3.heap.size, 2, none⟩)) hS0 ?_; go_frame
       refine held_tk (i := 4) (dst := some 56) (v := .int .i64 txnc) rfl rfl (.inl ⟨rfl, fun u hu => by have c0 := (kc hu).cell 2 rfl; go_simp⟩) hS0 ?_; go_frame
       refine tg 5 57 (.pointer (some ⟨w3.heap.size, 1, none⟩)) hS0 ?_; go_frame
       refine held_tk (i := 6) (dst := some 58) (v := .int .u64 lsnc) rfl rfl (.inl ⟨rfl, fun u hu => by have c0 := (kc hu).cell 1 rfl; go_simp⟩) hS0 ?_; go_frame
       refine tg 7 59 (.pointer (some ⟨w3.heap.size, 4, none⟩)) hS0 ?_; go_frame
       refine held_tk (i := 8) (dst := some 60) (v := .int .u64 nextc) rfl rfl (.inl ⟨rfl, fun u hu => by have c0 := (kc hu).cell 4 rfl; go_simp⟩) hS0 ?_; go_frame
       refine tg 9 61 (.slice lq ln lc) hS0 ?_; go_frame
       refine tg 10 62 (.slice lq ln lc) hS0 ?_; go_frame
       refine tg 11 63 (.int .i64 ln) hS0 ?_; go_frame
       refine tg 12 64 (.int .i64 P) hS0 ?_; go_frame
       refine held_tk (i := 13) (dst := some 65) (v := .int .i64 M) rfl rfl (.inl ⟨rfl, fun u hu => by go_simp; (repeat' split) <;> omega⟩) hS0 ?_; go_frame
       refine held_tk (i := 14) (dst := some 66) (v := .slice lq M lc) rfl rfl (.inl ⟨rfl, fun u hu => by have h1 := hsl.out u; go_simp⟩) hS0 ?_; go_frame
       refine tg 15 67 (.agg #[.int .i64 5, .int .u64 L1, .int .i64 txnc, .int .u64 lsnc, .int .u64 nextc, .slice lq M lc, .slice none 0 0, .int .i64 0, .slice none 0 0, .slice none 0 0]) hS0 ?_; go_frame
       have hur : ∀ u, Below wL.heap.size wL u → RecV.On ⟨5, L1, txnc, lsnc, nextc, lq, M, lc, none, 0, 0, 0, none, 0, 0, none, 0, 0⟩ u (Vl.take M) (wideR L1 txnc lsnc nextc (Ll.take M)) := fun u hu => ⟨rfl, rfl, rfl, rfl, rfl, rfl, ⟨(show I64 (5 : Int) from i64_c (by decide)), (show U64 L1 from u64_c (by have h1 := hL1r.out; omega)), by have h1 := hrng.out.2.2.1; rw [← hon5.out.txn] at h1; exact h1, by have h1 := hrng.out.2.1; rw [← hon5.out.lsn] at h1; exact h1, by have h1 := hrng.out.2.2.2.2.1; rw [← hon5.out.next] at h1; exact h1, i64_zero⟩, hlr.out.below hu (Nat.le_refl _), SlOn.none_ _, SlOn.none_ _, SlOn.none_ _, (fun s h => by cases h), (fun s h => by cases h), (fun s h => by cases h)⟩
       have hS1 := Lib.hid hS0
       refine br_two (i := 16) (j := 17) (by kernel_rfl) ?_ ?_
       · refine br_call (i := 16) (dst := some 68) rfl rfl rfl (by go_simp) (few_any ⟨5, L1, txnc, lsnc, nextc, lq, M, lc, none, 0, 0, 0, none, 0, 0, none, 0, 0⟩ (Vl.take M) (wideR L1 txnc lsnc nextc (Ll.take M)) u0 (hur u0 hS1.out)) ?_
         rintro e u1 ⟨⟨kindk, lsnk, txnk, prevk, nextk, iqk, imk, ick, sqk, snk, sck, nextTxnk, tqk, tnk, tck, dqk, dnk, dck⟩, U, rfl, hk1, hk2, hk3, hk4'⟩
         have hS2 := below_step hk4' hS1.out
         refine ⟨_, rfl, hS2, ?_⟩; go_frame
         obtain ⟨u2, hu2⟩ : ∃ y, u1.alloc (.cells zR.toArray 30) = y := ⟨_, rfl⟩
         have hb2 := (one_box (xs := zR) hu2).1
         have hr2 := row_zR hu2
         have hS3 := below_step hb2 hS2
         refine held_value (i := 17) (dst := some 9) (v := .pointer (some ⟨u1.heap.size, 0, none⟩)) (w' := u2) rfl rfl (by kernel_rfl) rfl (by rw [← hu2]; go_simp) hS3 ?_; go_frame
         obtain ⟨G, hG⟩ : ∃ G, u1.heap.size = G := ⟨_, rfl⟩
         rw [hG] at hr2 ⊢
         have hGw : wL.heap.size ≤ G := by have h1 := hS2.size; omega
         have hb12 : ∀ k, k < u1.heap.size → u2.heap[k]? = u1.heap[k]? := hb2.block
         have hszk : (Tryz.prog.info? 30).map (·.size) = some ([.int .i64 kindk, .int .u64 lsnk, .int .i64 txnk, .int .u64 prevk, .int .u64 nextk, .slice iqk imk ick, .slice sqk snk sck, .int .i64 nextTxnk, .slice tqk tnk tck, .slice dqk dnk dck] : List Value).length := sizeRec ⟨kindk, lsnk, txnk, prevk, nextk, iqk, imk, ick, sqk, snk, sck, nextTxnk, tqk, tnk, tck, dqk, dnk, dck⟩
         obtain ⟨u3, st3, rr3, gr3⟩ := run_storeVar_at (o := 0) (vs := [.int .i64 kindk, .int .u64 lsnk, .int .i64 txnk, .int .u64 prevk, .int .u64 nextk, .slice iqk imk ick, .slice sqk snk sck, .int .i64 nextTxnk, .slice tqk tnk tck, .slice dqk dnk dck]) hr2 hszk (Nat.le_refl _) (RecV.one ⟨kindk, lsnk, txnk, prevk, nextk, iqk, imk, ick, sqk, snk, sck, nextTxnk, tqk, tnk, tck, dqk, dnk, dck⟩)
         have r3 : RowV 30 u3 G [.int .i64 kindk, .int .u64 lsnk, .int .i64 txnk, .int .u64 prevk, .int .u64 nextk, .slice iqk imk ick, .slice sqk snk sck, .int .i64 nextTxnk, .slice tqk tnk tck, .slice dqk dnk dck] := rr3
         have hS4 : Below wL.heap.size wL u3 := Gr.below gr3 hS3 hGw
         refine held_skip (i := 18) (dst := none) rfl rfl (by kernel_rfl) rfl (run_store_op (x := .tmp 9) (y := .tmp 68) rfl rfl rfl st3) hS4 ?_; go_frame
         refine wpAnyH_done (by kernel_rfl) ?_ _
         have keep : ∀ k, k < u1.heap.size → u0.heap.size ≤ k → u3.heap[k]? = u1.heap[k]? := fun k h1 h2 => by
          exact (gr3.block k (Nat.lt_of_lt_of_le h1 hb2.size) (fun e => by simp only [Option.some.injEq] at e; omega)).trans (hb12 k h1)
         have on3 := hk1 u3 (fun k h1 h2 => keep k h2 h1)
         have own3 := hk2.onk keep
         have ap3 : ∀ a, iqk = some a → a.block ≠ G := fun a ha => by have h1 := hk2.far a ha; omega
         have hwb : wL.heap.size ≤ u0.heap.size := by first | exact hS1.out.size | exact hS2.size
         obtain rfl : kindk = 5 := on3.kind
         obtain rfl : lsnk = L1 := on3.lsn
         obtain rfl : txnk = txnc := on3.txn
         obtain rfl : prevk = lsnc := on3.prev
         obtain rfl : nextk = nextc := on3.next
         obtain rfl : nextTxnk = 0 := on3.nextTxn
         obtain rfl : 0 = snk := on3.steps.len
         obtain rfl : 0 = tnk := on3.txns.len
         obtain rfl : 0 = dnk := on3.dirty.len
         have hend : Hid (UF wL u3 G ⟨5, lsnk, txnk, prevk, nextk, iqk, imk, ick, sqk, 0, sck, 0, tqk, 0, tck, dqk, 0, dck⟩ U U (((Ll.take M).take 17).map fewI)) := ⟨hS4, r3, hGw, own3.mono hwb, ⟨hk3.len, hk3.ap, on3.images.get, fun v hv => (hk3.far v hv).less hwb⟩, ap3⟩
         have hend2 : Hid (SlOn u3 sqk 0 sck ([] : List StepD) ∧ SlOn u3 tqk 0 tck ([] : List TxnD) ∧ SlOn u3 dqk 0 dck ([] : List PgD)) := ⟨on3.steps, on3.txns, on3.dirty⟩
         clear st3 rr3 gr3 r3 hS4 keep on3 own3 ap3 hk1 hk2 hk3 hk4'
         go_wp2_with fail
         go_meet
         exact ⟨G, iqk, imk, ick, sqk, sck, tqk, tck, dqk, dck, U, rfl, hend, hend2⟩
       · obtain ⟨u1, hu1⟩ : ∃ y, u0.alloc (.cells zR.toArray 30) = y := ⟨_, rfl⟩
         have hb1 := (one_box (xs := zR) hu1).1
         have hr1 := row_zR hu1
         have hS2 := below_step hb1 hS1.out
         refine br_value (i := 17) (dst := some 9) (v := .pointer (some ⟨u0.heap.size, 0, none⟩)) (w' := u1) rfl rfl rfl (by rw [← hu1]; go_simp) ⟨hS2, ?_⟩; go_frame
         obtain ⟨G, hG⟩ : ∃ G, u0.heap.size = G := ⟨_, rfl⟩
         rw [hG] at hr1 ⊢
         have hGw : wL.heap.size ≤ G := by have h1 := hS1.out.size; omega
         refine held_call (i := 16) (dst := some 68) rfl rfl (by kernel_rfl) rfl (by go_simp) (few_any ⟨5, L1, txnc, lsnc, nextc, lq, M, lc, none, 0, 0, 0, none, 0, 0, none, 0, 0⟩ (Vl.take M) (wideR L1 txnc lsnc nextc (Ll.take M)) u1 (hur u1 hS2)) ?_
         rintro e u2 ⟨⟨kindk, lsnk, txnk, prevk, nextk, iqk, imk, ick, sqk, snk, sck, nextTxnk, tqk, tnk, tck, dqk, dnk, dck⟩, U, rfl, hk1, hk2, hk3, hk4'⟩
         have hS3 := below_step hk4' hS2
         refine ⟨_, rfl, hS3, ?_⟩; go_frame
         have hr2 := hr1.below hk4'
         have hGl := hr1.lt
         have hszk : (Tryz.prog.info? 30).map (·.size) = some ([.int .i64 kindk, .int .u64 lsnk, .int .i64 txnk, .int .u64 prevk, .int .u64 nextk, .slice iqk imk ick, .slice sqk snk sck, .int .i64 nextTxnk, .slice tqk tnk tck, .slice dqk dnk dck] : List Value).length := sizeRec ⟨kindk, lsnk, txnk, prevk, nextk, iqk, imk, ick, sqk, snk, sck, nextTxnk, tqk, tnk, tck, dqk, dnk, dck⟩
         obtain ⟨u3, st3, rr3, gr3⟩ := run_storeVar_at (o := 0) (vs := [.int .i64 kindk, .int .u64 lsnk, .int .i64 txnk, .int .u64 prevk, .int .u64 nextk, .slice iqk imk ick, .slice sqk snk sck, .int .i64 nextTxnk, .slice tqk tnk tck, .slice dqk dnk dck]) hr2 hszk (Nat.le_refl _) (RecV.one ⟨kindk, lsnk, txnk, prevk, nextk, iqk, imk, ick, sqk, snk, sck, nextTxnk, tqk, tnk, tck, dqk, dnk, dck⟩)
         have r3 : RowV 30 u3 G [.int .i64 kindk, .int .u64 lsnk, .int .i64 txnk, .int .u64 prevk, .int .u64 nextk, .slice iqk imk ick, .slice sqk snk sck, .int .i64 nextTxnk, .slice tqk tnk tck, .slice dqk dnk dck] := rr3
         have hS4 : Below wL.heap.size wL u3 := Gr.below gr3 hS3 hGw
         refine held_skip (i := 18) (dst := none) rfl rfl (by kernel_rfl) rfl (run_store_op (x := .tmp 9) (y := .tmp 68) rfl rfl rfl st3) hS4 ?_; go_frame
         refine wpAnyH_done (by kernel_rfl) ?_ _
         have keep : ∀ k, k < u2.heap.size → u1.heap.size ≤ k → u3.heap[k]? = u2.heap[k]? := fun k h1 h2 => by
          exact gr3.block k h1 (fun e => by simp only [Option.some.injEq] at e; omega)
         have on3 := hk1 u3 (fun k h1 h2 => keep k h2 h1)
         have own3 := hk2.onk keep
         have ap3 : ∀ a, iqk = some a → a.block ≠ G := fun a ha => by have h1 := hk2.far a ha; omega
         have hwb : wL.heap.size ≤ u1.heap.size := by first | exact hS1.out.size | exact hS2.size
         obtain rfl : kindk = 5 := on3.kind
         obtain rfl : lsnk = L1 := on3.lsn
         obtain rfl : txnk = txnc := on3.txn
         obtain rfl : prevk = lsnc := on3.prev
         obtain rfl : nextk = nextc := on3.next
         obtain rfl : nextTxnk = 0 := on3.nextTxn
         obtain rfl : 0 = snk := on3.steps.len
         obtain rfl : 0 = tnk := on3.txns.len
         obtain rfl : 0 = dnk := on3.dirty.len
         have hend : Hid (UF wL u3 G ⟨5, lsnk, txnk, prevk, nextk, iqk, imk, ick, sqk, 0, sck, 0, tqk, 0, tck, dqk, 0, dck⟩ U U (((Ll.take M).take 17).map fewI)) := ⟨hS4, r3, hGw, own3.mono hwb, ⟨hk3.len, hk3.ap, on3.images.get, fun v hv => (hk3.far v hv).less hwb⟩, ap3⟩
         have hend2 : Hid (SlOn u3 sqk 0 sck ([] : List StepD) ∧ SlOn u3 tqk 0 tck ([] : List TxnD) ∧ SlOn u3 dqk 0 dck ([] : List PgD)) := ⟨on3.steps, on3.txns, on3.dirty⟩
         clear st3 rr3 gr3 r3 hS4 keep on3 own3 ap3 hk1 hk2 hk3 hk4'
         go_wp2_with fail
         go_meet
         exact ⟨G, iqk, imk, ick, sqk, sck, tqk, tck, dqk, dck, U, rfl, hend, hend2⟩
      case rest =>
       obtain ⟨G, iq, im, ic, sq, sc, tq, tc, dq, dc, U, rfl, huf, hs3⟩ := hcut
       obtain ⟨LI, hLI⟩ : ∃ LI, (((Ll.take M).take 17).map fewI) = LI := ⟨_, rfl⟩
       rw [hLI] at huf
       have z5 : wc.cell? ⟨G, 5, none⟩ = some (.slice iq im ic) := huf.out.box.cell 5
       have hUl : Hid (U.length = im) := by have h1 : im = U.length := huf.out.own.len; show _ = _; omega
       have hLl : Hid (LI.length = im) := by have h1 := huf.out.imm.len; have h2 := hUl.out; show _ = _; omega
       have him : im ≤ M := by have h1 := hLl.out; rw [← hLI, List.length_map, List.length_take, List.length_take] at h1; omega
       have h0 : Hid (UF wL wc G ⟨5, L1, txnc, lsnc, nextc, iq, im, ic, sq, 0, sc, 0, tq, 0, tc, dq, 0, dc⟩ (bareV U 0) U LI) := huf.out
       clear hLI
       have hszu : (Tryz.prog.info? 30).map (·.size) = some ([.int .i64 5, .int .u64 L1, .int .i64 txnc, .int .u64 lsnc, .int .u64 nextc, .slice iq im ic, .slice sq 0 sc, .int .i64 0, .slice tq 0 tc, .slice dq 0 dc] : List Value).length := sizeRec ⟨5, L1, txnc, lsnc, nextc, iq, im, ic, sq, 0, sc, 0, tq, 0, tc, dq, 0, dc⟩
       have hszC := sizeCont (.int .i64 0) (.slice none 0 0) (.slice none 0 0)
       have honeC : ∀ x ∈ zC, x.oneCell' = true := one_all rfl
       go_wp2_with fail
       clear z5
       go_loopw [72] (fun v wr => ∃ j : Nat, j ≤ im ∧ v = .int .i64 j ∧ Hid (UF wL wr G ⟨5, L1, txnc, lsnc, nextc, iq, im, ic, sq, 0, sc, 0, tq, 0, tc, dq, 0, dc⟩ (bareV U j) U LI)) (fun v _ => im - (RowKit.intOf v).toNat)
       case atStart => exact ⟨0, Nat.zero_le _, rfl, h0⟩
       case round =>
        obtain ⟨j, hj, rfl, hst⟩ := hrel
        clear h0 huf
        by_cases hlt : j < im
        · obtain ⟨v, hv⟩ : ∃ v, U[j]? = some v := ⟨_, List.getElem?_eq_getElem (by have h1 := hUl.out; omega)⟩
          obtain ⟨hv1, hv2⟩ := bareV_at hv
          obtain ⟨A, hq⟩ : ∃ A, iq = some A := by
           cases hq : iq with
           | none =>
             exfalso
             have h1 := hst.out.own
             simp only [hq] at h1
             have h2 := h1.nil_cap.1
             omega
           | some A => exact ⟨A, rfl⟩
          subst hq
          obtain ⟨g, cur, hA, hgB, hgr, hgn, hgc, hgs, hgt⟩ := hst.out.own.opened
          subst hA
          have hgl : im = (bareV U j).length := hst.out.own.len
          have hgn : im ≤ ic := hgn
          have hgs : cur.length = ic * 7 := hgs
          have i0 : (0 : Int) ≤ j := by omega
          have i1 : (j : Int) < im := by omega
          have hA : (⟨g, 0, none⟩ : Addr).add (j * 7) = ⟨g, j * 7, none⟩ := by unfold Addr.add; split <;> simp_all
          have z5 : wr.cell? ⟨G, 5, none⟩ = some (.slice (some ⟨g, 0, none⟩) im ic) := hst.out.box.cell 5
          have hfit : j * 7 + 1 + zC.length ≤ cur.length := by show j * 7 + 1 + 3 ≤ _; rw [hgs]; show _ ≤ ic * 7; omega
          replace hgr := Lib.hid hgr
          replace hgs := Lib.hid hgs
          replace hgt := Lib.hid hgt
          replace hv1 := Lib.hid hv1
          replace hv2 := Lib.hid hv2
          replace hgl := Lib.hid hgl
          clear hv
          go_wp2_with (first
           | ((with_reducible refine wpList_store_at rfl 55 (.tmp 80) (.tmp 78) rfl (g := g) (o := j * 7 + 1) (vs := zC) rfl rfl hgr.out hszC hfit honeC ?_)
              intro wz h9 hg9
              have rz := Lib.hid h9
              have gz := Lib.hid hg9
              clear h9 hg9))
          have hap := hst.out.apB _ rfl
          have hnew : Hid (UF wL wz G ⟨5, L1, txnc, lsnc, nextc, some ⟨g, 0, none⟩, im, ic, sq, 0, sc, 0, tq, 0, tc, dq, 0, dc⟩ (bareV U (j + 1)) U LI) := by
           refine ⟨hst.out.below.trans (grown_belowN gz.out hst.out.below.size (fun k e => by cases e; exact hgB)), hst.out.box.kept gz.out (fun e => hap e.symm), hst.out.hB, ?_, hst.out.imm.gr gz.out hst.out.imm.ap, hst.out.apB⟩
           rw [← hv2.out]
           exact OwnS.bare hgB hgn hgc hgs.out hgt.out hgl.out.symm hv1.out rz.out
          clear z5
          go_roundw
          case rel => exact ⟨j + 1, by omega, by go_num, hnew⟩
          case measure => simp [RowKit.intOf]; omega
        · obtain rfl : im = j := by omega
          have hbx9 := Lib.hid hst.out.box.boxed
          have hown := hst.out.own
          rw [show bareV U im = U.map bareI from by have h1 := hUl.out; rw [← h1]; exact bareV_all U] at hown
          have hbq := Lib.hid hst.out.below
          have hdq := Lib.hid (hdr.out.trans (hst.out.below.mono hdr.out.size))
          obtain ⟨ud, hud⟩ : ∃ ud, wideR L1 txnc lsnc nextc (bareD' LI) = ud := ⟨_, rfl⟩
          have honu : Hid (RecV.On ⟨5, L1, txnc, lsnc, nextc, iq, im, ic, sq, 0, sc, 0, tq, 0, tc, dq, 0, dc⟩ wr (U.map bareI) ud) := by
           rw [← hud]
           refine ⟨rfl, rfl, rfl, rfl, rfl, rfl, ⟨(show I64 (5 : Int) from i64_c (by decide)), (show U64 L1 from u64_c (by have h1 := hL1r.out; omega)), by have h1 := hrng.out.2.2.1; rw [← hon5.out.txn] at h1; exact h1, by have h1 := hrng.out.2.1; rw [← hon5.out.lsn] at h1; exact h1, by have h1 := hrng.out.2.2.2.2.1; rw [← hon5.out.next] at h1; exact h1, i64_zero⟩, ⟨hown.reads, ?_, fun i v d hv hd => ?_⟩, hs3.out.1.kept (fun h => absurd rfl h), hs3.out.2.1.kept (fun h => absurd rfl h), hs3.out.2.2.kept (fun h => absurd rfl h), (fun s h => by cases h), (fun s h => by cases h), (fun s h => by cases h)⟩
           · show (U.map bareI).length = (bareD' LI).length
             unfold bareD'
             rw [List.length_map, List.length_map, hUl.out, hLl.out]
           · have hd : (bareD' LI)[i]? = some d := hd
             unfold bareD' at hd
             rw [List.getElem?_map] at hv hd
             cases hvi : U[i]? with
             | none => rw [hvi] at hv; cases hv
             | some v0 =>
               cases hxi : LI[i]? with
               | none => rw [hxi] at hd; cases hd
               | some x0 =>
                 rw [hvi] at hv
                 rw [hxi] at hd
                 cases hv
                 cases hd
                 have ho := hst.out.imm.on i v0 x0 hvi hxi
                 exact ⟨ho.page, ho.pok, ⟨rfl, RowsOn.none_ _, KidsOn.none_ _⟩, ho.aft⟩
          have hck2 := checkRec_any ⟨5, L1, txnc, lsnc, nextc, iq, im, ic, sq, 0, sc, 0, tq, 0, tc, dq, 0, dc⟩ (U.map bareI) ud wr honu.out
          obtain ⟨B2, hB2⟩ : ∃ B, mayB ud = B := ⟨_, rfl⟩
          clear hown
          cases B2 with
          | false =>
            rw [show chkRec ud = 220 by unfold chkRec; rw [hB2]; rfl] at hck2
            replace hck2 := Lib.hid hck2
            go_wp2_with (first
             | (with_reducible refine wpList_load_at rfl 30 (.tmp 9) rfl Tryz.underlying30 rfl hszu rfl hbx9.out.all ?_))
            refine hck2.out.mono ?_
            rintro e w9 ⟨rfl, hb9⟩
            have hdE := Lib.hid (hdq.out.trans (hb9.mono hdq.out.size))
            clear hb9
            go_wp2_with fail
            go_ret
            exact ⟨rfl, hdE.out⟩
          | true =>
            rw [show chkRec ud = 0 by unfold chkRec; rw [hB2]; rfl] at hck2
            replace hck2 := Lib.hid hck2
            have hmu := Lib.hid hB2
            clear hB2
            go_wp2_with (first
             | (with_reducible refine wpList_load_at rfl 30 (.tmp 9) rfl Tryz.underlying30 rfl hszu rfl hbx9.out.all ?_))
            refine hck2.out.mono ?_
            clear hck2
            rintro e w9 ⟨rfl, hb9⟩
            have he9 := Lib.hid hb9
            have hbc9 := Lib.hid (hbcr.out.below (below_step hb9 hbq.out) (Nat.le_refl _))
            have hon9 := Lib.hid (hon5.out.below (below_step (below_step hb9 hbq.out) hst0.out) (Nat.le_refl _))
            clear hb9
            go_wp2_with (first
             | (with_reducible refine wpList_load_at rfl 30 (.tmp 5) rfl Tryz.underlying30 rfl hszc rfl hbc9.out.all ?_))
            refine (reserve_any ⟨4, lsnc, txnc, prevc, nextc, iqc, imc, icc, sqc, snc, scc, nextTxnc, tqc, tnc, tcc, dqc, dnc, dcc⟩ Vc R w9 hon9.out).mono ?_
            rintro e w11 ⟨n11, er, rfl, hor, hb11⟩
            rcases hor with ⟨rfl, _, hn11⟩ | ⟨_, hb, _⟩
            rotate_left
            · rw [hm.out] at hb; cases hb
            replace hn11 := Lib.hid hn11
            have he11 := Lib.hid (below_step hb11 he9.out)
            clear hb11
            go_wp2_with (first
             | (with_reducible refine wpList_load_at rfl 30 (.tmp 9) rfl Tryz.underlying30 rfl hszu rfl (hbx9.out.below he11.out (Nat.le_refl _)).all ?_))
            refine (cost_any ⟨5, L1, txnc, lsnc, nextc, iq, im, ic, sq, 0, sc, 0, tq, 0, tc, dq, 0, dc⟩ (U.map bareI) ud w11 (honu.out.below he11.out (Nat.le_refl _))).mono ?_
            rintro e w12 ⟨n12, er, rfl, hor, hb12⟩
            rcases hor with ⟨rfl, _, hn12⟩ | ⟨_, hb, _⟩
            rotate_left
            · rw [hmu.out] at hb; cases hb
            have hle : n12 ≤ n11 := by
             rw [hn12, hn11.out]
             refine wide_cost hk4.out (by rw [← hud]; rfl) (fun d hd => ((may_imgs hmu.out).2 d hd).2) ?_
             rw [hPc.out, ← hud]
             show (bareD' LI).length ≤ _
             unfold bareD'
             rw [List.length_map, hLl.out]
             omega
            have hn1 : 1 ≤ n12 := by have h1 := secs_pos (encRec ud).length; omega
            have hb1 : decide (1 ≤ n12) = true := decide_eq_true hn1
            have hb2 : decide (n12 ≤ n11) = true := decide_eq_true hle
            have hdE := Lib.hid (hdq.out.trans ((below_step hb12 he11.out).mono hdq.out.size))
            clear hb12 hn12 hle hn1
            go_wp2_with fail
            go_ret
            exact ⟨by simp, hdE.out⟩
set_option maxRecDepth 1000000 in
theorem wide_lifted (os : Os) (started : os.Started) (H : Type) (enc : TypeId × Value → H) :
 ReturnsInHanded {} Tryz.checked os 9 .any (Rows.recordWideSpec.pre6 enc Tryz.prog Tryz.f9 Rows.recordWideRow.domain false) (Rows.recordWideSpec.post enc Tryz.prog Tryz.f9 false true false false) := by
 refine returnsInHanded_of_change (C := Tryz.checked) own started (by kernel_rfl) Tryz.func9
  (ChangeSpec.witness6 (enc := enc) (C := Tryz.checked) false ⟨#[], #[.agg #[.int .i64 0, .int .u64 0, .int .i64 0, .int .u64 0, .int .u64 0, .slice none 0 0, .slice none 0 0, .int .i64 0, .slice none 0 0, .slice none 0 0], .slice none 0 0], []⟩ 8 (by kernel_rfl) (by kernel_rfl) (by kernel_rfl) (by kernel_rfl)) ?_
 intro W base args ds gs before hval0 hW _ _
 have hval : ∀ (j : Nat) t v, Tryz.f9.params[j]? = some t → args[j]? = some v → Value.okWide Tryz.prog W .any base t v := hval0
 have hW' := hW
 obtain ⟨p, q, hA0, hV, rfl, _, _⟩ := hW
 have hA : DataW.TrodAll enc Tryz.prog W 0 (fun _ => true) true Tryz.f9.params.toList args.toList ds p := hA0
 rw [Tryz.params9] at hA hval
 obtain ⟨v0, v1, d0, d1, p0, p1, rfl, rfl, rfl, h0, h1⟩ := trodAll_two hA
 obtain ⟨rfl, rfl⟩ := trodVars_none hV
 obtain ⟨x0, y0, z0, rfl, hc0⟩ := open_rec (hval 0 30 v0 rfl rfl) h0
 obtain ⟨a1, len1, cap1, rfl⟩ := okWide_slice Tryz.underlying25 (hval 1 25 v1 rfl rfl)
 obtain ⟨V1, L1, hl1⟩ := open_imgs h1
 refine (wide_law x0 y0 z0 a1 len1 cap1 V1 L1 W hc0 hl1).mono fun e W' ⟨he, hb⟩ => ?_
 subst he
 exact ⟨_, rfl, law_post laidOut (of_decide_eq_true (by kernel_rfl)) rfl (by kernel_rfl) Tryz.underlying4 hW' ⟨rfl, rfl, rfl⟩ hb⟩
set_option maxRecDepth 1000000 in
theorem wide_holds : Rows.RecordWideSaid :=
 OpenClaim.holds_of_wide 9 Tryz.f9 rfl rfl rfl rfl rfl rfl rfl ⟨rfl, rfl, rfl, rfl, rfl⟩ rfl rfl rfl rfl rfl (by kernel_rfl) Tryz.func9 (by kernel_rfl)
  (of_decide_eq_true (by kernel_rfl)) (by unfold Func.isWrapper; first | (rw [if_pos (by decide +kernel)]; kernel_rfl) | (rw [if_neg (by decide +kernel)]; exact ⟨rfl, rfl⟩))
  (fun os started H enc _ => wide_lifted os started H enc)
end Go.Proofs.YtocekhckmpkbmaaGreat
