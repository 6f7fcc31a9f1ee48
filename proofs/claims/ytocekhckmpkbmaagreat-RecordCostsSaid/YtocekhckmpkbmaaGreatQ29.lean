/- What undoing a record costs: undone, befores, changes, Reserve. -/
import Derived.Test.YtocekhckmpkbmaaGreatQ21
import Derived.Test.YtocekhckmpkbmaaGreatQ25
import Derived.Test.YtocekhckmpkbmaaGreatQ01
namespace Go.Proofs.YtocekhckmpkbmaaGreat
open Go.RowKit
def undD (r : RecD) (L : List ImgD) : RecD := ⟨5, r.lsn, r.txn, r.prev, 0, L, [], 0, [], []⟩
def befD (d : ImgD) : ImgD := ⟨d.page, zeroC, d.bef⟩
def befV (v : ImgV) : ImgV := ⟨v.page, ⟨0, none, 0, 0, none, 0, 0⟩, v.bef⟩
def chg (s : StepD) : Nat := if s.kind = 1 then 1 else if s.kind = 2 then 1 else if s.kind = 3 then 12 else if s.kind = 4 then 12 else 0
def chgs (L : List StepD) : Nat := (L.map chg).sum
theorem chgs_step {L : List StepD} {j : Nat} {s : StepD} (h : L[j]? = some s) : chgs (L.take (j + 1)) = chgs (L.take j) + chg s := by
 unfold chgs; rw [List.take_add_one, h]; simp
set_option maxRecDepth 100000 in
set_option maxHeartbeats 4000000 in
theorem undone_any (v : RecV) (q : Option Addr) (m c : Nat) (w : World) :
 Calls Tryz.prog 50 #[v.val, .slice q m c] w (fun e w' => e = .returned (RecV.val ⟨5, v.lsn, v.txn, v.prev, 0, q, m, c, none, 0, 0, 0, none, 0, 0, none, 0, 0⟩) ∧ Below w.heap.size w w') := by
 obtain ⟨kind, lsn, txn, prev, next, iq, im, ic, sq, sn, sc, nextTxn, tq, tn, tc, dq, dn, dc⟩ := v; obtain ⟨W, hW⟩ : ∃ W, (w.alloc (.cells #[.int .i64 kind, .int .u64 lsn, .int .i64 txn, .int .u64 prev, .int .u64 next, .slice iq im ic, .slice sq sn sc, .int .i64 nextTxn, .slice tq tn tc, .slice dq dn dc] 30)).alloc (.cells #[.int .i64 0, .int .u64 0, .int .i64 0, .int .u64 0, .int .u64 0, .slice none 0 0, .slice none 0 0, .int .i64 0, .slice none 0 0, .slice none 0 0] 30) = W := ⟨_, rfl⟩; have hbx := lh (two_boxes (xs := [.int .i64 kind, .int .u64 lsn, .int .i64 txn, .int .u64 prev, .int .u64 next, .slice iq im ic, .slice sq sn sc, .int .i64 nextTxn, .slice tq tn tc, .slice dq dn dc]) (ys := [.int .i64 0, .int .u64 0, .int .i64 0, .int .u64 0, .int .u64 0, .slice none 0 0, .slice none 0 0, .int .i64 0, .slice none 0 0, .slice none 0 0]) hW)
 have q0 : Hid (RowV 30 W (w.heap.size + 1) [.int .i64 0, .int .u64 0, .int .i64 0, .int .u64 0, .int .u64 0, .slice none 0 0, .slice none 0 0, .int .i64 0, .slice none 0 0, .slice none 0 0]) := by
  have h1 := RowV.made (T := 30) (w.alloc (.cells #[.int .i64 kind, .int .u64 lsn, .int .i64 txn, .int .u64 prev, .int .u64 next, .slice iq im ic, .slice sq sn sc, .int .i64 nextTxn, .slice tq tn tc, .slice dq dn dc] 30)) [.int .i64 0, .int .u64 0, .int .i64 0, .int .u64 0, .int .u64 0, .slice none 0 0, .slice none 0 0, .int .i64 0, .slice none 0 0, .slice none 0 0]; show RowV _ _ _ _; rw [← hW]; simpa using h1
 have z1 := hbx.out.2.1.cell 1 rfl; have z2 := hbx.out.2.1.cell 2 rfl; have z3 := hbx.out.2.1.cell 3 rfl; have hzv : (Tryz.prog.info? 30).map (·.size) = some ([.int .i64 5, .int .u64 lsn, .int .i64 txn, .int .u64 prev, .int .u64 0, .slice q m c, .slice none 0 0, .int .i64 0, .slice none 0 0, .slice none 0 0] : List Value).length := sizeRec ⟨5, lsn, txn, prev, 0, q, m, c, none, 0, 0, 0, none, 0, 0, none, 0, 0⟩; have hone : ∀ x ∈ ([.int .i64 5, .int .u64 lsn, .int .i64 txn, .int .u64 prev, .int .u64 0, .slice q m c, .slice none 0 0, .int .i64 0, .slice none 0 0, .slice none 0 0] : List Value), x.oneCell' = true := one_l rfl; show Calls _ _ #[.agg #[.int .i64 kind, .int .u64 lsn, .int .i64 txn, .int .u64 prev, .int .u64 next, .slice iq im ic, .slice sq sn sc, .int .i64 nextTxn, .slice tq tn tc, .slice dq dn dc], .slice q m c] _ _
 go_enter Tryz.func50, Tryz.ntmps50
 go_wp2_with (first
  | ((with_reducible refine wpList_store_at rfl 30 (.tmp 4) (.tmp 12) rfl (o := 0) (vs := [.int .i64 5, .int .u64 lsn, .int .i64 txn, .int .u64 prev, .int .u64 0, .slice q m c, .slice none 0 0, .int .i64 0, .slice none 0 0, .slice none 0 0]) rfl rfl q0.out hzv (Nat.le_refl _) hone ?_)
     intro wz h9 hg9; have rz : Hid (RowV 30 wz (w.heap.size + 1) [.int .i64 5, .int .u64 lsn, .int .i64 txn, .int .u64 prev, .int .u64 0, .slice q m c, .slice none 0 0, .int .i64 0, .slice none 0 0, .slice none 0 0]) := h9; have gz := lh hg9
     clear h9 hg9 hW))
 have m0 := rz.out.cell 0; have m1 := rz.out.cell 1; have m2 := rz.out.cell 2; have m3 := rz.out.cell 3; have m4 := rz.out.cell 4; have m5 := rz.out.cell 5; have m6 := rz.out.cell 6; have m7 := rz.out.cell 7; have m8 := rz.out.cell 8; have m9 := rz.out.cell 9; refine bodyPost_ret (v := .agg #[.int .i64 5, .int .u64 lsn, .int .i64 txn, .int .u64 prev, .int .u64 0, .slice q m c, .slice none 0 0, .int .i64 0, .slice none 0 0, .slice none 0 0]) (by simp [results, Tryz.results50, go_sem, m0, m1, m2, m3, m4, m5, m6, m7, m8, m9]) rfl ?_; exact ⟨rfl, Gr.below gz.out hbx.out.1 (by omega)⟩
set_option maxRecDepth 100000 in
set_option maxHeartbeats 8000000 in
theorem befores_any (q : Option Addr) (n c : Nat) (V : List ImgV) (L : List ImgD) (w : World) (h : ImgsOn w q n c V L) (hn : n ≤ 16) :
 Calls Tryz.prog 51 #[.slice q n c] w (fun e w' => ∃ q' m c', e = .returned (.slice q' m c') ∧ ImgsOn w' q' m c' (V.map befV) (L.map befD) ∧ Below w.heap.size w w') := by
 have hh := lh h; have hN := lh hn; have hVl : Hid (V.length = n) := h.on.len; have hLl : Hid (L.length = n) := by have h1 := h.len; have h2 := h.on.len; show L.length = n; omega
 clear h
 go_enter Tryz.func51, Tryz.ntmps51
 have h0 : Hid (Below w.heap.size w w ∧ OwnS 62 w w.heap.size (.slice none 0 0) ((V.take 0).map befV)) := ⟨Below.refl _ _, OwnS.nil _ _ _⟩; go_wp2
 go_loopw [8, 3] (fun v8 v3 wr => ∃ (j : Nat) (q' : Option Addr) (c' : Nat), j ≤ n ∧ v8 = .int .i64 j ∧ v3 = .slice q' j c' ∧ Hid (Below w.heap.size w wr ∧ OwnS 62 wr w.heap.size (.slice q' j c') ((V.take j).map befV))) (fun v8 _ _ => n - (RowKit.intOf v8).toNat)
 case atStart => exact ⟨0, none, 0, Nat.zero_le _, rfl, rfl, h0⟩
 case round =>
  obtain ⟨j, q', c', hj, rfl, rfl, hst⟩ := hrel; clear h0
  by_cases hlt : j < n
  · obtain ⟨A, ⟨p, ⟨k1, q1, n1, c1, q2, n2, c2⟩, ⟨k3, q3, n3, c3, q4, n4, c4⟩⟩, d, hqA, hx, hdx, hon, hcA⟩ := (hh.out.below hst.out.1 (Nat.le_refl _)).at hlt
    subst hqA; have hcA : Hid (∀ j' x, ([.int .i64 p, .int .i64 k1, .slice q1 n1 c1, .slice q2 n2 c2, .int .i64 k3, .slice q3 n3 c3, .slice q4 n4 c4] : List Value)[j']? = some x → wr.cell? ((A.add (j * 7)).add j') = some x) := hcA; have hs : (Tryz.prog.info? 62).map (·.size) = some ([.int .i64 p, .int .i64 k1, .slice q1 n1 c1, .slice q2 n2 c2, .int .i64 k3, .slice q3 n3 c3, .slice q4 n4 c4] : List Value).length := sizeImg ⟨p, ⟨k1, q1, n1, c1, q2, n2, c2⟩, ⟨k3, q3, n3, c3, q4, n4, c4⟩⟩; have hx := lh hx; have i0 : (0 : Int) ≤ j := by omega
    have i1 : (j : Int) < n := by omega
    have hd := lh hst.out.1; have hown := lh hst.out.2; clear hdx hon hst; obtain ⟨we, hwe⟩ : ∃ x, wr.alloc (.cells #[.int .i64 p, .int .i64 k1, .slice q1 n1 c1, .slice q2 n2 c2, .int .i64 k3, .slice q3 n3 c3, .slice q4 n4 c4] 62) = x := ⟨_, rfl⟩; have hbk := lh (one_box (xs := [.int .i64 p, .int .i64 k1, .slice q1 n1 c1, .slice q2 n2 c2, .int .i64 k3, .slice q3 n3 c3, .slice q4 n4 c4]) hwe); have d0 := hbk.out.2.1.cell 0 rfl
    have f1 := lh (Boxed.part hbk.out.2.1 (o := 1) (ys := [.int .i64 k1, .slice q1 n1 c1, .slice q2 n2 c2]) (fun j' x hj => by
     match j', hj with
     | 0, hj => exact hj
     | 1, hj => exact hj
     | 2, hj => exact hj
     | j' + 3, hj => simp at hj))
    have z1 := sizeCont (.int .i64 k1) (.slice q1 n1 c1) (.slice q2 n2 c2); obtain ⟨w3, hw3⟩ : ∃ y, we.alloc (.cells #[.int .i64 p, .int .i64 0, .slice none 0 0, .slice none 0 0, .int .i64 k1, .slice q1 n1 c1, .slice q2 n2 c2] 62) = y := ⟨_, rfl⟩; have hb3 : Hid (Below we.heap.size we w3) := by rw [← hw3]; exact (Below.refl _ _).alloc (Nat.le_refl _) _
    have hro3 : RowV 62 w3 we.heap.size (Cel.cells (befV ⟨p, ⟨k1, q1, n1, c1, q2, n2, c2⟩, ⟨k3, q3, n3, c3, q4, n4, c4⟩⟩)) := by rw [← hw3]; exact RowV.made we _
    have hsl3 := lh (OwnS.single hro3).reads; have hown3 := lh ((hown.out.below hbk.out.1).below hb3.out); have hw3s : Hid (w.heap.size ≤ w3.heap.size) := by have h1 := hd.out.size; have h2 := hbk.out.1.size; have h3 := hb3.out.size; show _ ≤ _; omega
    have hq' : Hid (∀ k, q'.map (·.block) = some k → w.heap.size ≤ k) := fun k e => by
     cases q' with
     | none => cases e
     | some a => have h1 := hown.out.far a rfl; have e : a.block = k := by simpa using e
                 omega
    clear hro3
    go_wp2_with (first
     | (with_reducible refine wpList_load_at rfl 62 (.tmp 10) rfl Tryz.underlying62 rfl hs rfl hcA.out ?_)
     | (with_reducible refine wpList_load_at rfl 55 (.tmp 15) rfl Tryz.underlying55 rfl z1 rfl f1.out ?_)
     | (at_builtin
        refine wpList_append_l Tryz.underlying25 infoImg rfl rfl (.tmp 12) (.tmp 18) rfl rfl rfl hown3.out hsl3.out (by omega) (by omega) hw3s.out ?_; intro q4' c4' w4 h4 hg4 hat; have h4 := lh h4; have hg4 := lh hg4
        clear hat))
    have hd4 : Hid (Below w.heap.size w w4) := (hd.out.trans ((hbk.out.1.trans (hb3.out.mono hbk.out.1.size)).mono hd.out.size)).trans (grown_belowN hg4.out hw3s.out hq'.out)
    have h5 : Hid (OwnS 62 w4 w.heap.size (.slice q4' (j + 1) c4') ((V.take (j + 1)).map befV)) := by
     have h1 := h4.out; rw [List.take_add_one, hx.out, List.map_append]; exact h1
    clear hwe hw3
    go_roundw
    case rel => exact ⟨j + 1, q4', c4', by omega, by go_num, rfl, hd4.out, h5.out⟩
    case measure => simp [RowKit.intOf]; omega
  · obtain rfl : n = j := by omega
    go_wp2; go_ret; have hd := hst.out.1; have hown := hst.out.2; rw [List.take_of_length_le (by have h1 := hVl.out; omega)] at hown; refine ⟨q', _, c', rfl, ⟨hown.reads, by rw [List.length_map, List.length_map, hVl.out, hLl.out], fun i v x hv hx => ?_⟩, hd⟩; rw [List.getElem?_map] at hv hx
    cases hvi : V[i]? with
    | none => rw [hvi] at hv; cases hv
    | some v0 =>
      cases hxi : L[i]? with
      | none => rw [hxi] at hx; cases hx
      | some x0 =>
        rw [hvi] at hv; rw [hxi] at hx
        cases hv
        cases hx
        have hon := (hh.out.get i v0 x0 hvi hxi).below hd (Nat.le_refl _); exact ⟨hon.page, hon.pok, ⟨rfl, RowsOn.none_ _, KidsOn.none_ _⟩, hon.bef⟩
set_option maxRecDepth 100000 in
set_option maxHeartbeats 8000000 in
theorem changes_any (q : Option Addr) (n c : Nat) (L : List StepD) (w : World) (h : SlOn w q n c L) (hn : n ≤ 1000) :
 Calls Tryz.prog 52 #[.slice q n c] w (fun e w' => e = .returned (.int .i64 ((min (chgs L) 16 : Nat) : Int)) ∧ Below w.heap.size w w') := by
 have hh := lh h; have hl : Hid (L.length = n) := h.len; clear h
 go_enter Tryz.func52, Tryz.ntmps52
 have h0 : Hid (Below w.heap.size w w) := Below.refl _ _; go_wp2
 go_loopw [8, 3] (fun v8 v3 wr => ∃ (j N : Nat), j ≤ n ∧ v8 = .int .i64 j ∧ v3 = .int .i64 N ∧ N ≤ 12 * j ∧ Hid (chgs (L.take j) = N) ∧ Hid (Below w.heap.size w wr)) (fun v8 _ _ => n - (RowKit.intOf v8).toNat)
 case atStart => exact ⟨0, 0, Nat.zero_le _, rfl, rfl, Nat.le_refl _, rfl, h0⟩
 case round =>
  obtain ⟨j, N, hj, rfl, rfl, hNb, hN, hst⟩ := hrel; clear h0
  by_cases hlt : j < n
  · obtain ⟨A, ⟨kd, ⟨⟨t, id⟩, v, s⟩, by_⟩, hqA, hdx, hcA⟩ := (hh.out.below hst.out (Nat.le_refl _)).at hlt
    subst hqA; have hcA : Hid (∀ j' x, ([.int .i64 kd, .int .i64 t, .int .u16 id, .int .i64 v, .string s, .int .i64 by_] : List Value)[j']? = some x → wr.cell? ((A.add (j * 6)).add j') = some x) := hcA; have hs : (Tryz.prog.info? 70).map (·.size) = some ([.int .i64 kd, .int .i64 t, .int .u16 id, .int .i64 v, .string s, .int .i64 by_] : List Value).length := sizeStep ⟨kd, ⟨⟨t, id⟩, v, s⟩, by_⟩; have hstep : Hid (chgs (L.take (j + 1)) = N + chg ⟨kd, ⟨⟨t, id⟩, v, s⟩, by_⟩) := by show _ = _; rw [chgs_step hdx, hN.out]
    have i0 : (0 : Int) ≤ j := by omega
    have i1 : (j : Int) < n := by omega
    clear hdx; obtain ⟨we, hwe⟩ : ∃ x, wr.alloc (.cells #[.int .i64 kd, .int .i64 t, .int .u16 id, .int .i64 v, .string s, .int .i64 by_] 70) = x := ⟨_, rfl⟩; have hbk := lh (one_box (xs := [.int .i64 kd, .int .i64 t, .int .u16 id, .int .i64 v, .string s, .int .i64 by_]) hwe); have hd := lh (hst.out.trans (hbk.out.1.mono hst.out.size)); have d0 := hbk.out.2.1.cell 0 rfl
    by_cases e1 : kd = 1
    · subst e1
      go_wp2_with (first
       | (with_reducible refine wpList_load_at rfl 70 (.tmp 10) rfl Tryz.underlying70 rfl hs rfl hcA.out ?_))
      go_roundw
      case rel => exact ⟨j + 1, N + 1, by omega, by go_num, by go_num, by omega, by have h1 := hstep.out; exact h1, hd⟩
      case measure => simp [RowKit.intOf]; omega
    by_cases e2 : kd = 2
    · subst e2
      go_wp2_with (first
       | (with_reducible refine wpList_load_at rfl 70 (.tmp 10) rfl Tryz.underlying70 rfl hs rfl hcA.out ?_))
      go_roundw
      case rel => exact ⟨j + 1, N + 1, by omega, by go_num, by go_num, by omega, by have h1 := hstep.out; exact h1, hd⟩
      case measure => simp [RowKit.intOf]; omega
    by_cases e3 : kd = 3
    · subst e3
      go_wp2_with (first
       | (with_reducible refine wpList_load_at rfl 70 (.tmp 10) rfl Tryz.underlying70 rfl hs rfl hcA.out ?_))
      go_roundw
      case rel => exact ⟨j + 1, N + 12, by omega, by go_num, by go_num, by omega, by have h1 := hstep.out; exact h1, hd⟩
      case measure => simp [RowKit.intOf]; omega
    by_cases e4 : kd = 4
    · subst e4
      go_wp2_with (first
       | (with_reducible refine wpList_load_at rfl 70 (.tmp 10) rfl Tryz.underlying70 rfl hs rfl hcA.out ?_))
      go_roundw
      case rel => exact ⟨j + 1, N + 12, by omega, by go_num, by go_num, by omega, by have h1 := hstep.out; exact h1, hd⟩
      case measure => simp [RowKit.intOf]; omega
    have n1 : (kd == 1) = false := by simpa using e1
    have n2 : (kd == 2) = false := by simpa using e2
    have n3 : (kd == 3) = false := by simpa using e3
    have n4 : (kd == 4) = false := by simpa using e4
    go_wp2_with (first
     | (with_reducible refine wpList_load_at rfl 70 (.tmp 10) rfl Tryz.underlying70 rfl hs rfl hcA.out ?_))
    go_roundw
    case rel => exact ⟨j + 1, N + 0, by omega, by go_num, by go_num, by omega, by have h1 := hstep.out; unfold chg at h1; simp only at h1; rw [if_neg e1, if_neg e2, if_neg e3, if_neg e4] at h1; exact h1, hd⟩
    case measure => simp [RowKit.intOf]; omega
  · obtain rfl : n = j := by omega
    have hall : L.take n = L := List.take_of_length_le (by have h1 := hl.out; omega); rw [hall] at hN; go_wp2; go_ret; exact ⟨congrArg (fun z : Int => Ending.returned (.int .i64 z)) (by rw [hN.out]; omega), hst.out⟩
noncomputable def resN (r : RecD) : Int :=
 if r.kind = 1 then 2
 else if r.kind = 2 then (secs (encRec (undD r (r.images.map befD))).length : Int)
 else if r.kind = 4 then (secs ((encRec (undD r [])).length + min (chgs r.steps) 16 * 83) : Int)
 else 0
def ResPost (r : RecD) (w : World) (e : Ending) (w' : World) : Prop := ∃ n er, e = .returned (.tuple #[.int .i64 n, .int .i64 er]) ∧ ((er = 0 ∧ mayB r = true ∧ n = resN r) ∨ (er = 220 ∧ mayB r = false ∧ n = 0)) ∧ Below w.heap.size w w'
theorem und_lay {r : RecD} {L : List ImgD} (h : ∀ d ∈ L, GoodC d.aft) (h2 : L.length ≤ 16) : LayOk (undD r L) := by
 unfold LayOk undD; simp only [Int.reduceEq, if_false, if_true]; exact ⟨h, h2⟩
theorem und_on {v : RecV} {V : List ImgV} {r : RecD} {w : World} {q : Option Addr} {m c : Nat} {V' : List ImgV} {L : List ImgD} (h : v.On w V r) (hi : ImgsOn w q m c V' L) : RecV.On ⟨5, v.lsn, v.txn, v.prev, 0, q, m, c, none, 0, 0, 0, none, 0, 0, none, 0, 0⟩ w V' (undD r L) :=
 ⟨rfl, h.lsn, h.txn, h.prev, rfl, rfl, ⟨by unfold I64 undD; simp only; omega, h.ints.2.1, h.ints.2.2.1, h.ints.2.2.2.1, u64_zero, i64_zero⟩, hi, SlOn.none_ _, SlOn.none_ _, SlOn.none_ _, (fun s h => by cases h), (fun s h => by cases h), (fun s h => by cases h)⟩
set_option maxRecDepth 100000 in
set_option maxHeartbeats 8000000 in
theorem reserveBad (kind lsn txn prev next nextTxn : Int) (iq sq tq dq : Option Addr) (im ic sn sc tn tc dn dc : Nat) (V : List ImgV) (r : RecD) (w : World) (h : RecV.On ⟨kind, lsn, txn, prev, next, iq, im, ic, sq, sn, sc, nextTxn, tq, tn, tc, dq, dn, dc⟩ w V r) (hb : mayB r = false) :
 Calls Tryz.prog 22 #[.agg #[.int .i64 kind, .int .u64 lsn, .int .i64 txn, .int .u64 prev, .int .u64 next, .slice iq im ic, .slice sq sn sc, .int .i64 nextTxn, .slice tq tn tc, .slice dq dn dc]] w (ResPost r w) := by
 obtain ⟨W, hW⟩ : ∃ W, w.alloc (.cells #[.int .i64 kind, .int .u64 lsn, .int .i64 txn, .int .u64 prev, .int .u64 next, .slice iq im ic, .slice sq sn sc, .int .i64 nextTxn, .slice tq tn tc, .slice dq dn dc] 30) = W := ⟨_, rfl⟩; have hbx := lh (one_box (xs := [.int .i64 kind, .int .u64 lsn, .int .i64 txn, .int .u64 prev, .int .u64 next, .slice iq im ic, .slice sq sn sc, .int .i64 nextTxn, .slice tq tn tc, .slice dq dn dc]) hW); have o1 := lh (h.below hbx.out.1 (Nat.le_refl _)); have zr : (Tryz.prog.info? 30).map (·.size) = some ([.int .i64 kind, .int .u64 lsn, .int .i64 txn, .int .u64 prev, .int .u64 next, .slice iq im ic, .slice sq sn sc, .int .i64 nextTxn, .slice tq tn tc, .slice dq dn dc] : List Value).length := sizeRec ⟨kind, lsn, txn, prev, next, iq, im, ic, sq, sn, sc, nextTxn, tq, tn, tc, dq, dn, dc⟩; have hm := checkRec_any ⟨kind, lsn, txn, prev, next, iq, im, ic, sq, sn, sc, nextTxn, tq, tn, tc, dq, dn, dc⟩ V r W o1.out
 unfold chkRec at hm; rw [hb] at hm; simp only [Bool.false_eq_true, if_false] at hm; have hm := lh hm; have hkr : Hid (r.kind = kind) := h.kind.symm; have hb' := lh hb; clear h hb; show Calls _ _ #[.agg #[.int .i64 kind, .int .u64 lsn, .int .i64 txn, .int .u64 prev, .int .u64 next, .slice iq im ic, .slice sq sn sc, .int .i64 nextTxn, .slice tq tn tc, .slice dq dn dc]] _ _
 go_enter Tryz.func22, Tryz.ntmps22
 go_wp2_with (first
  | (with_reducible refine wpList_load_at rfl 30 (.tmp 1) rfl Tryz.underlying30 rfl zr rfl hbx.out.2.1.all ?_))
 clear hW; refine hm.out.mono ?_; clear hm; rintro e w1 ⟨rfl, hb⟩; have hb1 := lh hb; have hd := lh (hbx.out.1.trans (hb.mono hbx.out.1.size)); clear hb; go_wp2
 go_ret2
 exact ⟨0, 220, rfl, .inr ⟨rfl, hb'.out, rfl⟩, hd.out⟩
set_option maxRecDepth 100000 in
set_option maxHeartbeats 8000000 in
theorem reserveN (kind lsn txn prev next nextTxn : Int) (iq sq tq dq : Option Addr) (im ic sn sc tn tc dn dc : Nat) (V : List ImgV) (r : RecD) (w : World) (h : RecV.On ⟨kind, lsn, txn, prev, next, iq, im, ic, sq, sn, sc, nextTxn, tq, tn, tc, dq, dn, dc⟩ w V r) (hb : mayB r = true) (n1 : kind ≠ 1) (n2 : kind ≠ 2) (n4 : kind ≠ 4) :
 Calls Tryz.prog 22 #[.agg #[.int .i64 kind, .int .u64 lsn, .int .i64 txn, .int .u64 prev, .int .u64 next, .slice iq im ic, .slice sq sn sc, .int .i64 nextTxn, .slice tq tn tc, .slice dq dn dc]] w (ResPost r w) := by
 obtain ⟨W, hW⟩ : ∃ W, w.alloc (.cells #[.int .i64 kind, .int .u64 lsn, .int .i64 txn, .int .u64 prev, .int .u64 next, .slice iq im ic, .slice sq sn sc, .int .i64 nextTxn, .slice tq tn tc, .slice dq dn dc] 30) = W := ⟨_, rfl⟩; have hbx := lh (one_box (xs := [.int .i64 kind, .int .u64 lsn, .int .i64 txn, .int .u64 prev, .int .u64 next, .slice iq im ic, .slice sq sn sc, .int .i64 nextTxn, .slice tq tn tc, .slice dq dn dc]) hW); have o1 := lh (h.below hbx.out.1 (Nat.le_refl _)); have zr : (Tryz.prog.info? 30).map (·.size) = some ([.int .i64 kind, .int .u64 lsn, .int .i64 txn, .int .u64 prev, .int .u64 next, .slice iq im ic, .slice sq sn sc, .int .i64 nextTxn, .slice tq tn tc, .slice dq dn dc] : List Value).length := sizeRec ⟨kind, lsn, txn, prev, next, iq, im, ic, sq, sn, sc, nextTxn, tq, tn, tc, dq, dn, dc⟩; have hm := checkRec_any ⟨kind, lsn, txn, prev, next, iq, im, ic, sq, sn, sc, nextTxn, tq, tn, tc, dq, dn, dc⟩ V r W o1.out
 unfold chkRec at hm; rw [hb] at hm; simp only [if_true] at hm; have hm := lh hm; have hkr : Hid (r.kind = kind) := h.kind.symm; have hb' := lh hb; have m1 : (kind == 1) = false := by simpa using n1
 have m2 : (kind == 2) = false := by simpa using n2
 have m4 : (kind == 4) = false := by simpa using n4
 have hres : Hid (resN r = 0) := by show _ = _; unfold resN; rw [hkr.out, if_neg n1, if_neg n2, if_neg n4]
 clear n1 n2 n4; clear h hb; show Calls _ _ #[.agg #[.int .i64 kind, .int .u64 lsn, .int .i64 txn, .int .u64 prev, .int .u64 next, .slice iq im ic, .slice sq sn sc, .int .i64 nextTxn, .slice tq tn tc, .slice dq dn dc]] _ _
 go_enter Tryz.func22, Tryz.ntmps22
 go_wp2_with (first
  | (with_reducible refine wpList_load_at rfl 30 (.tmp 1) rfl Tryz.underlying30 rfl zr rfl hbx.out.2.1.all ?_))
 clear hW; refine hm.out.mono ?_; clear hm; rintro e w1 ⟨rfl, hb⟩; have hb1 := lh hb; have hd := lh (hbx.out.1.trans (hb.mono hbx.out.1.size)); clear hb; have z0 := (hbx.out.2.1.below hb1.out (Nat.le_refl _)).cell 0 rfl; go_wp2
 go_ret2
 exact ⟨0, 0, rfl, .inl ⟨rfl, hb'.out, hres.out.symm⟩, hd.out⟩
set_option maxRecDepth 100000 in
set_option maxHeartbeats 8000000 in
theorem reserve1 (lsn txn prev next nextTxn : Int) (iq sq tq dq : Option Addr) (im ic sn sc tn tc dn dc : Nat) (V : List ImgV) (r : RecD) (w : World) (h : RecV.On ⟨1, lsn, txn, prev, next, iq, im, ic, sq, sn, sc, nextTxn, tq, tn, tc, dq, dn, dc⟩ w V r) (hb : mayB r = true) :
 Calls Tryz.prog 22 #[.agg #[.int .i64 1, .int .u64 lsn, .int .i64 txn, .int .u64 prev, .int .u64 next, .slice iq im ic, .slice sq sn sc, .int .i64 nextTxn, .slice tq tn tc, .slice dq dn dc]] w (ResPost r w) := by
 obtain ⟨W, hW⟩ : ∃ W, w.alloc (.cells #[.int .i64 1, .int .u64 lsn, .int .i64 txn, .int .u64 prev, .int .u64 next, .slice iq im ic, .slice sq sn sc, .int .i64 nextTxn, .slice tq tn tc, .slice dq dn dc] 30) = W := ⟨_, rfl⟩; have hbx := lh (one_box (xs := [.int .i64 1, .int .u64 lsn, .int .i64 txn, .int .u64 prev, .int .u64 next, .slice iq im ic, .slice sq sn sc, .int .i64 nextTxn, .slice tq tn tc, .slice dq dn dc]) hW); have o1 := lh (h.below hbx.out.1 (Nat.le_refl _)); have zr : (Tryz.prog.info? 30).map (·.size) = some ([.int .i64 1, .int .u64 lsn, .int .i64 txn, .int .u64 prev, .int .u64 next, .slice iq im ic, .slice sq sn sc, .int .i64 nextTxn, .slice tq tn tc, .slice dq dn dc] : List Value).length := sizeRec ⟨1, lsn, txn, prev, next, iq, im, ic, sq, sn, sc, nextTxn, tq, tn, tc, dq, dn, dc⟩; have hm := checkRec_any ⟨1, lsn, txn, prev, next, iq, im, ic, sq, sn, sc, nextTxn, tq, tn, tc, dq, dn, dc⟩ V r W o1.out
 unfold chkRec at hm; rw [hb] at hm; simp only [if_true] at hm; have hm := lh hm; have hkr : Hid (r.kind = 1) := h.kind.symm; have hb' := lh hb; clear h hb; show Calls _ _ #[.agg #[.int .i64 1, .int .u64 lsn, .int .i64 txn, .int .u64 prev, .int .u64 next, .slice iq im ic, .slice sq sn sc, .int .i64 nextTxn, .slice tq tn tc, .slice dq dn dc]] _ _
 go_enter Tryz.func22, Tryz.ntmps22
 go_wp2_with (first
  | (with_reducible refine wpList_load_at rfl 30 (.tmp 1) rfl Tryz.underlying30 rfl zr rfl hbx.out.2.1.all ?_))
 clear hW; refine hm.out.mono ?_; clear hm; rintro e w1 ⟨rfl, hb⟩; have hb1 := lh hb; have hd := lh (hbx.out.1.trans (hb.mono hbx.out.1.size)); clear hb; have z0 := (hbx.out.2.1.below hb1.out (Nat.le_refl _)).cell 0 rfl; go_wp2
 go_ret2
 exact ⟨2, 0, rfl, .inl ⟨rfl, hb'.out, by unfold resN; rw [hkr.out]; rfl⟩, hd.out⟩
set_option maxRecDepth 100000 in
set_option maxHeartbeats 8000000 in
theorem reserve2 (lsn txn prev next nextTxn : Int) (iq sq tq dq : Option Addr) (im ic sn sc tn tc dn dc : Nat) (V : List ImgV) (r : RecD) (w : World) (h : RecV.On ⟨2, lsn, txn, prev, next, iq, im, ic, sq, sn, sc, nextTxn, tq, tn, tc, dq, dn, dc⟩ w V r) (hb : mayB r = true) :
 Calls Tryz.prog 22 #[.agg #[.int .i64 2, .int .u64 lsn, .int .i64 txn, .int .u64 prev, .int .u64 next, .slice iq im ic, .slice sq sn sc, .int .i64 nextTxn, .slice tq tn tc, .slice dq dn dc]] w (ResPost r w) := by
 obtain ⟨W, hW⟩ : ∃ W, w.alloc (.cells #[.int .i64 2, .int .u64 lsn, .int .i64 txn, .int .u64 prev, .int .u64 next, .slice iq im ic, .slice sq sn sc, .int .i64 nextTxn, .slice tq tn tc, .slice dq dn dc] 30) = W := ⟨_, rfl⟩; have hbx := lh (one_box (xs := [.int .i64 2, .int .u64 lsn, .int .i64 txn, .int .u64 prev, .int .u64 next, .slice iq im ic, .slice sq sn sc, .int .i64 nextTxn, .slice tq tn tc, .slice dq dn dc]) hW); have o1 := lh (h.below hbx.out.1 (Nat.le_refl _)); have zr : (Tryz.prog.info? 30).map (·.size) = some ([.int .i64 2, .int .u64 lsn, .int .i64 txn, .int .u64 prev, .int .u64 next, .slice iq im ic, .slice sq sn sc, .int .i64 nextTxn, .slice tq tn tc, .slice dq dn dc] : List Value).length := sizeRec ⟨2, lsn, txn, prev, next, iq, im, ic, sq, sn, sc, nextTxn, tq, tn, tc, dq, dn, dc⟩; have hm := checkRec_any ⟨2, lsn, txn, prev, next, iq, im, ic, sq, sn, sc, nextTxn, tq, tn, tc, dq, dn, dc⟩ V r W o1.out
 unfold chkRec at hm; rw [hb] at hm; simp only [if_true] at hm; have hm := lh hm; have hkr : Hid (r.kind = 2) := h.kind.symm; have hb' := lh hb; have hlay := lay_of hb; unfold LayOk at hlay; rw [hkr.out, if_pos rfl] at hlay; have hlay := lh hlay; have him : Hid (im = r.images.length) := by have h1 := h.images.len; have h2 := h.images.on.len; show im = _; simp only at h2; omega
 clear h hb; show Calls _ _ #[.agg #[.int .i64 2, .int .u64 lsn, .int .i64 txn, .int .u64 prev, .int .u64 next, .slice iq im ic, .slice sq sn sc, .int .i64 nextTxn, .slice tq tn tc, .slice dq dn dc]] _ _
 go_enter Tryz.func22, Tryz.ntmps22
 go_wp2_with (first
  | (with_reducible refine wpList_load_at rfl 30 (.tmp 1) rfl Tryz.underlying30 rfl zr rfl hbx.out.2.1.all ?_))
 clear hW; refine hm.out.mono ?_; clear hm; rintro e w1 ⟨rfl, hb⟩; have hb1 := lh hb; have hd := lh (hbx.out.1.trans (hb.mono hbx.out.1.size)); clear hb; have z0 := (hbx.out.2.1.below hb1.out (Nat.le_refl _)).cell 0 rfl
 go_wp2_with fail
 refine wp_region_held (S := fun u => Boxed u w.heap.size [.int .i64 2, .int .u64 lsn, .int .i64 txn, .int .u64 prev, .int .u64 next, .slice iq im ic, .slice sq sn sc, .int .i64 nextTxn, .slice tq tn tc, .slice dq dn dc]) (by kernel_rfl) ?_; have hdr := below_drew w1; have hS0 : Boxed (World.drew w1) w.heap.size [.int .i64 2, .int .u64 lsn, .int .i64 txn, .int .u64 prev, .int .u64 next, .slice iq im ic, .slice sq sn sc, .int .i64 nextTxn, .slice tq tn tc, .slice dq dn dc] := hbx.out.2.1.below (hb1.out.trans (hdr.mono hb1.out.size)) (Nat.le_refl _); have hd0 := hb1.out.trans (hdr.mono hb1.out.size); change wpAnyH _ _ _ _ _ _ _ _ (World.drew w1); generalize World.drew w1 = u0 at hS0 hd0 ⊢; clear z0; refine held_tk (i := 0) (dst := some 17) rfl (v := .agg #[.int .i64 2, .int .u64 lsn, .int .i64 txn, .int .u64 prev, .int .u64 next, .slice iq im ic, .slice sq sn sc, .int .i64 nextTxn, .slice tq tn tc, .slice dq dn dc]) rfl (y_load_agg 30 (.tmp 1) rfl rfl rfl (fun u hu => run_loadVar_at Tryz.underlying30 rfl zr _ hu.all)) hS0 ?_; go_frame
 refine tg 1 18 (.pointer (some ⟨w.heap.size, 5, none⟩)) hS0 ?_; go_frame; refine held_tk (i := 2) (dst := some 19) rfl (v := .slice iq im ic) rfl (.inl ⟨rfl, fun u hu => by have c5 : u.cell? ⟨w.heap.size, 5, none⟩ = some (.slice iq im ic) := hu.cell 5 rfl; go_simp⟩) hS0 ?_; go_frame; refine held_call (i := 3) (dst := some 20) rfl rfl (by kernel_rfl) rfl (by go_simp) (befores_any iq im ic V r.images u0 (o1.out.images.below hd0 (Nat.le_refl _)) (by have h1 := hlay.out.2; have h2 := him.out; omega)) ?_; rintro e u1 ⟨q', m', c', rfl, him', hbe⟩; have hS1 := hS0.below hbe (Nat.le_refl _); have hd1 := hd0.trans (hbe.mono hd0.size); refine ⟨_, rfl, hS1, ?_⟩; go_frame; refine held_call (i := 4) (dst := some 21) rfl rfl (by kernel_rfl) rfl (by go_simp) (undone_any ⟨2, lsn, txn, prev, next, iq, im, ic, sq, sn, sc, nextTxn, tq, tn, tc, dq, dn, dc⟩ q' m' c' u1) ?_; rintro e u2 ⟨rfl, hbe⟩; have hS2 := hS1.below hbe (Nat.le_refl _)
 have hd2 := hd1.trans (hbe.mono hd1.size); have him2 := him'.below hbe (Nat.le_refl _); refine ⟨_, rfl, hS2, ?_⟩; go_frame; refine held_call (i := 5) (dst := some 22) rfl rfl (by kernel_rfl) rfl (by go_simp) (laid_any _ _ _ u2 (und_on (o1.out.below hd2 (Nat.le_refl _)) him2) (und_lay (fun d hd => by obtain ⟨x, hx, rfl⟩ := List.mem_map.1 hd; exact (hlay.out.1 x hx).1) (by rw [List.length_map]; exact hlay.out.2))) ?_; rintro e u3 ⟨q9, n9, c9, rfl, hown, hbe⟩; have hS3 := hS2.below hbe (Nat.le_refl _); have hd3 := hd2.trans (hbe.mono hd2.size); have hn9 : Hid (n9 = (encRec (undD r (r.images.map befD))).length) := holds_len hown.holds.1; have hlb : Hid (n9 ≤ 4000) := by show n9 ≤ 4000; rw [hn9.out]; exact encRec_len (und_lay (fun d hd => by obtain ⟨x, hx, rfl⟩ := List.mem_map.1 hd; exact (hlay.out.1 x hx).1) (by rw [List.length_map]; exact hlay.out.2))
 refine ⟨_, rfl, hS3, ?_⟩; go_frame; refine tg 6 23 (.int .i64 n9) hS3 ?_; go_frame; obtain ⟨S, hSe⟩ : ∃ S, secs n9 = S := ⟨_, rfl⟩; have hsec := sectors_any n9 u3 (by have h1 := hlb.out; omega); rw [hSe] at hsec; have hSe : Hid (S = secs n9) := hSe.symm; refine held_call (i := 7) (dst := some 24) rfl rfl (by kernel_rfl) rfl (by go_simp) hsec ?_; rintro e ux ⟨rfl, hux⟩; obtain rfl := hux.symm; refine ⟨_, rfl, hS3, ?_⟩; go_frame; refine tg 8 2 (.int .i64 S) hS3 ?_; go_frame; refine tg 9 3 (.int .i64 0) hS3 ?_; go_frame; refine wpAnyH_done (by kernel_rfl) ?_ _; have hd3 := lh hd3; clear hS0 hS1 hS2 hS3 hd0 hd1 hd2 hown him' him2 hsec hbe hdr; go_wp2
 go_ret2
 exact ⟨S, 0, rfl, .inl ⟨rfl, hb'.out, by unfold resN; rw [hkr.out, if_neg (by decide), if_pos rfl, hSe.out, hn9.out]⟩, hbx.out.1.trans (hd3.out.mono hbx.out.1.size)⟩
set_option maxRecDepth 100000 in
set_option maxHeartbeats 8000000 in
theorem reserve4 (lsn txn prev next nextTxn : Int) (iq sq tq dq : Option Addr) (im ic sn sc tn tc dn dc : Nat) (V : List ImgV) (r : RecD) (w : World) (h : RecV.On ⟨4, lsn, txn, prev, next, iq, im, ic, sq, sn, sc, nextTxn, tq, tn, tc, dq, dn, dc⟩ w V r) (hb : mayB r = true) :
 Calls Tryz.prog 22 #[.agg #[.int .i64 4, .int .u64 lsn, .int .i64 txn, .int .u64 prev, .int .u64 next, .slice iq im ic, .slice sq sn sc, .int .i64 nextTxn, .slice tq tn tc, .slice dq dn dc]] w (ResPost r w) := by
 obtain ⟨W, hW⟩ : ∃ W, w.alloc (.cells #[.int .i64 4, .int .u64 lsn, .int .i64 txn, .int .u64 prev, .int .u64 next, .slice iq im ic, .slice sq sn sc, .int .i64 nextTxn, .slice tq tn tc, .slice dq dn dc] 30) = W := ⟨_, rfl⟩; have hbx := lh (one_box (xs := [.int .i64 4, .int .u64 lsn, .int .i64 txn, .int .u64 prev, .int .u64 next, .slice iq im ic, .slice sq sn sc, .int .i64 nextTxn, .slice tq tn tc, .slice dq dn dc]) hW); have o1 := lh (h.below hbx.out.1 (Nat.le_refl _)); have zr : (Tryz.prog.info? 30).map (·.size) = some ([.int .i64 4, .int .u64 lsn, .int .i64 txn, .int .u64 prev, .int .u64 next, .slice iq im ic, .slice sq sn sc, .int .i64 nextTxn, .slice tq tn tc, .slice dq dn dc] : List Value).length := sizeRec ⟨4, lsn, txn, prev, next, iq, im, ic, sq, sn, sc, nextTxn, tq, tn, tc, dq, dn, dc⟩; have hm := checkRec_any ⟨4, lsn, txn, prev, next, iq, im, ic, sq, sn, sc, nextTxn, tq, tn, tc, dq, dn, dc⟩ V r W o1.out
 unfold chkRec at hm; rw [hb] at hm; simp only [if_true] at hm; have hm := lh hm; have hkr : Hid (r.kind = 4) := h.kind.symm; have hb' := lh hb; have hlay := lay_of hb; unfold LayOk at hlay; rw [hkr.out, if_neg (by decide), if_pos rfl] at hlay; have hlay := lh hlay; have hsn : Hid (sn = r.steps.length) := h.steps.len.symm; clear h hb; show Calls _ _ #[.agg #[.int .i64 4, .int .u64 lsn, .int .i64 txn, .int .u64 prev, .int .u64 next, .slice iq im ic, .slice sq sn sc, .int .i64 nextTxn, .slice tq tn tc, .slice dq dn dc]] _ _
 go_enter Tryz.func22, Tryz.ntmps22
 go_wp2_with (first
  | (with_reducible refine wpList_load_at rfl 30 (.tmp 1) rfl Tryz.underlying30 rfl zr rfl hbx.out.2.1.all ?_))
 clear hW; refine hm.out.mono ?_; clear hm; rintro e w1 ⟨rfl, hb⟩; have hb1 := lh hb; have hd := lh (hbx.out.1.trans (hb.mono hbx.out.1.size)); clear hb; have z0 := (hbx.out.2.1.below hb1.out (Nat.le_refl _)).cell 0 rfl; have z6 := (hbx.out.2.1.below hb1.out (Nat.le_refl _)).cell 6 rfl; obtain ⟨M, hM⟩ : ∃ M, min (chgs r.steps) 16 = M := ⟨_, rfl⟩; have hM16 : M ≤ 16 := by omega
 have hch := changes_any sq sn sc r.steps w1 (o1.out.steps.below hb1.out (Nat.le_refl _)) (by have h1 := hlay.out.2; have h2 := hsn.out; omega); rw [hM] at hch; have hch := lh hch; have hM := lh hM
 go_wp2_with fail
 refine hch.out.mono ?_; clear hch z0 z6; rintro e w2 ⟨rfl, hb⟩; have hb2 := lh (hb1.out.trans (hb.mono hb1.out.size)); clear hb
 go_wp2_with (first
  | (with_reducible refine wpList_load_at rfl 30 (.tmp 1) rfl Tryz.underlying30 rfl zr rfl (hbx.out.2.1.below hb2.out (Nat.le_refl _)).all ?_))
 refine (undone_any ⟨4, lsn, txn, prev, next, iq, im, ic, sq, sn, sc, nextTxn, tq, tn, tc, dq, dn, dc⟩ none 0 0 w2).mono ?_; rintro e w3 ⟨rfl, hb⟩; have hb3 := lh (hb2.out.trans (hb.mono hb2.out.size)); clear hb
 go_wp2_with fail
 refine (laid_any _ [] _ w3 (und_on (o1.out.below hb3.out (Nat.le_refl _)) (ImgsOn.none_ _)) (und_lay (fun d hd => by cases hd) (Nat.zero_le _))).mono ?_; rintro e w4 ⟨q9, n9, c9, rfl, hown, hb⟩; have hb4 := lh (hb3.out.trans (hb.mono hb3.out.size)); have hn9 : Hid (n9 = (encRec (undD r [])).length) := holds_len hown.holds.1; have hlb : n9 ≤ 4000 := by rw [hn9.out]; exact encRec_len (und_lay (fun d hd => by cases hd) (Nat.zero_le _))
 clear hb hown; obtain ⟨S, hSe⟩ : ∃ S, secs (n9 + M * 83) = S := ⟨_, rfl⟩; have hsec := sectors_any (n9 + M * 83) w4 (by omega); rw [hSe] at hsec; have hSe : Hid (S = secs (n9 + M * 83)) := hSe.symm; have hsec := lh hsec
 go_wp2_with fail
 refine hsec.out.mono ?_; clear hsec; rintro e wq ⟨rfl, hw⟩; obtain rfl := hw.symm; go_wp2
 go_ret2
 exact ⟨S, 0, rfl, .inl ⟨rfl, hb'.out, by unfold resN; rw [hkr.out, if_neg (by decide), if_neg (by decide), if_pos rfl, hSe.out, hn9.out, hM.out]⟩, hbx.out.1.trans (hb4.out.mono hbx.out.1.size)⟩
theorem reserve_any (v : RecV) (V : List ImgV) (r : RecD) (w : World) (h : v.On w V r) :
 Calls Tryz.prog 22 #[v.val] w (ResPost r w) := by
 obtain ⟨kind, lsn, txn, prev, next, iq, im, ic, sq, sn, sc, nextTxn, tq, tn, tc, dq, dn, dc⟩ := v
 cases hb : mayB r with
 | false => exact reserveBad _ _ _ _ _ _ _ _ _ _ _ _ _ _ _ _ _ _ V r w h hb
 | true =>
   by_cases n1 : kind = 1
   · subst n1; exact reserve1 _ _ _ _ _ _ _ _ _ _ _ _ _ _ _ _ _ V r w h hb
   by_cases n2 : kind = 2
   · subst n2; exact reserve2 _ _ _ _ _ _ _ _ _ _ _ _ _ _ _ _ _ V r w h hb
   by_cases n4 : kind = 4
   · subst n4; exact reserve4 _ _ _ _ _ _ _ _ _ _ _ _ _ _ _ _ _ V r w h hb
   exact reserveN _ _ _ _ _ _ _ _ _ _ _ _ _ _ _ _ _ _ V r w h hb n1 n2 n4
end Go.Proofs.YtocekhckmpkbmaaGreat
