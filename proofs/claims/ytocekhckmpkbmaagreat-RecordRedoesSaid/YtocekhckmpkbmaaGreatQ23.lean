/- Parts of the proof: What undoing a record costs: undone, befores, changes, Reserve; Plain mathematics of records' bytes: what was laid is read back; what is read and may be was laid so; Plain mathematics of records' bytes: a whole record is read back; what is read, and may be, was laid so; Plain mathematics of records' bytes: what is read, and may be, was laid so -/
import Derived.Test.YtocekhckmpkbmaaGreatQ22
import Derived.Test.YtocekhckmpkbmaaGreatQ19
import Derived.Test.YtocekhckmpkbmaaGreatQ20
namespace Go.Proofs.YtocekhckmpkbmaaGreat
open Go.RowKit
def undD (r : RecD) (L : List ImgD) : RecD := ⟨5, r.lsn, r.txn, r.prev, 0, L, [], 0, [], []⟩
def befD (d : ImgD) : ImgD := ⟨d.page, zeroC, d.bef⟩
def chg (s : StepD) : Nat := if s.kind = 1 then 1 else if s.kind = 2 then 1 else if s.kind = 3 then 12 else if s.kind = 4 then 12 else 0
def chgs (L : List StepD) : Nat := (L.map chg).sum
theorem chgs_step {L : List StepD} {j : Nat} {s : StepD} (h : L[j]? = some s) : chgs (L.take (j + 1)) = chgs (L.take j) + chg s := by
 unfold chgs
 rw [List.take_add_one, h]
 simp
set_option maxRecDepth 100000 in
set_option maxHeartbeats 4000000 in
theorem undone_any (v : RecV) (q : Option Addr) (m c : Nat) (w : World) :
 Calls Tryz.prog 50 #[v.val, .slice q m c] w (fun e w' => e = .returned (RecV.val ⟨5, v.lsn, v.txn, v.prev, 0, q, m, c, none, 0, 0, 0, none, 0, 0, none, 0, 0⟩) ∧ Below w.heap.size w w') := by
 obtain ⟨kind, lsn, txn, prev, next, iq, im, ic, sq, sn, sc, nextTxn, tq, tn, tc, dq, dn, dc⟩ := v
 obtain ⟨W, hW⟩ : ∃ W, (w.alloc (.cells #[.int .i64 kind, .int .u64 lsn, .int .i64 txn, .int .u64 prev, .int .u64 next, .slice iq im ic, .slice sq sn sc, .int .i64 nextTxn, .slice tq tn tc, .slice dq dn dc] 30)).alloc (.cells #[.int .i64 0, .int .u64 0, .int .i64 0, .int .u64 0, .int .u64 0, .slice none 0 0, .slice none 0 0, .int .i64 0, .slice none 0 0, .slice none 0 0] 30) = W := ⟨_, rfl⟩
 have hbx := Lib.hid (two_boxes (xs := [.int .i64 kind, .int .u64 lsn, .int .i64 txn, .int .u64 prev, .int .u64 next, .slice iq im ic, .slice sq sn sc, .int .i64 nextTxn, .slice tq tn tc, .slice dq dn dc]) (ys := [.int .i64 0, .int .u64 0, .int .i64 0, .int .u64 0, .int .u64 0, .slice none 0 0, .slice none 0 0, .int .i64 0, .slice none 0 0, .slice none 0 0]) hW)
 have q0 : Hid (RowV 30 W (w.heap.size + 1) [.int .i64 0, .int .u64 0, .int .i64 0, .int .u64 0, .int .u64 0, .slice none 0 0, .slice none 0 0, .int .i64 0, .slice none 0 0, .slice none 0 0]) := by
  have h1 := RowV.made (T := 30) (w.alloc (.cells #[.int .i64 kind, .int .u64 lsn, .int .i64 txn, .int .u64 prev, .int .u64 next, .slice iq im ic, .slice sq sn sc, .int .i64 nextTxn, .slice tq tn tc, .slice dq dn dc] 30)) [.int .i64 0, .int .u64 0, .int .i64 0, .int .u64 0, .int .u64 0, .slice none 0 0, .slice none 0 0, .int .i64 0, .slice none 0 0, .slice none 0 0]
  show RowV _ _ _ _
  rw [← hW]; simpa using h1
 have z1 : W.cell? ⟨w.heap.size, 1, none⟩ = some (.int .u64 lsn) := hbx.out.2.1.cell 1 rfl
 have z2 : W.cell? ⟨w.heap.size, 2, none⟩ = some (.int .i64 txn) := hbx.out.2.1.cell 2 rfl
 have z3 : W.cell? ⟨w.heap.size, 3, none⟩ = some (.int .u64 prev) := hbx.out.2.1.cell 3 rfl
 have hzv : (Tryz.prog.info? 30).map (·.size) = some ([.int .i64 5, .int .u64 lsn, .int .i64 txn, .int .u64 prev, .int .u64 0, .slice q m c, .slice none 0 0, .int .i64 0, .slice none 0 0, .slice none 0 0] : List Value).length := sizeRec ⟨5, lsn, txn, prev, 0, q, m, c, none, 0, 0, 0, none, 0, 0, none, 0, 0⟩
 have hone : ∀ x ∈ ([.int .i64 5, .int .u64 lsn, .int .i64 txn, .int .u64 prev, .int .u64 0, .slice q m c, .slice none 0 0, .int .i64 0, .slice none 0 0, .slice none 0 0] : List Value), x.oneCell' = true := one_l rfl
 show Calls _ _ #[.agg #[.int .i64 kind, .int .u64 lsn, .int .i64 txn, .int .u64 prev, .int .u64 next, .slice iq im ic, .slice sq sn sc, .int .i64 nextTxn, .slice tq tn tc, .slice dq dn dc], .slice q m c] _ _
 go_enter Tryz.func50, Tryz.ntmps50
 go_wp2_with (first
  | ((with_reducible refine wpList_store_at rfl 30 (.tmp 4) (.tmp 12) rfl (o := 0) (vs := [.int .i64 5, .int .u64 lsn, .int .i64 txn, .int .u64 prev, .int .u64 0, .slice q m c, .slice none 0 0, .int .i64 0, .slice none 0 0, .slice none 0 0]) rfl rfl q0.out hzv (Nat.le_refl _) hone ?_)
     intro wz h9 hg9
     have rz : Hid (RowV 30 wz (w.heap.size + 1) [.int .i64 5, .int .u64 lsn, .int .i64 txn, .int .u64 prev, .int .u64 0, .slice q m c, .slice none 0 0, .int .i64 0, .slice none 0 0, .slice none 0 0]) := h9
     have gz := Lib.hid hg9
     clear h9 hg9 hW))
 have m0 : wz.cell? ⟨w.heap.size + 1, 0, none⟩ = some (.int .i64 5) := rz.out.cell 0
 have m1 : wz.cell? ⟨w.heap.size + 1, 1, none⟩ = some (.int .u64 lsn) := rz.out.cell 1
 have m2 : wz.cell? ⟨w.heap.size + 1, 2, none⟩ = some (.int .i64 txn) := rz.out.cell 2
 have m3 : wz.cell? ⟨w.heap.size + 1, 3, none⟩ = some (.int .u64 prev) := rz.out.cell 3
 have m4 : wz.cell? ⟨w.heap.size + 1, 4, none⟩ = some (.int .u64 0) := rz.out.cell 4
 have m5 : wz.cell? ⟨w.heap.size + 1, 5, none⟩ = some (.slice q m c) := rz.out.cell 5
 have m6 : wz.cell? ⟨w.heap.size + 1, 6, none⟩ = some (.slice none 0 0) := rz.out.cell 6
 have m7 : wz.cell? ⟨w.heap.size + 1, 7, none⟩ = some (.int .i64 0) := rz.out.cell 7
 have m8 : wz.cell? ⟨w.heap.size + 1, 8, none⟩ = some (.slice none 0 0) := rz.out.cell 8
 have m9 : wz.cell? ⟨w.heap.size + 1, 9, none⟩ = some (.slice none 0 0) := rz.out.cell 9
 refine bodyPost_ret (v := .agg #[.int .i64 5, .int .u64 lsn, .int .i64 txn, .int .u64 prev, .int .u64 0, .slice q m c, .slice none 0 0, .int .i64 0, .slice none 0 0, .slice none 0 0]) (by simp [results, Tryz.results50, go_sem, m0, m1, m2, m3, m4, m5, m6, m7, m8, m9]) rfl ?_
 exact ⟨rfl, Gr.below gz.out hbx.out.1 (by omega)⟩
set_option maxRecDepth 100000 in
set_option maxHeartbeats 8000000 in
theorem changes_any (q : Option Addr) (n c : Nat) (L : List StepD) (w : World) (h : SlOn w q n c L) (hn : n ≤ 1000) :
 Calls Tryz.prog 52 #[.slice q n c] w (fun e w' => e = .returned (.int .i64 ((min (chgs L) 16 : Nat) : Int)) ∧ Below w.heap.size w w') := by
 have hh := Lib.hid h
 have hl : Hid (L.length = n) := h.len
 clear h
 go_enter Tryz.func52, Tryz.ntmps52
 have h0 : Hid (Below w.heap.size w w) := Below.refl _ _
 go_wp2
 go_loopw [8, 3] (fun v8 v3 wr => ∃ (j N : Nat), j ≤ n ∧ v8 = .int .i64 j ∧ v3 = .int .i64 N ∧ N ≤ 12 * j ∧ Hid (chgs (L.take j) = N) ∧ Hid (Below w.heap.size w wr)) (fun v8 _ _ => n - (RowKit.intOf v8).toNat)
 case atStart => exact ⟨0, 0, Nat.zero_le _, rfl, rfl, Nat.le_refl _, rfl, h0⟩
 case round =>
  obtain ⟨j, N, hj, rfl, rfl, hNb, hN, hst⟩ := hrel
  clear h0
  by_cases hlt : j < n
  · obtain ⟨A, ⟨kd, ⟨⟨t, id⟩, v, s⟩, by_⟩, hqA, hdx, hcA⟩ := (hh.out.below hst.out (Nat.le_refl _)).at hlt
    subst hqA
    have hcA : Hid (∀ j' x, ([.int .i64 kd, .int .i64 t, .int .u16 id, .int .i64 v, .string s, .int .i64 by_] : List Value)[j']? = some x → wr.cell? ((A.add (j * 6)).add j') = some x) := hcA
    have hs : (Tryz.prog.info? 70).map (·.size) = some ([.int .i64 kd, .int .i64 t, .int .u16 id, .int .i64 v, .string s, .int .i64 by_] : List Value).length := sizeStep ⟨kd, ⟨⟨t, id⟩, v, s⟩, by_⟩
    have hstep : Hid (chgs (L.take (j + 1)) = N + chg ⟨kd, ⟨⟨t, id⟩, v, s⟩, by_⟩) := by show _ = _; rw [chgs_step hdx, hN.out]
    have i0 : (0 : Int) ≤ j := by omega
    have i1 : (j : Int) < n := by omega
    clear hdx
    obtain ⟨we, hwe⟩ : ∃ x, wr.alloc (.cells #[.int .i64 kd, .int .i64 t, .int .u16 id, .int .i64 v, .string s, .int .i64 by_] 70) = x := ⟨_, rfl⟩
    have hbk := Lib.hid (one_box (xs := [.int .i64 kd, .int .i64 t, .int .u16 id, .int .i64 v, .string s, .int .i64 by_]) hwe)
    have hd := Lib.hid (hst.out.trans (hbk.out.1.mono hst.out.size))
    have d0 : we.cell? ⟨wr.heap.size, 0, none⟩ = some (.int .i64 kd) := hbk.out.2.1.cell 0 rfl
    by_cases e1 : kd = 1
    · subst e1
      go_wp2_with (first
       | (with_reducible refine wpList_load_at rfl 70 (.tmp 10) rfl Tryz.underlying70 rfl hs rfl hcA.out ?_))
      go_roundw
      case rel => exact ⟨j + 1, N + 1, by omega, by go_num, by go_num, by omega, by have h1 := hstep.out; exact h1, hd⟩
      case measure => simp [RowKit.intOf]; omega
    by_cases e2 : kd = 2
    · subst e2
      go_wp2_with (first
       | (with_reducible refine wpList_load_at rfl 70 (.tmp 10) rfl Tryz.underlying70 rfl hs rfl hcA.out ?_))
      go_roundw
      case rel => exact ⟨j + 1, N + 1, by omega, by go_num, by go_num, by omega, by have h1 := hstep.out; exact h1, hd⟩
      case measure => simp [RowKit.intOf]; omega
    by_cases e3 : kd = 3
    · subst e3
      go_wp2_with (first
       | (with_reducible refine wpList_load_at rfl 70 (.tmp 10) rfl Tryz.underlying70 rfl hs rfl hcA.out ?_))
      go_roundw
      case rel => exact ⟨j + 1, N + 12, by omega, by go_num, by go_num, by omega, by have h1 := hstep.out; exact h1, hd⟩
      case measure => simp [RowKit.intOf]; omega
    by_cases e4 : kd = 4
    · subst e4
      go_wp2_with (first
       | (with_reducible refine wpList_load_at rfl 70 (.tmp 10) rfl Tryz.underlying70 rfl hs rfl hcA.out ?_))
      go_roundw
      case rel => exact ⟨j + 1, N + 12, by omega, by go_num, by go_num, by omega, by have h1 := hstep.out; exact h1, hd⟩
      case measure => simp [RowKit.intOf]; omega
    have n1 : (kd == 1) = false := by simpa using e1
    have n2 : (kd == 2) = false := by simpa using e2
    have n3 : (kd == 3) = false := by simpa using e3
    have n4 : (kd == 4) = false := by simpa using e4
    go_wp2_with (first
     | (with_reducible refine wpList_load_at rfl 70 (.tmp 10) rfl Tryz.underlying70 rfl hs rfl hcA.out ?_))
    go_roundw
    case rel => exact ⟨j + 1, N + 0, by omega, by go_num, by go_num, by omega, by have h1 := hstep.out; unfold chg at h1; simp only at h1; rw [if_neg e1, if_neg e2, if_neg e3, if_neg e4] at h1; exact h1, hd⟩
    case measure => simp [RowKit.intOf]; omega
  · obtain rfl : n = j := by omega
    have hall : L.take n = L := List.take_of_length_le (by have h1 := hl.out; omega)
    rw [hall] at hN
    go_wp2
    go_ret
    exact ⟨congrArg (fun z : Int => Ending.returned (.int .i64 z)) (by rw [hN.out]; omega), hst.out⟩
noncomputable def resN (r : RecD) : Int :=
 if r.kind = 1 then 2
 else if r.kind = 2 then (secs (encRec (undD r (r.images.map befD))).length : Int)
 else if r.kind = 4 then (secs ((encRec (undD r [])).length + min (chgs r.steps) 16 * 83) : Int)
 else 0
def ResPost (r : RecD) (w : World) (e : Ending) (w' : World) : Prop := ∃ n er, e = .returned (.tuple #[.int .i64 n, .int .i64 er]) ∧ ((er = 0 ∧ mayB r = true ∧ n = resN r) ∨ (er = 220 ∧ mayB r = false ∧ n = 0)) ∧ Below w.heap.size w w'
theorem und_lay {r : RecD} {L : List ImgD} (h : ∀ d ∈ L, GoodC d.aft) (h2 : L.length ≤ 16) : LayOk (undD r L) := by
 unfold LayOk undD
 simp only [Int.reduceEq, if_false, if_true]
 exact ⟨h, h2⟩
theorem und_on {v : RecV} {V : List ImgV} {r : RecD} {w : World} {q : Option Addr} {m c : Nat} {V' : List ImgV} {L : List ImgD} (h : v.On w V r) (hi : ImgsOn w q m c V' L) : RecV.On ⟨5, v.lsn, v.txn, v.prev, 0, q, m, c, none, 0, 0, 0, none, 0, 0, none, 0, 0⟩ w V' (undD r L) :=
 ⟨rfl, h.lsn, h.txn, h.prev, rfl, rfl, ⟨by unfold I64 undD; simp only; omega, h.ints.2.1, h.ints.2.2.1, h.ints.2.2.2.1, u64_zero, i64_zero⟩, hi, SlOn.none_ _, SlOn.none_ _, SlOn.none_ _, (fun s h => by cases h), (fun s h => by cases h), (fun s h => by cases h)⟩
set_option maxRecDepth 100000 in
set_option maxHeartbeats 8000000 in
theorem reserveBad (kind lsn txn prev next nextTxn : Int) (iq sq tq dq : Option Addr) (im ic sn sc tn tc dn dc : Nat) (V : List ImgV) (r : RecD) (w : World) (h : RecV.On ⟨kind, lsn, txn, prev, next, iq, im, ic, sq, sn, sc, nextTxn, tq, tn, tc, dq, dn, dc⟩ w V r) (hb : mayB r = false) :
 Calls Tryz.prog 22 #[.agg #[.int .i64 kind, .int .u64 lsn, .int .i64 txn, .int .u64 prev, .int .u64 next, .slice iq im ic, .slice sq sn sc, .int .i64 nextTxn, .slice tq tn tc, .slice dq dn dc]] w (ResPost r w) := by
 obtain ⟨W, hW⟩ : ∃ W, w.alloc (.cells #[.int .i64 kind, .int .u64 lsn, .int .i64 txn, .int .u64 prev, .int .u64 next, .slice iq im ic, .slice sq sn sc, .int .i64 nextTxn, .slice tq tn tc, .slice dq dn dc] 30) = W := ⟨_, rfl⟩
 have hbx := Lib.hid (one_box (xs := [.int .i64 kind, .int .u64 lsn, .int .i64 txn, .int .u64 prev, .int .u64 next, .slice iq im ic, .slice sq sn sc, .int .i64 nextTxn, .slice tq tn tc, .slice dq dn dc]) hW)
 have o1 := Lib.hid (h.below hbx.out.1 (Nat.le_refl _))
 have zr : (Tryz.prog.info? 30).map (·.size) = some ([.int .i64 kind, .int .u64 lsn, .int .i64 txn, .int .u64 prev, .int .u64 next, .slice iq im ic, .slice sq sn sc, .int .i64 nextTxn, .slice tq tn tc, .slice dq dn dc] : List Value).length := sizeRec ⟨kind, lsn, txn, prev, next, iq, im, ic, sq, sn, sc, nextTxn, tq, tn, tc, dq, dn, dc⟩
 have hm := checkRec_any ⟨kind, lsn, txn, prev, next, iq, im, ic, sq, sn, sc, nextTxn, tq, tn, tc, dq, dn, dc⟩ V r W o1.out
 unfold chkRec at hm
 rw [hb] at hm
 simp only [Bool.false_eq_true, if_false] at hm
 have hm := Lib.hid hm
 have hkr : Hid (r.kind = kind) := h.kind.symm
 have hb' := Lib.hid hb
 clear h hb
 show Calls _ _ #[.agg #[.int .i64 kind, .int .u64 lsn, .int .i64 txn, .int .u64 prev, .int .u64 next, .slice iq im ic, .slice sq sn sc, .int .i64 nextTxn, .slice tq tn tc, .slice dq dn dc]] _ _
 go_enter Tryz.func22, Tryz.ntmps22
 go_wp2_with (first
  | (with_reducible refine wpList_load_at rfl 30 (.tmp 1) rfl Tryz.underlying30 rfl zr rfl hbx.out.2.1.all ?_))
 clear hW
 refine hm.out.mono ?_
 clear hm
 rintro e w1 ⟨rfl, hb⟩
 have hb1 := Lib.hid hb
 have hd := Lib.hid (hbx.out.1.trans (hb.mono hbx.out.1.size))
 clear hb
 go_wp2
 go_ret2
 exact ⟨0, 220, rfl, .inr ⟨rfl, hb'.out, rfl⟩, hd.out⟩
set_option maxRecDepth 100000 in
set_option maxHeartbeats 8000000 in
theorem reserve4 (lsn txn prev next nextTxn : Int) (iq sq tq dq : Option Addr) (im ic sn sc tn tc dn dc : Nat) (V : List ImgV) (r : RecD) (w : World) (h : RecV.On ⟨4, lsn, txn, prev, next, iq, im, ic, sq, sn, sc, nextTxn, tq, tn, tc, dq, dn, dc⟩ w V r) (hb : mayB r = true) :
 Calls Tryz.prog 22 #[.agg #[.int .i64 4, .int .u64 lsn, .int .i64 txn, .int .u64 prev, .int .u64 next, .slice iq im ic, .slice sq sn sc, .int .i64 nextTxn, .slice tq tn tc, .slice dq dn dc]] w (ResPost r w) := by
 obtain ⟨W, hW⟩ : ∃ W, w.alloc (.cells #[.int .i64 4, .int .u64 lsn, .int .i64 txn, .int .u64 prev, .int .u64 next, .slice iq im ic, .slice sq sn sc, .int .i64 nextTxn, .slice tq tn tc, .slice dq dn dc] 30) = W := ⟨_, rfl⟩
 have hbx := Lib.hid (one_box (xs := [.int .i64 4, .int .u64 lsn, .int .i64 txn, .int .u64 prev, .int .u64 next, .slice iq im ic, .slice sq sn sc, .int .i64 nextTxn, .slice tq tn tc, .slice dq dn dc]) hW)
 have o1 := Lib.hid (h.below hbx.out.1 (Nat.le_refl _))
 have zr : (Tryz.prog.info? 30).map (·.size) = some ([.int .i64 4, .int .u64 lsn, .int .i64 txn, .int .u64 prev, .int .u64 next, .slice iq im ic, .slice sq sn sc, .int .i64 nextTxn, .slice tq tn tc, .slice dq dn dc] : List Value).length := sizeRec ⟨4, lsn, txn, prev, next, iq, im, ic, sq, sn, sc, nextTxn, tq, tn, tc, dq, dn, dc⟩
 have hm := checkRec_any ⟨4, lsn, txn, prev, next, iq, im, ic, sq, sn, sc, nextTxn, tq, tn, tc, dq, dn, dc⟩ V r W o1.out
 unfold chkRec at hm
 rw [hb] at hm
 simp only [if_true] at hm
 have hm := Lib.hid hm
 have hkr : Hid (r.kind = 4) := h.kind.symm
 have hb' := Lib.hid hb
 have hlay := lay_of hb
 unfold LayOk at hlay
 rw [hkr.out, if_neg (by decide), if_pos rfl] at hlay
 have hlay := Lib.hid hlay
 have hsn : Hid (sn = r.steps.length) := h.steps.len.symm
 clear h hb
 show Calls _ _ #[.agg #[.int .i64 4, .int .u64 lsn, .int .i64 txn, .int .u64 prev, .int .u64 next, .slice iq im ic, .slice sq sn sc, .int .i64 nextTxn, .slice tq tn tc, .slice dq dn dc]] _ _
 go_enter Tryz.func22, Tryz.ntmps22
 go_wp2_with (first
  | (with_reducible refine wpList_load_at rfl 30 (.tmp 1) rfl Tryz.underlying30 rfl zr rfl hbx.out.2.1.all ?_))
 clear hW
 refine hm.out.mono ?_
 clear hm
 rintro e w1 ⟨rfl, hb⟩
 have hb1 := Lib.hid hb
 have hd := Lib.hid (hbx.out.1.trans (hb.mono hbx.out.1.size))
 clear hb
 have z0 : w1.cell? ⟨w.heap.size, 0, none⟩ = some (.int .i64 4) := (hbx.out.2.1.below hb1.out (Nat.le_refl _)).cell 0 rfl
 have z6 : w1.cell? ⟨w.heap.size, 6, none⟩ = some (.slice sq sn sc) := (hbx.out.2.1.below hb1.out (Nat.le_refl _)).cell 6 rfl
 obtain ⟨M, hM⟩ : ∃ M, min (chgs r.steps) 16 = M := ⟨_, rfl⟩
 have hM16 : M ≤ 16 := by omega
 have hch := changes_any sq sn sc r.steps w1 (o1.out.steps.below hb1.out (Nat.le_refl _)) (by have h1 := hlay.out.2; have h2 := hsn.out; omega)
 rw [hM] at hch
 have hch := Lib.hid hch
 have hM := Lib.hid hM
 go_wp2_with fail
 refine hch.out.mono ?_
 clear hch z0 z6
 rintro e w2 ⟨rfl, hb⟩
 have hb2 := Lib.hid (hb1.out.trans (hb.mono hb1.out.size))
 clear hb
 go_wp2_with (first
  | (with_reducible refine wpList_load_at rfl 30 (.tmp 1) rfl Tryz.underlying30 rfl zr rfl (hbx.out.2.1.below hb2.out (Nat.le_refl _)).all ?_))
 refine (undone_any ⟨4, lsn, txn, prev, next, iq, im, ic, sq, sn, sc, nextTxn, tq, tn, tc, dq, dn, dc⟩ none 0 0 w2).mono ?_
 rintro e w3 ⟨rfl, hb⟩
 have hb3 := Lib.hid (hb2.out.trans (hb.mono hb2.out.size))
 clear hb
 go_wp2_with fail
 refine (laid_any _ [] _ w3 (und_on (o1.out.below hb3.out (Nat.le_refl _)) (ImgsOn.none_ _)) (und_lay (fun d hd => by cases hd) (Nat.zero_le _)) (.inr rfl)).mono ?_
 rintro e w4 ⟨q9, n9, c9, rfl, hown, hb⟩
 have hb4 := Lib.hid (hb3.out.trans (hb.mono hb3.out.size))
 have hn9 : Hid (n9 = (encRec (undD r [])).length) := holds_len hown.holds.1
 have hlb : n9 ≤ 4000 := by rw [hn9.out]; exact encRec_len (und_lay (fun d hd => by cases hd) (Nat.zero_le _))
 clear hb hown
 obtain ⟨S, hSe⟩ : ∃ S, secs (n9 + M * 83) = S := ⟨_, rfl⟩
 have hsec := sectors_any (n9 + M * 83) w4 (by omega)
 rw [hSe] at hsec
 have hSe : Hid (S = secs (n9 + M * 83)) := hSe.symm
 have hsec := Lib.hid hsec
 go_wp2_with fail
 refine hsec.out.mono ?_
 clear hsec
 rintro e wq ⟨rfl, hw⟩
 obtain rfl := hw.symm
 go_wp2
 go_ret2
 exact ⟨S, 0, rfl, .inl ⟨rfl, hb'.out, by unfold resN; rw [hkr.out, if_neg (by decide), if_neg (by decide), if_pos rfl, hSe.out, hn9.out, hM.out]⟩, hbx.out.1.trans (hb4.out.mono hbx.out.1.size)⟩
theorem reserve_any (v : RecV) (V : List ImgV) (r : RecD) (w : World) (h : v.On w V r) (h4 : r.kind = 4) :
 Calls Tryz.prog 22 #[v.val] w (ResPost r w) := by
 obtain ⟨kind, lsn, txn, prev, next, iq, im, ic, sq, sn, sc, nextTxn, tq, tn, tc, dq, dn, dc⟩ := v
 cases hb : mayB r with
 | false => exact reserveBad _ _ _ _ _ _ _ _ _ _ _ _ _ _ _ _ _ _ V r w h hb
 | true =>
   obtain rfl : kind = 4 := h.kind.trans h4
   exact reserve4 _ _ _ _ _ _ _ _ _ _ _ _ _ _ _ _ _ V r w h hb
end Go.Proofs.YtocekhckmpkbmaaGreat
namespace Go.Proofs.YtocekhckmpkbmaaGreat
open Go.RowKit
/-! what was laid is read back -/
def ts (l : List UInt8) : RSt := ⟨⟨l, 0⟩, false⟩
theorem ts_nx {k : Int} {pre rest : List UInt8} (h : (pre.length : Int) = k) : (ts (pre ++ rest)).nx k = ts rest ∧ (ts (pre ++ rest)).nm k = num pre := by
 obtain ⟨a, b, _⟩ := next_app (rest := rest) h
 exact ⟨by show (⟨_, _⟩ : RSt) = _; show (⟨(⟨pre ++ rest, 0⟩ : St).next k, false⟩ : RSt) = _; rw [a]; rfl, b⟩
theorem be_back {n : Nat} {x : Nat} {rest : List UInt8} (hx : x < 256 ^ n) : (ts (be n x ++ rest)).nx n = ts rest ∧ (ts (be n x ++ rest)).nm n = x := by
 obtain ⟨a, b⟩ := ts_nx (k := n) (pre := be n x) (rest := rest) (by rw [length_be])
 refine ⟨a, ?_⟩
 rw [b, num_be, Nat.mod_eq_of_lt hx]
theorem u64_id {x : Int} (h : U64 x) : u64 x = x.toNat := by
 unfold u64
 rw [Int.emod_eq_of_lt h.1 h.2]
theorem u64_cast {x : Int} (h : U64 x) : (u64 x : Int) = x := by rw [u64_id h]; exact Int.toNat_of_nonneg h.1
theorem u64_of {x : Int} {b : Int} (h0 : 0 ≤ x) (h1 : x < b) (hb : b ≤ 18446744073709551616) : U64 x := ⟨h0, by omega⟩
/-- a number that fits is read back -/
theorem n1_back {x : Int} {rest : List UInt8} (h0 : 0 ≤ x) (h1 : x < 256) : (ts (be 1 (u64 x) ++ rest)).nx 1 = ts rest ∧ (ts (be 1 (u64 x) ++ rest)).nm 1 = x := by
 have hu := u64_of h0 h1 (by decide)
 obtain ⟨a, b⟩ := be_back (n := 1) (x := u64 x) (rest := rest) (by have h := u64_cast hu; omega)
 exact ⟨a, b.trans (u64_cast hu)⟩
theorem n2_back {x : Int} {rest : List UInt8} (h0 : 0 ≤ x) (h1 : x < 65536) : (ts (be 2 (u64 x) ++ rest)).nx 2 = ts rest ∧ (ts (be 2 (u64 x) ++ rest)).nm 2 = x := by
 have hu := u64_of h0 h1 (by decide)
 obtain ⟨a, b⟩ := be_back (n := 2) (x := u64 x) (rest := rest) (by have h := u64_cast hu; omega)
 exact ⟨a, b.trans (u64_cast hu)⟩
theorem n4_back {x : Int} {rest : List UInt8} (h0 : 0 ≤ x) (h1 : x < 4294967296) : (ts (be 4 (u64 x) ++ rest)).nx 4 = ts rest ∧ (ts (be 4 (u64 x) ++ rest)).nm 4 = x := by
 have hu := u64_of h0 h1 (by decide)
 obtain ⟨a, b⟩ := be_back (n := 4) (x := u64 x) (rest := rest) (by have h := u64_cast hu; omega)
 exact ⟨a, b.trans (u64_cast hu)⟩
theorem n8_back {x : Int} {rest : List UInt8} (h : U64 x) : (ts (be 8 x.toNat ++ rest)).nx 8 = ts rest ∧ (ts (be 8 x.toNat ++ rest)).nm 8 = x := by
 obtain ⟨a, b⟩ := be_back (n := 8) (x := x.toNat) (rest := rest) (by have h1 := h.1; have h2 := h.2; omega)
 exact ⟨a, b.trans (Int.toNat_of_nonneg h.1)⟩
theorem u8_back {x : Int} {rest : List UInt8} : (ts (be 8 (u64 x) ++ rest)).nx 8 = ts rest ∧ (ts (be 8 (u64 x) ++ rest)).nm 8 = (u64 x : Int) := by
 have hu := u64_ok x
 exact be_back (n := 8) (x := u64 x) (rest := rest) (by have h2 := hu.2; omega)
theorem takeC_rd {c c' : ContD} {rest : List UInt8} {t' : RSt} (hg : GoodC c) (hok : OkC c) (h : TakeCR (ts (encC c ++ rest)) c' t') : c' = c ∧ t' = ts rest := by
 obtain ⟨n, er, ht, rfl⟩ := h
 obtain ⟨rfl, rfl, rfl⟩ := takeC_back hg hok ht
 refine ⟨rfl, ?_⟩
 obtain ⟨a, _⟩ := next_app (k := ((encC c').length : Int)) (pre := encC c') (rest := rest) rfl
 show (⟨(⟨encC c' ++ rest, 0⟩ : St).next _, _⟩ : RSt) = _
 rw [a]; rfl
theorem takeR_rd {r r' : RowD} {rest : List UInt8} {t' : RSt} (hc : chkRowC r = 0) (hok : RowOk r) (h : TakeRR (ts (encRow r ++ rest)) r' t') : r' = r ∧ t' = ts rest := by
 obtain ⟨n, er, ht, rfl⟩ := h
 obtain ⟨rfl, rfl, rfl⟩ := takeR_back hc hok ht
 refine ⟨rfl, ?_⟩
 obtain ⟨a, _⟩ := next_app (k := ((encRow r').length : Int)) (pre := encRow r') (rest := rest) rfl
 show (⟨(⟨encRow r' ++ rest, 0⟩ : St).next _, _⟩ : RSt) = _
 rw [a]; rfl
section
variable {α : Type} {R : RSt → α → RSt → Prop} {f : α → List UInt8}
theorem listQ_back {L : List α} (hb : ∀ x ∈ L, ∀ rest y t', R (ts (f x ++ rest)) y t' → y = x ∧ t' = ts rest) : ∀ (n : Nat) (rest : List UInt8) (M : List α) (t' : RSt), n ≤ L.length → ListQ R n (ts (encL f (L.take n) ++ rest)) M t' → M = L.take n ∧ t' = ts rest
 | 0, rest, M, t', _, h => by
   obtain ⟨rfl, rfl⟩ := h
   exact ⟨by simp, by simp [encL]⟩
 | n + 1, rest, M, t', hn, h => by
   obtain ⟨M', x, t1, rfl, h1, h2⟩ := h
   have hx : L[n]? = some (L[n]'(by omega)) := List.getElem?_eq_getElem (by omega)
   rw [encL_step hx, List.append_assoc] at h1
   obtain ⟨rfl, rfl⟩ := listQ_back hb n (f (L[n]'(by omega)) ++ rest) M' t1 (by omega) h1
   obtain ⟨rfl, rfl⟩ := hb _ (List.mem_of_getElem? hx) rest x t' h2
   refine ⟨?_, rfl⟩
   rw [List.take_add_one, hx]; rfl
theorem listW_back {L M : List α} {most : Int} {rest : List UInt8} {t' : RSt} (hb : ∀ x ∈ L, ∀ rest y t', R (ts (f x ++ rest)) y t' → y = x ∧ t' = ts rest) (hm : (L.length : Int) ≤ most) (h256 : most < 256)
 (h : ListW R most (ts (be 1 (u64 (L.length : Int)) ++ (encL f L ++ rest))) M t') : M = L ∧ t' = ts rest := by
 obtain ⟨a, b⟩ := n1_back (x := (L.length : Int)) (rest := encL f L ++ rest) (by omega) (by omega)
 unfold ListW at h
 rw [a, b] at h
 rcases h with ⟨h1, _⟩ | ⟨_, h⟩
 · omega
 · rw [Int.toNat_natCast] at h
   have e : encL f L = encL f (L.take L.length) := by rw [List.take_length]
   rw [e] at h
   have := listQ_back hb L.length rest M t' (Nat.le_refl _) h
   rwa [List.take_length] at this
end
structure ImgOk (d : ImgD) : Prop where
 p0 : 0 ≤ d.page
 p1 : d.page < 64
 gb : GoodC d.bef
 ga : GoodC d.aft
 ob : OkC d.bef
 oa : OkC d.aft
theorem image_back {d : ImgD} (h : ImgOk d) (rest : List UInt8) (y : ImgD) (t' : RSt) (hr : ImageR (ts (encImg d ++ rest)) y t') : y = d ∧ t' = ts rest := by
 obtain ⟨t2, h1, h2, h3⟩ := hr
 unfold encImg at h1 h2
 rw [List.append_assoc] at h1 h2
 obtain ⟨a, b⟩ := n1_back (x := d.page) (rest := (encC d.bef ++ encC d.aft) ++ rest) h.p0 (by have := h.p1; omega)
 rw [b] at h1
 rw [a, List.append_assoc] at h2
 obtain ⟨e1, rfl⟩ := takeC_rd h.gb h.ob h2
 obtain ⟨e2, rfl⟩ := takeC_rd h.ga h.oa h3
 obtain ⟨p, be, af⟩ := y
 obtain ⟨p', be', af'⟩ := d
 simp only at h1 e1 e2
 subst h1 e1 e2
 exact ⟨rfl, rfl⟩
theorem after_back {d : ImgD} (h : ImgOk d) (hz : d.bef = zeroC) (rest : List UInt8) (y : ImgD) (t' : RSt) (hr : AfterR (ts (encAft d ++ rest)) y t') : y = d ∧ t' = ts rest := by
 obtain ⟨h1, h2, h3⟩ := hr
 unfold encAft at h1 h3
 rw [List.append_assoc] at h1 h3
 obtain ⟨a, b⟩ := n1_back (x := d.page) (rest := encC d.aft ++ rest) h.p0 (by have := h.p1; omega)
 rw [b] at h1
 rw [a] at h3
 obtain ⟨e2, rfl⟩ := takeC_rd h.ga h.oa h3
 obtain ⟨p, be, af⟩ := y
 obtain ⟨p', be', af'⟩ := d
 simp only at h1 h2 e2 hz
 subst h1 h2 e2 hz
 exact ⟨rfl, rfl⟩
theorem wrap_u64 {x : Int} (h : I64 x) : IntKind.i64.wrap (u64 x : Int) = x := by
 rw [IntKind.wrap_i64]
 unfold u64
 unfold I64 at h
 omega
theorem bare_back {k : KeyD} {rest : List UInt8} (h0 : 0 ≤ k.t) (h1 : k.t < 3) (hi0 : 0 ≤ k.id) (hi1 : k.id < 65536) : bareD (ts (be 1 (u64 k.t) ++ (be 2 (u64 k.id) ++ rest))) = ⟨k, 0, ⟨#[]⟩⟩ ∧ bareT (ts (be 1 (u64 k.t) ++ (be 2 (u64 k.id) ++ rest))) = ts rest := by
 obtain ⟨a, b⟩ := n1_back (x := k.t) (rest := be 2 (u64 k.id) ++ rest) h0 (by omega)
 obtain ⟨c, d⟩ := n2_back (x := k.id) (rest := rest) hi0 hi1
 unfold bareD bareT
 rw [a, b, c, d]
 exact ⟨rfl, rfl⟩
theorem step_back {s : StepD} (hg : stpB s = true) (hok : StepOk s) (rest : List UInt8) (y : StepD) (t' : RSt) (hr : StepR (ts (encStep s ++ rest)) y t') : y = s ∧ t' = ts rest := by
 obtain ⟨hc, hk⟩ := stp_kind hg
 have hfit := fitsR_ok (L := []) (r := s.row) (by unfold fitsR; rw [hc]; rfl)
 have hid := hok.row.key.id
 unfold stpB at hg
 rw [Bool.and_eq_true] at hg
 have hg := hg.2
 unfold encStep at hr
 rw [List.append_assoc] at hr
 obtain ⟨a, b⟩ := n1_back (x := s.kind) (rest := (if s.kind = 2 then encRow s.row else if s.kind = 3 then encRow s.row else be 1 (u64 s.row.key.t) ++ (be 2 (u64 s.row.key.id) ++ (if s.kind = 1 then be 8 (u64 s.by_) else []))) ++ rest) (by omega) (by omega)
 unfold StepR at hr
 rw [a, b] at hr
 obtain ⟨kd, ⟨⟨t, id⟩, v, n⟩, by_⟩ := s
 simp only at hk hg hr hc hfit hid
 rcases hk with rfl | rfl | rfl | rfl
 · simp only [Int.reduceEq, if_true, if_false, or_self, List.append_assoc] at hr hg
   obtain ⟨e1, e2⟩ := bare_back (k := ⟨t, id⟩) (rest := be 8 (u64 by_) ++ rest) hfit.1 hfit.2.1 hid.1 hid.2
   simp only at e1 e2
   obtain ⟨c, d⟩ := u8_back (x := by_) (rest := rest)
   rw [e1, e2, c, d, wrap_u64 hok.by_] at hr
   have hb := eqR_iff.1 hg
   simp only at hb
   obtain ⟨rfl, rfl⟩ := hr
   rw [hb]
   exact ⟨rfl, rfl⟩
 · simp only [Int.reduceEq, if_true, if_false, true_or] at hr hg
   obtain ⟨r, hr1, rfl⟩ := hr
   obtain ⟨rfl, rfl⟩ := takeR_rd hc hok.row hr1
   have : by_ = 0 := by simpa using hg
   subst this
   exact ⟨rfl, rfl⟩
 · simp only [Int.reduceEq, if_true, if_false, or_true] at hr hg
   obtain ⟨r, hr1, rfl⟩ := hr
   obtain ⟨rfl, rfl⟩ := takeR_rd hc hok.row hr1
   have : by_ = 0 := by simpa using hg
   subst this
   exact ⟨rfl, rfl⟩
 · simp only [Int.reduceEq, if_true, if_false, or_self, List.append_assoc, List.nil_append] at hr hg
   obtain ⟨e1, e2⟩ := bare_back (k := ⟨t, id⟩) (rest := rest) hfit.1 hfit.2.1 hid.1 hid.2
   simp only at e1 e2
   rw [e1, e2] at hr
   rw [Bool.and_eq_true] at hg
   have hb := eqR_iff.1 hg.1
   simp only at hb
   have : by_ = 0 := by simpa using hg.2
   subst this
   obtain ⟨rfl, rfl⟩ := hr
   rw [hb]
   exact ⟨rfl, rfl⟩
theorem txn_back {t : TxnD} (h0 : 0 ≤ t.txn) (h1 : t.txn < 4294967296) (hs0 : 0 ≤ t.state) (hs1 : t.state < 256) (hok : TxnOk t) (rest : List UInt8) (y : TxnD) (t' : RSt) (hr : TxnR (ts (encTxn t ++ rest)) y t') : y = t ∧ t' = ts rest := by
 obtain ⟨h2, h3⟩ := hr
 unfold encTxn at h2 h3
 simp only [List.append_assoc] at h2 h3
 obtain ⟨a1, b1⟩ := n4_back (x := t.txn) (rest := be 8 t.first.toNat ++ (be 8 t.last.toNat ++ (be 8 t.undo.toNat ++ (be 1 (u64 t.state) ++ rest)))) h0 h1
 obtain ⟨a2, b2⟩ := n8_back (x := t.first) (rest := be 8 t.last.toNat ++ (be 8 t.undo.toNat ++ (be 1 (u64 t.state) ++ rest))) hok.first
 obtain ⟨a3, b3⟩ := n8_back (x := t.last) (rest := be 8 t.undo.toNat ++ (be 1 (u64 t.state) ++ rest)) hok.last
 obtain ⟨a4, b4⟩ := n8_back (x := t.undo) (rest := be 1 (u64 t.state) ++ rest) hok.undo
 obtain ⟨a5, b5⟩ := n1_back (x := t.state) (rest := rest) hs0 hs1
 rw [a1, a2, a3, a4, b1, b2, b3, b4, b5] at h2
 rw [a1, a2, a3, a4, a5] at h3
 exact ⟨h2, h3⟩
theorem pg_back {p : PgD} (h0 : 0 ≤ p.page) (h1 : p.page < 64) (hok : PgOk p) (rest : List UInt8) (y : PgD) (t' : RSt) (hr : PgR (ts (encPg p ++ rest)) y t') : y = p ∧ t' = ts rest := by
 obtain ⟨h2, h3⟩ := hr
 unfold encPg at h2 h3
 rw [List.append_assoc] at h2 h3
 obtain ⟨a1, b1⟩ := n1_back (x := p.page) (rest := be 8 p.rec_.toNat ++ rest) h0 (by omega)
 obtain ⟨a2, b2⟩ := n8_back (x := p.rec_) (rest := rest) hok.rec_
 rw [a1, b1, b2] at h2
 rw [a1, a2] at h3
 exact ⟨h2, h3⟩
end Go.Proofs.YtocekhckmpkbmaaGreat
namespace Go.Proofs.YtocekhckmpkbmaaGreat
open Go.RowKit
theorem sameB_iff {α : Type} {e : α → α → Bool} (he : ∀ a b, e a b = true ↔ a = b) : ∀ {l m : List α}, sameB e l m = true ↔ l = m
 | [], [] => by simp [sameB]
 | [], _ :: _ => by simp [sameB]
 | _ :: _, [] => by simp [sameB]
 | a :: l, b :: m => by simp [sameB, he a b, sameB_iff he (l := l) (m := m)]
theorem sameI_iff (a b : ImgD) : sameI a b = true ↔ a = b := by
 obtain ⟨p, x, y⟩ := a
 obtain ⟨p', x', y'⟩ := b
 unfold sameI
 simp only [Bool.and_eq_true, sameC_iff, beq_iff_eq, ImgD.mk.injEq]
 exact ⟨fun h => ⟨h.1.1, h.1.2, h.2⟩, fun h => ⟨⟨h.1, h.2.1⟩, h.2.2⟩⟩
theorem eqS_iff (a b : StepD) : eqS a b = true ↔ a = b := by
 obtain ⟨p, x, y⟩ := a
 obtain ⟨p', x', y'⟩ := b
 unfold eqS
 simp only [Bool.and_eq_true, eqR_iff, beq_iff_eq, StepD.mk.injEq]
theorem eqT_iff (a b : TxnD) : eqT a b = true ↔ a = b := by
 obtain ⟨p, x, y, z, u⟩ := a
 obtain ⟨p', x', y', z', u'⟩ := b
 unfold eqT
 simp only [Bool.and_eq_true, beq_iff_eq, TxnD.mk.injEq]
theorem eqP_iff (a b : PgD) : eqP a b = true ↔ a = b := by
 obtain ⟨p, x⟩ := a
 obtain ⟨p', x'⟩ := b
 unfold eqP
 simp only [Bool.and_eq_true, beq_iff_eq, PgD.mk.injEq]
theorem sameRec_iff (a b : RecD) : sameRec a b = true ↔ a = b := by
 obtain ⟨a1, a2, a3, a4, a5, a6, a7, a8, a9, a10⟩ := a
 obtain ⟨b1, b2, b3, b4, b5, b6, b7, b8, b9, b10⟩ := b
 unfold sameRec
 simp only [Bool.and_eq_true, beq_iff_eq, RecD.mk.injEq, sameB_iff sameI_iff, sameB_iff eqS_iff, sameB_iff eqT_iff, sameB_iff eqP_iff]
/-- what a record holds can be laid: each number is one of its kind -/
structure DOk (r : RecD) : Prop where
 ints : I64 r.kind ∧ U64 r.lsn ∧ I64 r.txn ∧ U64 r.prev ∧ U64 r.next ∧ I64 r.nextTxn
 img : ∀ d ∈ r.images, OkC d.bef ∧ OkC d.aft
 sok : ∀ s ∈ r.steps, StepOk s
 tok : ∀ t ∈ r.txns, TxnOk t
 dok : ∀ p ∈ r.dirty, PgOk p
theorem RecV.On.ok {v : RecV} {w : World} {V : List ImgV} {r : RecD} (h : v.On w V r) : DOk r :=
 ⟨h.ints, fun d hd => by
  obtain ⟨i, hi⟩ := List.mem_iff_getElem?.1 hd
  have hl := (List.getElem?_eq_some_iff.1 hi).1
  have hv : V[i]? = some (V[i]'(by have := h.images.len; omega)) := List.getElem?_eq_getElem _
  have ho := h.images.get i _ d hv hi
  exact ⟨ContOn.ok ho.bef, ContOn.ok ho.aft⟩, h.sok, h.tok, h.dok⟩
theorem riseF_at2 : ∀ (L : List Int) (a : Int), riseF a L = true → ∀ p ∈ L, a < p ∧ p < 64
 | [], _, _, p, hp => by cases hp
 | q :: r, a, h, p, hp => by
   unfold riseF at h
   split at h
   · cases h
   · rcases List.mem_cons.1 hp with rfl | hp
     · omega
     · have := riseF_at2 r q h p hp; omega
theorem imgs_ok {r : RecD} (hok : DOk r) (h : imgsB r.images = true) : ∀ d ∈ r.images, ImgOk d := fun d hd => by
 have hi := (pB_iff _).1 h
 have hp := riseF_at2 _ _ hi.1.2 d.page (List.mem_map.2 ⟨d, hd, rfl⟩)
 have hg := hi.2 d hd
 exact ⟨by omega, hp.2, hg.1, hg.2, (hok.img d hd).1, (hok.img d hd).2⟩
theorem txF_at2 {lsn nt : Int} : ∀ (L : List TxnD) (a : Int), txF lsn nt a L = true → ∀ t ∈ L, a < t.txn ∧ t.txn < nt ∧ 1 ≤ t.state ∧ t.state ≤ 3
 | [], _, _, t, ht => by cases ht
 | q :: r, a, h, t, ht => by
   unfold txF at h
   split at h
   · cases h
   · rename_i hb
     unfold txBad at hb
     rcases List.mem_cons.1 ht with rfl | ht
     · omega
     · have := txF_at2 r q.txn h t ht; omega
theorem kind_range {r : RecD} (h : mayB r = true) : 1 ≤ r.kind ∧ r.kind ≤ 9 := by
 have hl := lay_of h
 unfold LayOk at hl
 by_cases h2 : r.kind = 2
 · omega
 by_cases h4 : r.kind = 4
 · omega
 by_cases h5 : r.kind = 5
 · omega
 by_cases h9 : r.kind = 9
 · omega
 rw [if_neg h2, if_neg h4, if_neg h5, if_neg h9] at hl
 omega
theorem may_parts {r : RecD} (h : mayB r = true) : 1 ≤ r.lsn ∧ r.lsn ≤ 1099511627776 ∧ othersD r = zRec ∧ kindB r = true := by
 unfold mayB headB at h
 simp only [Bool.and_eq_true, decide_eq_true_eq, sameRec_iff] at h
 exact ⟨h.1.1, h.1.2.1, h.1.2.2, h.2⟩
theorem chain_txn {r : RecD} (h : chainB r = true) : 0 ≤ r.txn ∧ r.txn < 4294967296 := by
 unfold chainB numB at h
 simp only [Bool.and_eq_true, decide_eq_true_eq] at h
 omega
theorem txn_range {r : RecD} (h : mayB r = true) : 0 ≤ r.txn ∧ r.txn < 4294967296 := by
 have hk := kind_range h
 have hb := (may_parts h).2.2.2
 have hc : r.kind = 1 ∨ r.kind = 2 ∨ r.kind = 3 ∨ r.kind = 4 ∨ r.kind = 5 ∨ r.kind = 6 ∨ r.kind = 7 ∨ r.kind = 8 ∨ r.kind = 9 := by omega
 rcases hc with e | e | e | e | e | e | e | e | e
 · rw [kindB1 e] at hb; unfold numB at hb; simp only [Bool.and_eq_true, decide_eq_true_eq] at hb; omega
 · rw [kindB2 e] at hb; simp only [Bool.and_eq_true] at hb; exact chain_txn hb.1
 · rw [kindB3 e] at hb; simp only [Bool.and_eq_true] at hb; exact chain_txn hb.1
 · rw [kindB4 e] at hb; simp only [Bool.and_eq_true] at hb; exact chain_txn hb.1
 · rw [kindB5 e] at hb; simp only [Bool.and_eq_true] at hb; exact chain_txn hb.1
 · rw [kindB6 e] at hb; exact chain_txn hb
 · rw [kindB7 e] at hb; exact chain_txn hb
 · rw [kindB8 e] at hb; exact chain_txn hb
 · rw [kindB9 e] at hb; simp only [Bool.and_eq_true, beq_iff_eq] at hb; omega
theorem head_back {r : RecD} (hm : mayB r = true) (hok : DOk r) (tail : List UInt8) : headR (encRec r ++ tail) = headD r.kind r.lsn r.txn r.prev ∧ tailT (encRec r ++ tail) = ts (encRest r ++ tail) := by
 have hk := kind_range hm
 have ht := txn_range hm
 have e : encRec r ++ tail = be 1 (u64 r.kind) ++ (be 8 r.lsn.toNat ++ (be 4 (u64 r.txn) ++ (be 8 r.prev.toNat ++ (encRest r ++ tail)))) := by unfold encRec; simp only [List.append_assoc]
 obtain ⟨a1, b1⟩ := n1_back (x := r.kind) (rest := be 8 r.lsn.toNat ++ (be 4 (u64 r.txn) ++ (be 8 r.prev.toNat ++ (encRest r ++ tail)))) (by omega) (by omega)
 obtain ⟨a2, b2⟩ := n8_back (x := r.lsn) (rest := be 4 (u64 r.txn) ++ (be 8 r.prev.toNat ++ (encRest r ++ tail))) hok.ints.2.1
 obtain ⟨a3, b3⟩ := n4_back (x := r.txn) (rest := be 8 r.prev.toNat ++ (encRest r ++ tail)) ht.1 ht.2
 obtain ⟨a4, b4⟩ := n8_back (x := r.prev) (rest := encRest r ++ tail) hok.ints.2.2.2.1
 have e0 : t0R (encRec r ++ tail) = ts (be 1 (u64 r.kind) ++ (be 8 r.lsn.toNat ++ (be 4 (u64 r.txn) ++ (be 8 r.prev.toNat ++ (encRest r ++ tail))))) := by rw [e]; rfl
 unfold headR tailT
 rw [e0, a1, a2, a3, a4, b1, b2, b3, b4]
 exact ⟨rfl, rfl⟩
theorem rest_back {r r' : RecD} {t' : RSt} (hm : mayB r = true) (hok : DOk r) (tail : List UInt8) (h : RestR (headD r.kind r.lsn r.txn r.prev) (ts (encRest r ++ tail)) r' t') : r' = r ∧ t' = ts tail := by
 have hk := kind_range hm
 obtain ⟨_, _, hoth, hb⟩ := may_parts hm
 have hc : r.kind = 1 ∨ r.kind = 2 ∨ r.kind = 3 ∨ r.kind = 4 ∨ r.kind = 5 ∨ r.kind = 6 ∨ r.kind = 7 ∨ r.kind = 8 ∨ r.kind = 9 := by omega
 unfold RestR at h
 unfold encRest at h
 simp only [headD] at h
 unfold othersD zRec at hoth
 obtain ⟨k, lsn, txn, prev, next, images, steps, nextTxn, txns, dirty⟩ := r
 simp only at hc h hoth
 rcases hc with rfl | rfl | rfl | rfl | rfl | rfl | rfl | rfl | rfl
 case inr.inl =>
  simp only [Int.reduceEq, if_true, if_false, RecD.mk.injEq, true_and, List.append_assoc] at h hoth
  obtain ⟨rfl, rfl, rfl, rfl, rfl⟩ := hoth
  rw [kindB2 rfl] at hb
  simp only [Bool.and_eq_true] at hb
  obtain ⟨L, hl, rfl⟩ := h
  have hi := imgs_ok hok hb.2.2
  have h16 := ((pB_iff _).1 hb.2.2).1.1
  obtain ⟨rfl, rfl⟩ := listW_back (L := images) (f := encImg) (fun x hx rest y t' => image_back (hi x hx) rest y t') (by have h2 : images.length ≤ 16 := h16; omega) (by decide) hl
  exact ⟨rfl, rfl⟩
 case inr.inr.inl =>
  simp only [Int.reduceEq, if_true, if_false, RecD.mk.injEq, true_and] at h hoth
  obtain ⟨rfl, rfl, rfl, rfl, rfl⟩ := hoth
  obtain ⟨a, b⟩ := n8_back (x := next) (rest := tail) hok.ints.2.2.2.2.1
  rw [a, b] at h
  exact h
 case inr.inr.inr.inl =>
  simp only [Int.reduceEq, if_true, if_false, RecD.mk.injEq, true_and, List.append_assoc] at h hoth
  obtain ⟨rfl, rfl, rfl, rfl⟩ := hoth
  rw [kindB4 rfl] at hb
  simp only [Bool.and_eq_true] at hb
  have hs := hb.2.2
  unfold stpsB at hs
  simp only [Bool.and_eq_true, decide_eq_true_eq] at hs
  obtain ⟨a, b⟩ := n8_back (x := next) (rest := be 1 (u64 (steps.length : Int)) ++ (encL encStep steps ++ tail)) hok.ints.2.2.2.2.1
  rw [a, b] at h
  obtain ⟨L, hl, rfl⟩ := h
  obtain ⟨rfl, rfl⟩ := listW_back (L := steps) (f := encStep) (fun x hx rest y t' => step_back (List.all_eq_true.1 hs.2.2 x hx) (hok.sok x hx) rest y t') (by omega) (by decide) hl
  exact ⟨rfl, rfl⟩
 case inr.inr.inr.inr.inl =>
  simp only [Int.reduceEq, if_true, if_false, RecD.mk.injEq, true_and, List.append_assoc] at h hoth
  obtain ⟨rfl, rfl, rfl, rfl⟩ := hoth
  rw [kindB5 rfl] at hb
  simp only [Bool.and_eq_true] at hb
  have hi := imgs_ok hok hb.2.2.1
  have h16 := ((pB_iff _).1 hb.2.2.1).1.1
  have hz := (pB_iff _).1 hb.2.2.2
  obtain ⟨a, b⟩ := n8_back (x := next) (rest := be 1 (u64 (images.length : Int)) ++ (encL encAft images ++ tail)) hok.ints.2.2.2.2.1
  rw [a, b] at h
  obtain ⟨L, hl, rfl⟩ := h
  obtain ⟨rfl, rfl⟩ := listW_back (L := images) (f := encAft) (fun x hx rest y t' => after_back (hi x hx) (hz x hx) rest y t') (by have h2 : images.length ≤ 16 := h16; omega) (by decide) hl
  exact ⟨rfl, rfl⟩
 case inr.inr.inr.inr.inr.inr.inr.inr =>
  simp only [Int.reduceEq, if_true, if_false, RecD.mk.injEq, true_and, and_true, List.append_assoc] at h hoth
  obtain ⟨rfl, rfl, rfl⟩ := hoth
  rw [kindB9 rfl] at hb
  simp only [Bool.and_eq_true, beq_iff_eq] at hb
  have hn := hb.2.2.1
  unfold numB at hn
  simp only [Bool.and_eq_true, decide_eq_true_eq] at hn
  have ht := hb.2.2.2.1
  unfold txnsB at ht
  have hd := hb.2.2.2.2
  unfold dirtyB at hd
  simp only [Bool.and_eq_true, decide_eq_true_eq] at ht hd
  have hl64 := riseF_len _ _ (by decide) hd.2
  rw [List.length_map] at hl64
  obtain ⟨a, b⟩ := n4_back (x := nextTxn) (rest := be 1 (u64 (txns.length : Int)) ++ (encL encTxn txns ++ (be 1 (u64 (dirty.length : Int)) ++ (encL encPg dirty ++ tail)))) (by omega) (by omega)
  rw [a, b] at h
  obtain ⟨L, M, t1, hl, hm2, rfl⟩ := h
  obtain ⟨rfl, rfl⟩ := listW_back (L := txns) (f := encTxn) (fun x hx rest y t' => by
   have h1 := txF_at2 _ _ ht.2 x hx
   exact txn_back (by omega) (by omega) (by omega) (by omega) (hok.tok x hx) rest y t') (by omega) (by decide) hl
  obtain ⟨rfl, rfl⟩ := listW_back (L := dirty) (f := encPg) (fun x hx rest y t' => by
   have h1 := riseF_at2 _ _ hd.2 x.page (List.mem_map.2 ⟨x, hx, rfl⟩)
   exact pg_back (by omega) h1.2 (hok.dok x hx) rest y t') (by omega) (by decide) hm2
  exact ⟨rfl, rfl⟩
 all_goals
  simp only [Int.reduceEq, if_false, RecD.mk.injEq, true_and, List.nil_append] at h hoth
  obtain ⟨rfl, rfl, rfl, rfl, rfl, rfl⟩ := hoth
  exact h
/-- A record's bytes, and whatever stands behind: it is read back, and good just if nothing stands behind. -/
theorem read_back {r r' : RecD} {good : Bool} (hm : mayB r = true) (hok : DOk r) (tail : List UInt8) (h : ReadR (encRec r ++ tail) r' good) : r' = r ∧ good = ((tail.length : Int) == 0) := by
 obtain ⟨e1, e2⟩ := head_back hm hok tail
 have hk := kind_range hm
 unfold ReadR at h
 rw [e1, e2, if_pos (show 1 ≤ (headD r.kind r.lsn r.txn r.prev).kind ∧ (headD r.kind r.lsn r.txn r.prev).kind ≤ 9 from hk)] at h
 obtain ⟨t', h1, rfl⟩ := h
 obtain ⟨rfl, rfl⟩ := rest_back hm hok tail h1
 exact ⟨rfl, by simp [ts]⟩
end Go.Proofs.YtocekhckmpkbmaaGreat
namespace Go.Proofs.YtocekhckmpkbmaaGreat
open Go.RowKit
/-- reading went well only if it went well before, and then these bytes stood ahead -/
def Went (t : RSt) (e : List UInt8) (t' : RSt) : Prop := t'.s.e = 0 → t'.b = false → t.s.e = 0 ∧ t.b = false ∧ t.s.l = e ++ t'.s.l
theorem Went.refl (t : RSt) : Went t [] t := fun h1 h2 => ⟨h1, h2, rfl⟩
theorem Went.trans {t t1 t2 : RSt} {e f : List UInt8} (h : Went t e t1) (k : Went t1 f t2) : Went t (e ++ f) t2 := fun h1 h2 => by
 obtain ⟨a, b, c⟩ := k h1 h2
 obtain ⟨a', b', c'⟩ := h a b
 exact ⟨a', b', by rw [c', c, List.append_assoc]⟩
section
variable {α : Type} {R : RSt → α → RSt → Prop} {f : α → List UInt8}
end
end Go.Proofs.YtocekhckmpkbmaaGreat
