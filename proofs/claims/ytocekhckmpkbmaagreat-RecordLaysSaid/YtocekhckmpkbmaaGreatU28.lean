/- Parts of the proof: The reader of record: read; The reader of record: read; Decode of record; What undoing a record costs: undone, befores, changes, Reserve; Plain mathematics of records' bytes: what is read, and may be, was laid so; wakes of the laws on records -/
import Derived.Test.YtocekhckmpkbmaaGreatU25
import Derived.Test.YtocekhckmpkbmaaGreatU01
import Derived.Test.YtocekhckmpkbmaaGreatU27
import Derived.Test.YtocekhckmpkbmaaGreatU24
import Derived.Test.YtocekhckmpkbmaaGreatU26
namespace Go.Proofs.YtocekhckmpkbmaaGreat
open Go.RowKit Go.ChangeMaps
end Go.Proofs.YtocekhckmpkbmaaGreat
namespace Go.Proofs.YtocekhckmpkbmaaGreat
open Go.RowKit Go.ChangeMaps
set_option maxRecDepth 100000 in
theorem read_any2 (p : Option Addr) (n c : Nat) (b : List UInt8) (w : World) (hv : Lib.HoldsBytes w (.slice p n c) b) (hnc : n ≤ c) (hn : n ≤ 140737488355328) (hfar : ∀ a, p = some a → b ≠ [] → a.block < w.heap.size) (hk : (t0R b).nm 1 = 4) :
 Calls Tryz.prog 45 #[.slice p n c] w (ReadRPost b w) := by
 have h0 : 1 ≤ (t0R b).nm 1 ∧ (t0R b).nm 1 ≤ 9 := by omega
 refine read_0 105 p n c b w hv hnc hn hfar h0 (fun g => by rw [hk]; rfl) (fun _ _ => rfl) ?_; rw [hk]; exact fun w g gr R d all t h lsn txn prev a1 a2 a3 a4 a5 a6 a7 => done_rr h lsn txn prev a1 a2 a3 a4 a5 a6 a7
end Go.Proofs.YtocekhckmpkbmaaGreat
namespace Go.Proofs.YtocekhckmpkbmaaGreat
open Go.RowKit
/-- what Decode answers of bytes -/
def DecR (b : List UInt8) (r : RecD) (er : Int) : Prop := (er = 0 ∧ ReadR b r true ∧ mayB r = true) ∨ (er = 161 ∧ r = zRec ∧ ∃ r' good, ReadR b r' good ∧ (good = true → mayB r' = false))
def DecPost (b : List UInt8) (w : World) (e : Ending) (w' : World) : Prop := ∃ (v : RecV) (V : List ImgV) (r : RecD) (er : Int), e = .returned (.tuple #[v.val, .int .i64 er]) ∧ (∀ x : World, Alike w.heap.size w' x → v.On x V r) ∧ DecR b r er ∧ Below w.heap.size w w'
set_option maxRecDepth 100000 in
set_option maxHeartbeats 8000000 in
theorem decode_any (p : Option Addr) (n c : Nat) (b : List UInt8) (w : World) (hv : Lib.HoldsBytes w (.slice p n c) b) (hnc : n ≤ c) (hn : n ≤ 140737488355328) (hfar : ∀ a, p = some a → b ≠ [] → a.block < w.heap.size) (hk4 : (t0R b).nm 1 = 4) :
 Calls Tryz.prog 19 #[.slice p n c] w (DecPost b w) := by
 obtain ⟨W, hW⟩ : ∃ W, w.alloc (.cells #[.int .i64 0, .int .u64 0, .int .i64 0, .int .u64 0, .int .u64 0, .slice none 0 0, .slice none 0 0, .int .i64 0, .slice none 0 0, .slice none 0 0] 30) = W := ⟨_, rfl⟩; have hbW : Below w.heap.size w W := by rw [← hW]; exact (Below.refl _ _).alloc (Nat.le_refl _) _
 have hrow : RowV 30 W w.heap.size [.int .i64 0, .int .u64 0, .int .i64 0, .int .u64 0, .int .u64 0, .slice none 0 0, .slice none 0 0, .int .i64 0, .slice none 0 0, .slice none 0 0] := by rw [← hW]; exact RowV.made w _
 have hrow := lh hrow; have hbW := lh hbW; have hrd := lh (read_any2 p n c b W (holds_below hv hbW.out (Nat.le_refl _)) hnc hn (fun a ha hb => Nat.lt_of_lt_of_le (hfar a ha hb) hbW.out.size) hk4); have hlt : Hid (w.heap.size < W.heap.size) := hrow.out.lt; have zz : (Tryz.prog.info? 30).map (·.size) = some ([.int .i64 0, .int .u64 0, .int .i64 0, .int .u64 0, .int .u64 0, .slice none 0 0, .slice none 0 0, .int .i64 0, .slice none 0 0, .slice none 0 0] : List Value).length := sizeRec ⟨0, 0, 0, 0, 0, none, 0, 0, none, 0, 0, 0, none, 0, 0, none, 0, 0⟩; have zone : ∀ x ∈ ([.int .i64 0, .int .u64 0, .int .i64 0, .int .u64 0, .int .u64 0, .slice none 0 0, .slice none 0 0, .int .i64 0, .slice none 0 0, .slice none 0 0] : List Value), x.oneCell' = true := one_all rfl; clear hv hnc hn hfar
 go_enter Tryz.func19, Tryz.ntmps19
 go_wp2_with fail
 clear hW; refine hrd.out.mono ?_; clear hrd; rintro e w1 ⟨⟨kind, lsn, txn, prev, next, iq, im, ic, sq, sn, sc, nextTxn, tq, tn, tc, dq, dn, dc⟩, V, r, good, rfl, hon, hrr, hb1⟩; have hon := lh hon; have hrr := lh hrr; have hr1 := lh (hrow.out.below hb1); have hd1 := lh (hbW.out.trans (hb1.mono hbW.out.size)); have hs1 : Hid (W.heap.size ≤ w1.heap.size) := hb1.size; clear hb1; obtain ⟨w2, hw2⟩ : ∃ y, w1.alloc (.cells #[.int .i64 kind, .int .u64 lsn, .int .i64 txn, .int .u64 prev, .int .u64 next, .slice iq im ic, .slice sq sn sc, .int .i64 nextTxn, .slice tq tn tc, .slice dq dn dc] 30) = y := ⟨_, rfl⟩; have hbx := lh (one_box hw2); have hr2 := lh (hr1.out.below hbx.out.1); have hd2 := lh (hd1.out.trans (hbx.out.1.mono hd1.out.size)); have zr : (Tryz.prog.info? 30).map (·.size) = some ([.int .i64 kind, .int .u64 lsn, .int .i64 txn, .int .u64 prev, .int .u64 next, .slice iq im ic, .slice sq sn sc, .int .i64 nextTxn, .slice tq tn tc, .slice dq dn dc] : List Value).length := sizeRec ⟨kind, lsn, txn, prev, next, iq, im, ic, sq, sn, sc, nextTxn, tq, tn, tc, dq, dn, dc⟩
 have rone : ∀ x ∈ ([.int .i64 kind, .int .u64 lsn, .int .i64 txn, .int .u64 prev, .int .u64 next, .slice iq im ic, .slice sq sn sc, .int .i64 nextTxn, .slice tq tn tc, .slice dq dn dc] : List Value), x.oneCell' = true := one_all rfl; have hal2 : Hid (Alike W.heap.size w1 w2) := fun k _ h2 => hbx.out.1.block k h2
 cases good with
 | false =>
   have hal2 := hal2
   go_wp2_with (first
    | ((with_reducible refine wpList_store_at rfl 30 (.tmp 2) (.tmp 18) rfl (o := 0) (vs := [.int .i64 0, .int .u64 0, .int .i64 0, .int .u64 0, .int .u64 0, .slice none 0 0, .slice none 0 0, .int .i64 0, .slice none 0 0, .slice none 0 0]) rfl rfl hr2.out zz (Nat.le_refl _) zone ?_)
       intro wz h9 hg9; have rz : Hid (RowV 30 wz w.heap.size [.int .i64 0, .int .u64 0, .int .i64 0, .int .u64 0, .int .u64 0, .slice none 0 0, .slice none 0 0, .int .i64 0, .slice none 0 0, .slice none 0 0]) := h9; have gz := lh hg9
       clear h9 hg9))
   have m0 := rz.out.cell 0; have m1 := rz.out.cell 1; have m2 := rz.out.cell 2; have m3 := rz.out.cell 3; have m4 := rz.out.cell 4; have m5 := rz.out.cell 5; have m6 := rz.out.cell 6; have m7 := rz.out.cell 7; have m8 := rz.out.cell 8; have m9 := rz.out.cell 9; refine bodyPost_ret (v := .tuple #[.agg #[.int .i64 0, .int .u64 0, .int .i64 0, .int .u64 0, .int .u64 0, .slice none 0 0, .slice none 0 0, .int .i64 0, .slice none 0 0, .slice none 0 0], .int .i64 161]) (by simp [results, Tryz.results19, go_sem, m0, m1, m2, m3, m4, m5, m6, m7, m8, m9]) rfl ?_; exact ⟨⟨0, 0, 0, 0, 0, none, 0, 0, none, 0, 0, 0, none, 0, 0, none, 0, 0⟩, [], zRec, 161, rfl, (fun _ _ => zero_on _), .inr ⟨rfl, rfl, r, _, hrr.out, (fun h => by cases h)⟩, Gr.below gz.out hd2.out (Nat.le_refl _)⟩
 | true =>
   have hon2 : RecV.On ⟨kind, lsn, txn, prev, next, iq, im, ic, sq, sn, sc, nextTxn, tq, tn, tc, dq, dn, dc⟩ w2 V r := hon.out w2 hal2.out; obtain ⟨B, hB⟩ : ∃ B, mayB r = B := ⟨_, rfl⟩; have hm := mayBe_any ⟨kind, lsn, txn, prev, next, iq, im, ic, sq, sn, sc, nextTxn, tq, tn, tc, dq, dn, dc⟩ V r w2 hon2; rw [hB] at hm; have hm := lh hm; have hB := lh hB; clear hon2
   go_wp2_with (first
    | ((with_reducible refine wpList_load_g ?_ 30 (.tmp 4) rfl Tryz.underlying30 rfl zr rfl hbx.out.2.1.all ?_); exact rfl))
   clear hw2; refine hm.out.mono ?_; clear hm; rintro e w3 ⟨rfl, hb⟩; have hr3 := lh (hr2.out.below hb); have hd3 := lh (hd2.out.trans (hb.mono hd2.out.size)); have hb3 := lh hb; clear hb; cases B with
   | false =>
     go_wp2_with (first
      | ((with_reducible refine wpList_store_at rfl 30 (.tmp 2) (.tmp 18) rfl (o := 0) (vs := [.int .i64 0, .int .u64 0, .int .i64 0, .int .u64 0, .int .u64 0, .slice none 0 0, .slice none 0 0, .int .i64 0, .slice none 0 0, .slice none 0 0]) rfl rfl hr3.out zz (Nat.le_refl _) zone ?_)
         intro wz h9 hg9; have rz : Hid (RowV 30 wz w.heap.size [.int .i64 0, .int .u64 0, .int .i64 0, .int .u64 0, .int .u64 0, .slice none 0 0, .slice none 0 0, .int .i64 0, .slice none 0 0, .slice none 0 0]) := h9; have gz := lh hg9
         clear h9 hg9))
     have m0 := rz.out.cell 0; have m1 := rz.out.cell 1; have m2 := rz.out.cell 2; have m3 := rz.out.cell 3; have m4 := rz.out.cell 4; have m5 := rz.out.cell 5; have m6 := rz.out.cell 6; have m7 := rz.out.cell 7; have m8 := rz.out.cell 8; have m9 := rz.out.cell 9; refine bodyPost_ret (v := .tuple #[.agg #[.int .i64 0, .int .u64 0, .int .i64 0, .int .u64 0, .int .u64 0, .slice none 0 0, .slice none 0 0, .int .i64 0, .slice none 0 0, .slice none 0 0], .int .i64 161]) (by simp [results, Tryz.results19, go_sem, m0, m1, m2, m3, m4, m5, m6, m7, m8, m9]) rfl ?_; exact ⟨⟨0, 0, 0, 0, 0, none, 0, 0, none, 0, 0, 0, none, 0, 0, none, 0, 0⟩, [], zRec, 161, rfl, (fun _ _ => zero_on _), .inr ⟨rfl, rfl, r, _, hrr.out, (fun _ => hB.out)⟩, Gr.below gz.out hd3.out (Nat.le_refl _)⟩
   | true =>
     go_wp2_with (first
      | (with_reducible refine wpList_load_at rfl 30 (.tmp 4) rfl Tryz.underlying30 rfl zr rfl (hbx.out.2.1.below hb3.out (Nat.le_refl _)).all ?_)
      | ((with_reducible refine wpList_store_at rfl 30 (.tmp 2) (.tmp 19) rfl (o := 0) (vs := [.int .i64 kind, .int .u64 lsn, .int .i64 txn, .int .u64 prev, .int .u64 next, .slice iq im ic, .slice sq sn sc, .int .i64 nextTxn, .slice tq tn tc, .slice dq dn dc]) rfl rfl hr3.out zr (Nat.le_refl _) rone ?_)
         intro wz h9 hg9; have rz : Hid (RowV 30 wz w.heap.size [.int .i64 kind, .int .u64 lsn, .int .i64 txn, .int .u64 prev, .int .u64 next, .slice iq im ic, .slice sq sn sc, .int .i64 nextTxn, .slice tq tn tc, .slice dq dn dc]) := h9; have gz := lh hg9
         clear h9 hg9))
     have m0 := rz.out.cell 0; have m1 := rz.out.cell 1; have m2 := rz.out.cell 2; have m3 := rz.out.cell 3; have m4 := rz.out.cell 4; have m5 := rz.out.cell 5; have m6 := rz.out.cell 6; have m7 := rz.out.cell 7; have m8 := rz.out.cell 8; have m9 := rz.out.cell 9; refine bodyPost_ret (v := .tuple #[.agg #[.int .i64 kind, .int .u64 lsn, .int .i64 txn, .int .u64 prev, .int .u64 next, .slice iq im ic, .slice sq sn sc, .int .i64 nextTxn, .slice tq tn tc, .slice dq dn dc], .int .i64 0]) (by simp [results, Tryz.results19, go_sem, m0, m1, m2, m3, m4, m5, m6, m7, m8, m9]) rfl ?_; refine ⟨⟨kind, lsn, txn, prev, next, iq, im, ic, sq, sn, sc, nextTxn, tq, tn, tc, dq, dn, dc⟩, V, r, 0, rfl, fun x ha => hon.out x (fun k h1 h2 => ?_), .inl ⟨rfl, hrr.out, hB.out⟩, Gr.below gz.out hd3.out (Nat.le_refl _)⟩; have h3 := hlt.out; have h4 := hbx.out.1.size; have h5 := hb3.out.size; have h6 := gz.out.size; exact (ha k (by omega) (by omega)).trans ((gz.out.block k (by omega) (fun e => by simp at e; omega)).trans ((hb3.out.block k (by omega)).trans (hbx.out.1.block k h2)))
end Go.Proofs.YtocekhckmpkbmaaGreat
namespace Go.Proofs.YtocekhckmpkbmaaGreat
open Go.RowKit
def undD (r : RecD) (L : List ImgD) : RecD := ⟨5, r.lsn, r.txn, r.prev, 0, L, [], 0, [], []⟩
def befD (d : ImgD) : ImgD := ⟨d.page, zeroC, d.bef⟩
def chg (s : StepD) : Nat := if s.kind = 1 then 1 else if s.kind = 2 then 1 else if s.kind = 3 then 12 else if s.kind = 4 then 12 else 0
def chgs (L : List StepD) : Nat := (L.map chg).sum
theorem chgs_step {L : List StepD} {j : Nat} {s : StepD} (h : L[j]? = some s) : chgs (L.take (j + 1)) = chgs (L.take j) + chg s := by
 unfold chgs; rw [List.take_add_one, h]; simp
set_option maxRecDepth 100000 in
set_option maxHeartbeats 4000000 in
theorem undone_any (v : RecV) (q : Option Addr) (m c : Nat) (w : World) :
 Calls Tryz.prog 50 #[v.val, .slice q m c] w (fun e w' => e = .returned (RecV.val ⟨5, v.lsn, v.txn, v.prev, 0, q, m, c, none, 0, 0, 0, none, 0, 0, none, 0, 0⟩) ∧ Below w.heap.size w w') := by
 obtain ⟨kind, lsn, txn, prev, next, iq, im, ic, sq, sn, sc, nextTxn, tq, tn, tc, dq, dn, dc⟩ := v; obtain ⟨W, hW⟩ : ∃ W, (w.alloc (.cells #[.int .i64 kind, .int .u64 lsn, .int .i64 txn, .int .u64 prev, .int .u64 next, .slice iq im ic, .slice sq sn sc, .int .i64 nextTxn, .slice tq tn tc, .slice dq dn dc] 30)).alloc (.cells #[.int .i64 0, .int .u64 0, .int .i64 0, .int .u64 0, .int .u64 0, .slice none 0 0, .slice none 0 0, .int .i64 0, .slice none 0 0, .slice none 0 0] 30) = W := ⟨_, rfl⟩; have hbx := lh (two_boxes hW)
 have q0 : Hid (RowV 30 W (w.heap.size + 1) [.int .i64 0, .int .u64 0, .int .i64 0, .int .u64 0, .int .u64 0, .slice none 0 0, .slice none 0 0, .int .i64 0, .slice none 0 0, .slice none 0 0]) := by have h1 := RowV.made (T := 30) (w.alloc (.cells #[.int .i64 kind, .int .u64 lsn, .int .i64 txn, .int .u64 prev, .int .u64 next, .slice iq im ic, .slice sq sn sc, .int .i64 nextTxn, .slice tq tn tc, .slice dq dn dc] 30)) [.int .i64 0, .int .u64 0, .int .i64 0, .int .u64 0, .int .u64 0, .slice none 0 0, .slice none 0 0, .int .i64 0, .slice none 0 0, .slice none 0 0]; show RowV _ _ _ _; rw [← hW]; simpa using h1
 have z1 := hbx.out.2.1.cell 1 rfl; have z2 := hbx.out.2.1.cell 2 rfl; have z3 := hbx.out.2.1.cell 3 rfl; have hzv : (Tryz.prog.info? 30).map (·.size) = some ([.int .i64 5, .int .u64 lsn, .int .i64 txn, .int .u64 prev, .int .u64 0, .slice q m c, .slice none 0 0, .int .i64 0, .slice none 0 0, .slice none 0 0] : List Value).length := sizeRec ⟨5, lsn, txn, prev, 0, q, m, c, none, 0, 0, 0, none, 0, 0, none, 0, 0⟩; have hone : ∀ x ∈ ([.int .i64 5, .int .u64 lsn, .int .i64 txn, .int .u64 prev, .int .u64 0, .slice q m c, .slice none 0 0, .int .i64 0, .slice none 0 0, .slice none 0 0] : List Value), x.oneCell' = true := one_l rfl; show Calls _ _ #[.agg #[.int .i64 kind, .int .u64 lsn, .int .i64 txn, .int .u64 prev, .int .u64 next, .slice iq im ic, .slice sq sn sc, .int .i64 nextTxn, .slice tq tn tc, .slice dq dn dc], .slice q m c] _ _
 go_enter Tryz.func50, Tryz.ntmps50
 go_wp2_with (first
  | ((with_reducible refine wpList_store_at rfl 30 (.tmp 4) (.tmp 12) rfl (o := 0) (vs := [.int .i64 5, .int .u64 lsn, .int .i64 txn, .int .u64 prev, .int .u64 0, .slice q m c, .slice none 0 0, .int .i64 0, .slice none 0 0, .slice none 0 0]) rfl rfl q0.out hzv (Nat.le_refl _) hone ?_)
     intro wz h9 hg9; have rz : Hid (RowV 30 wz (w.heap.size + 1) [.int .i64 5, .int .u64 lsn, .int .i64 txn, .int .u64 prev, .int .u64 0, .slice q m c, .slice none 0 0, .int .i64 0, .slice none 0 0, .slice none 0 0]) := h9; have gz := lh hg9
     clear h9 hg9 hW))
 have m0 := rz.out.cell 0; have m1 := rz.out.cell 1; have m2 := rz.out.cell 2; have m3 := rz.out.cell 3; have m4 := rz.out.cell 4; have m5 := rz.out.cell 5; have m6 := rz.out.cell 6; have m7 := rz.out.cell 7; have m8 := rz.out.cell 8; have m9 := rz.out.cell 9; refine bodyPost_ret (v := .agg #[.int .i64 5, .int .u64 lsn, .int .i64 txn, .int .u64 prev, .int .u64 0, .slice q m c, .slice none 0 0, .int .i64 0, .slice none 0 0, .slice none 0 0]) (by simp [results, Tryz.results50, go_sem, m0, m1, m2, m3, m4, m5, m6, m7, m8, m9]) rfl ?_; exact ⟨rfl, Gr.below gz.out hbx.out.1 (by omega)⟩
set_option maxRecDepth 100000 in
set_option maxHeartbeats 8000000 in
theorem changes_any (q : Option Addr) (n c : Nat) (L : List StepD) (w : World) (h : SlOn w q n c L) (hn : n ≤ 1000) :
 Calls Tryz.prog 52 #[.slice q n c] w (fun e w' => e = .returned (.int .i64 ((min (chgs L) 16 : Nat) : Int)) ∧ Below w.heap.size w w') := by
 have hh := lh h; have hl : Hid (L.length = n) := h.len; clear h
 go_enter Tryz.func52, Tryz.ntmps52
 have h0 : Hid (Below w.heap.size w w) := Below.refl _ _; go_wp2
 go_loopw [8, 3] (fun v8 v3 wr => ∃ (j N : Nat), j ≤ n ∧ v8 = .int .i64 j ∧ v3 = .int .i64 N ∧ N ≤ 12 * j ∧ Hid (chgs (L.take j) = N) ∧ Hid (Below w.heap.size w wr)) (fun v8 _ _ => n - (RowKit.intOf v8).toNat)
 case atStart => exact ⟨0, 0, Nat.zero_le _, rfl, rfl, Nat.le_refl _, rfl, h0⟩
 case round =>
  obtain ⟨j, N, hj, rfl, rfl, hNb, hN, hst⟩ := hrel; clear h0
  by_cases hlt : j < n
  · obtain ⟨A, ⟨kd, ⟨⟨t, id⟩, v, s⟩, by_⟩, hqA, hdx, hcA⟩ := (hh.out.below hst.out (Nat.le_refl _)).at hlt; subst hqA; have hcA : Hid (∀ j' x, ([.int .i64 kd, .int .i64 t, .int .u16 id, .int .i64 v, .string s, .int .i64 by_] : List Value)[j']? = some x → wr.cell? ((A.add (j * 6)).add j') = some x) := hcA; have hs : (Tryz.prog.info? 70).map (·.size) = some ([.int .i64 kd, .int .i64 t, .int .u16 id, .int .i64 v, .string s, .int .i64 by_] : List Value).length := sizeStep ⟨kd, ⟨⟨t, id⟩, v, s⟩, by_⟩; have hstep : Hid (chgs (L.take (j + 1)) = N + chg ⟨kd, ⟨⟨t, id⟩, v, s⟩, by_⟩) := by show _ = _; rw [chgs_step hdx, hN.out]
    have i0 : (0 : Int) ≤ j := by omega
    have i1 : (j : Int) < n := by omega
    clear hdx; obtain ⟨we, hwe⟩ : ∃ x, wr.alloc (.cells #[.int .i64 kd, .int .i64 t, .int .u16 id, .int .i64 v, .string s, .int .i64 by_] 70) = x := ⟨_, rfl⟩; have hbk := lh (one_box hwe); have hd := lh (hst.out.trans (hbk.out.1.mono hst.out.size)); have d0 := hbk.out.2.1.cell 0 rfl
    by_cases e1 : kd = 1
    · subst e1
      go_wp2_with (first
       | (with_reducible refine wpList_load_at rfl 70 (.tmp 10) rfl Tryz.underlying70 rfl hs rfl hcA.out ?_))
      go_roundw
      case rel => exact ⟨j + 1, N + 1, by omega, by go_num, by go_num, by omega, by have h1 := hstep.out; exact h1, hd⟩
      case measure => simp [RowKit.intOf]; omega
    by_cases e2 : kd = 2
    · subst e2
      go_wp2_with (first
       | (with_reducible refine wpList_load_at rfl 70 (.tmp 10) rfl Tryz.underlying70 rfl hs rfl hcA.out ?_))
      go_roundw
      case rel => exact ⟨j + 1, N + 1, by omega, by go_num, by go_num, by omega, by have h1 := hstep.out; exact h1, hd⟩
      case measure => simp [RowKit.intOf]; omega
    by_cases e3 : kd = 3
    · subst e3
      go_wp2_with (first
       | (with_reducible refine wpList_load_at rfl 70 (.tmp 10) rfl Tryz.underlying70 rfl hs rfl hcA.out ?_))
      go_roundw
      case rel => exact ⟨j + 1, N + 12, by omega, by go_num, by go_num, by omega, by have h1 := hstep.out; exact h1, hd⟩
      case measure => simp [RowKit.intOf]; omega
    by_cases e4 : kd = 4
    · subst e4
      go_wp2_with (first
       | (with_reducible refine wpList_load_at rfl 70 (.tmp 10) rfl Tryz.underlying70 rfl hs rfl hcA.out ?_))
      go_roundw
      case rel => exact ⟨j + 1, N + 12, by omega, by go_num, by go_num, by omega, by have h1 := hstep.out; exact h1, hd⟩
      case measure => simp [RowKit.intOf]; omega
    have n1 : (kd == 1) = false := by simpa using e1
    have n2 : (kd == 2) = false := by simpa using e2
    have n3 : (kd == 3) = false := by simpa using e3
    have n4 : (kd == 4) = false := by simpa using e4
    go_wp2_with (first
     | (with_reducible refine wpList_load_at rfl 70 (.tmp 10) rfl Tryz.underlying70 rfl hs rfl hcA.out ?_))
    go_roundw
    case rel => exact ⟨j + 1, N + 0, by omega, by go_num, by go_num, by omega, by have h1 := hstep.out; unfold chg at h1; simp only at h1; rw [if_neg e1, if_neg e2, if_neg e3, if_neg e4] at h1; exact h1, hd⟩
    case measure => simp [RowKit.intOf]; omega
  · obtain rfl : n = j := by omega
    have hall : L.take n = L := List.take_of_length_le (by have h1 := hl.out; omega); rw [hall] at hN; go_wp2; go_ret; exact ⟨congrArg (fun z : Int => Ending.returned (.int .i64 z)) (by rw [hN.out]; omega), hst.out⟩
noncomputable def resN (r : RecD) : Int :=
 if r.kind = 1 then 2
 else if r.kind = 2 then (secs (encRec (undD r (r.images.map befD))).length : Int)
 else if r.kind = 4 then (secs ((encRec (undD r [])).length + min (chgs r.steps) 16 * 83) : Int)
 else 0
def ResPost (r : RecD) (w : World) (e : Ending) (w' : World) : Prop := ∃ n er, e = .returned (.tuple #[.int .i64 n, .int .i64 er]) ∧ ((er = 0 ∧ mayB r = true ∧ n = resN r) ∨ (er = 220 ∧ mayB r = false ∧ n = 0)) ∧ Below w.heap.size w w'
theorem und_lay {r : RecD} {L : List ImgD} (h : ∀ d ∈ L, GoodC d.aft) (h2 : L.length ≤ 16) : LayOk (undD r L) := by
 unfold LayOk undD; simp only [Int.reduceEq, if_false, if_true]; exact ⟨h, h2⟩
theorem und_on {v : RecV} {V : List ImgV} {r : RecD} {w : World} {q : Option Addr} {m c : Nat} {V' : List ImgV} {L : List ImgD} (h : v.On w V r) (hi : ImgsOn w q m c V' L) : RecV.On ⟨5, v.lsn, v.txn, v.prev, 0, q, m, c, none, 0, 0, 0, none, 0, 0, none, 0, 0⟩ w V' (undD r L) :=
 ⟨rfl, h.lsn, h.txn, h.prev, rfl, rfl, ⟨by unfold I64 undD; simp only; omega, h.ints.2.1, h.ints.2.2.1, h.ints.2.2.2.1, u64_zero, i64_zero⟩, hi, SlOn.none_ _, SlOn.none_ _, SlOn.none_ _, (fun s h => by cases h), (fun s h => by cases h), (fun s h => by cases h)⟩
set_option maxRecDepth 100000 in
set_option maxHeartbeats 8000000 in
theorem reserveBad (kind lsn txn prev next nextTxn : Int) (iq sq tq dq : Option Addr) (im ic sn sc tn tc dn dc : Nat) (V : List ImgV) (r : RecD) (w : World) (h : RecV.On ⟨kind, lsn, txn, prev, next, iq, im, ic, sq, sn, sc, nextTxn, tq, tn, tc, dq, dn, dc⟩ w V r) (hb : mayB r = false) :
 Calls Tryz.prog 22 #[.agg #[.int .i64 kind, .int .u64 lsn, .int .i64 txn, .int .u64 prev, .int .u64 next, .slice iq im ic, .slice sq sn sc, .int .i64 nextTxn, .slice tq tn tc, .slice dq dn dc]] w (ResPost r w) := by
 obtain ⟨W, hW⟩ : ∃ W, w.alloc (.cells #[.int .i64 kind, .int .u64 lsn, .int .i64 txn, .int .u64 prev, .int .u64 next, .slice iq im ic, .slice sq sn sc, .int .i64 nextTxn, .slice tq tn tc, .slice dq dn dc] 30) = W := ⟨_, rfl⟩; have hbx := lh (one_box hW); have o1 := lh (h.below hbx.out.1 (Nat.le_refl _)); have zr : (Tryz.prog.info? 30).map (·.size) = some ([.int .i64 kind, .int .u64 lsn, .int .i64 txn, .int .u64 prev, .int .u64 next, .slice iq im ic, .slice sq sn sc, .int .i64 nextTxn, .slice tq tn tc, .slice dq dn dc] : List Value).length := sizeRec ⟨kind, lsn, txn, prev, next, iq, im, ic, sq, sn, sc, nextTxn, tq, tn, tc, dq, dn, dc⟩; have hm := checkRec_any ⟨kind, lsn, txn, prev, next, iq, im, ic, sq, sn, sc, nextTxn, tq, tn, tc, dq, dn, dc⟩ V r W o1.out; unfold chkRec at hm; rw [hb] at hm; simp only [Bool.false_eq_true, if_false] at hm; have hm := lh hm; have hkr : Hid (r.kind = kind) := h.kind.symm
 have hb' := lh hb; clear h hb; show Calls _ _ #[.agg #[.int .i64 kind, .int .u64 lsn, .int .i64 txn, .int .u64 prev, .int .u64 next, .slice iq im ic, .slice sq sn sc, .int .i64 nextTxn, .slice tq tn tc, .slice dq dn dc]] _ _
 go_enter Tryz.func22, Tryz.ntmps22
 go_wp2_with (first
  | (with_reducible refine wpList_load_at rfl 30 (.tmp 1) rfl Tryz.underlying30 rfl zr rfl hbx.out.2.1.all ?_))
 clear hW; refine hm.out.mono ?_; clear hm; rintro e w1 ⟨rfl, hb⟩; have hb1 := lh hb; have hd := lh (hbx.out.1.trans (hb.mono hbx.out.1.size)); clear hb; go_wp2
 go_ret2
 exact ⟨0, 220, rfl, .inr ⟨rfl, hb'.out, rfl⟩, hd.out⟩
set_option maxRecDepth 100000 in
set_option maxHeartbeats 8000000 in
theorem reserve4 (lsn txn prev next nextTxn : Int) (iq sq tq dq : Option Addr) (im ic sn sc tn tc dn dc : Nat) (V : List ImgV) (r : RecD) (w : World) (h : RecV.On ⟨4, lsn, txn, prev, next, iq, im, ic, sq, sn, sc, nextTxn, tq, tn, tc, dq, dn, dc⟩ w V r) (hb : mayB r = true) :
 Calls Tryz.prog 22 #[.agg #[.int .i64 4, .int .u64 lsn, .int .i64 txn, .int .u64 prev, .int .u64 next, .slice iq im ic, .slice sq sn sc, .int .i64 nextTxn, .slice tq tn tc, .slice dq dn dc]] w (ResPost r w) := by
 obtain ⟨W, hW⟩ : ∃ W, w.alloc (.cells #[.int .i64 4, .int .u64 lsn, .int .i64 txn, .int .u64 prev, .int .u64 next, .slice iq im ic, .slice sq sn sc, .int .i64 nextTxn, .slice tq tn tc, .slice dq dn dc] 30) = W := ⟨_, rfl⟩; have hbx := lh (one_box hW); have o1 := lh (h.below hbx.out.1 (Nat.le_refl _)); have zr : (Tryz.prog.info? 30).map (·.size) = some ([.int .i64 4, .int .u64 lsn, .int .i64 txn, .int .u64 prev, .int .u64 next, .slice iq im ic, .slice sq sn sc, .int .i64 nextTxn, .slice tq tn tc, .slice dq dn dc] : List Value).length := sizeRec ⟨4, lsn, txn, prev, next, iq, im, ic, sq, sn, sc, nextTxn, tq, tn, tc, dq, dn, dc⟩; have hm := checkRec_any ⟨4, lsn, txn, prev, next, iq, im, ic, sq, sn, sc, nextTxn, tq, tn, tc, dq, dn, dc⟩ V r W o1.out; unfold chkRec at hm; rw [hb] at hm; simp only [if_true] at hm; have hm := lh hm; have hkr : Hid (r.kind = 4) := h.kind.symm; have hb' := lh hb; have hlay := lay_of hb
 unfold LayOk at hlay; rw [hkr.out, if_neg (by decide), if_pos rfl] at hlay; have hlay := lh hlay; have hsn : Hid (sn = r.steps.length) := h.steps.len.symm; clear h hb; show Calls _ _ #[.agg #[.int .i64 4, .int .u64 lsn, .int .i64 txn, .int .u64 prev, .int .u64 next, .slice iq im ic, .slice sq sn sc, .int .i64 nextTxn, .slice tq tn tc, .slice dq dn dc]] _ _
 go_enter Tryz.func22, Tryz.ntmps22
 go_wp2_with (first
  | (with_reducible refine wpList_load_at rfl 30 (.tmp 1) rfl Tryz.underlying30 rfl zr rfl hbx.out.2.1.all ?_))
 clear hW; refine hm.out.mono ?_; clear hm; rintro e w1 ⟨rfl, hb⟩; have hb1 := lh hb; have hd := lh (hbx.out.1.trans (hb.mono hbx.out.1.size)); clear hb; have z0 := (hbx.out.2.1.below hb1.out (Nat.le_refl _)).cell 0 rfl; have z6 := (hbx.out.2.1.below hb1.out (Nat.le_refl _)).cell 6 rfl; obtain ⟨M, hM⟩ : ∃ M, min (chgs r.steps) 16 = M := ⟨_, rfl⟩; have hM16 : M ≤ 16 := by omega
 have hch := changes_any sq sn sc r.steps w1 (o1.out.steps.below hb1.out (Nat.le_refl _)) (by have h1 := hlay.out.2; have h2 := hsn.out; omega); rw [hM] at hch; have hch := lh hch; have hM := lh hM
 go_wp2_with fail
 refine hch.out.mono ?_; clear hch z0 z6; rintro e w2 ⟨rfl, hb⟩; have hb2 := lh (hb1.out.trans (hb.mono hb1.out.size)); clear hb
 go_wp2_with (first
  | (with_reducible refine wpList_load_at rfl 30 (.tmp 1) rfl Tryz.underlying30 rfl zr rfl (hbx.out.2.1.below hb2.out (Nat.le_refl _)).all ?_))
 refine (undone_any ⟨4, lsn, txn, prev, next, iq, im, ic, sq, sn, sc, nextTxn, tq, tn, tc, dq, dn, dc⟩ none 0 0 w2).mono ?_; rintro e w3 ⟨rfl, hb⟩; have hb3 := lh (hb2.out.trans (hb.mono hb2.out.size)); clear hb
 go_wp2_with fail
 refine (laid_any _ [] _ w3 (und_on (o1.out.below hb3.out (Nat.le_refl _)) (ImgsOn.none_ _)) (und_lay (fun d hd => by cases hd) (Nat.zero_le _))).mono ?_; rintro e w4 ⟨q9, n9, c9, rfl, hown, hb⟩; have hb4 := lh (hb3.out.trans (hb.mono hb3.out.size)); have hn9 : Hid (n9 = (encRec (undD r [])).length) := holds_len hown.holds.1; have hlb : n9 ≤ 4000 := by rw [hn9.out]; exact encRec_len (und_lay (fun d hd => by cases hd) (Nat.zero_le _))
 clear hb hown; obtain ⟨S, hSe⟩ : ∃ S, secs (n9 + M * 83) = S := ⟨_, rfl⟩; have hsec := sectors_any (n9 + M * 83) w4 (by omega); rw [hSe] at hsec; have hSe : Hid (S = secs (n9 + M * 83)) := hSe.symm; have hsec := lh hsec
 go_wp2_with fail
 refine hsec.out.mono ?_; clear hsec; rintro e wq ⟨rfl, hw⟩; obtain rfl := hw.symm; go_wp2
 go_ret2
 exact ⟨S, 0, rfl, .inl ⟨rfl, hb'.out, by unfold resN; rw [hkr.out, if_neg (by decide), if_neg (by decide), if_pos rfl, hSe.out, hn9.out, hM.out]⟩, hbx.out.1.trans (hb4.out.mono hbx.out.1.size)⟩
theorem reserve_any (v : RecV) (V : List ImgV) (r : RecD) (w : World) (h : v.On w V r) (h4 : r.kind = 4) :
 Calls Tryz.prog 22 #[v.val] w (ResPost r w) := by
 obtain ⟨kind, lsn, txn, prev, next, iq, im, ic, sq, sn, sc, nextTxn, tq, tn, tc, dq, dn, dc⟩ := v; cases hb : mayB r with
 | false => exact reserveBad _ _ _ _ _ _ _ _ _ _ _ _ _ _ _ _ _ _ V r w h hb
 | true => obtain rfl : kind = 4 := h.kind.trans h4; exact reserve4 _ _ _ _ _ _ _ _ _ _ _ _ _ _ _ _ _ V r w h hb
end Go.Proofs.YtocekhckmpkbmaaGreat
namespace Go.Proofs.YtocekhckmpkbmaaGreat
open Go.RowKit
/-- reading went well only if it went well before, and then these bytes stood ahead -/
def Went (t : RSt) (e : List UInt8) (t' : RSt) : Prop := t'.s.e = 0 → t'.b = false → t.s.e = 0 ∧ t.b = false ∧ t.s.l = e ++ t'.s.l
theorem Went.refl (t : RSt) : Went t [] t := fun h1 h2 => ⟨h1, h2, rfl⟩
theorem Went.trans {t t1 t2 : RSt} {e f : List UInt8} (h : Went t e t1) (k : Went t1 f t2) : Went t (e ++ f) t2 := fun h1 h2 => by
 obtain ⟨a, b, c⟩ := k h1 h2; obtain ⟨a', b', c'⟩ := h a b; exact ⟨a', b', by rw [c', c, List.append_assoc]⟩
section
variable {α : Type} {R : RSt → α → RSt → Prop} {f : α → List UInt8}
end
end Go.Proofs.YtocekhckmpkbmaaGreat
namespace Go.Proofs.YtocekhckmpkbmaaGreat
open Go.RowKit
theorem i64_c {x : Int} (h : -9223372036854775808 ≤ x ∧ x < 9223372036854775808) : I64 x := h
theorem u64_c {x : Int} (h : 0 ≤ x ∧ x < 18446744073709551616) : U64 x := h
def wkS : StepD := ⟨1, ⟨⟨0, 3⟩, 0, ⟨#[]⟩⟩, -2⟩
def wkR : RecD := ⟨4, 5, 7, 4, 1, [], [wkS], 0, [], []⟩
theorem wk_stp : stpB wkS = true := by
 unfold stpB; rw [Bool.and_eq_true]; exact ⟨by decide, by rw [if_pos (show wkS.kind = 1 from rfl)]; exact eqR_iff.2 rfl⟩
theorem wk_may : mayB wkR = true := by
 unfold mayB headB; rw [kindB4 (r := wkR) rfl, (sameRec_iff (othersD wkR) zRec).2 rfl]
 have hs : stpsB wkR.steps = true := by unfold stpsB; simp only [Bool.and_eq_true, decide_eq_true_eq]; exact ⟨by decide, by decide, List.all_eq_true.2 (fun s hs => by rw [List.mem_singleton.1 hs]; exact wk_stp)⟩
 rw [hs]; decide
theorem z_may : mayB zRec = false := by
 unfold mayB headB; rfl
theorem wk_len : (encRec wkR).length = 42 := by
 have e : (encRec wkR).length = 21 + (encRest wkR).length := by unfold encRec; simp only [List.length_append, length_be]
 have e2 : encRest wkR = be 8 1 ++ (be 1 (u64 1) ++ ((be 1 (u64 1) ++ (be 1 (u64 0) ++ (be 2 (u64 3) ++ be 8 (u64 (-2))))))) := by unfold encRest wkR wkS encL encStep; simp
 rw [e, e2]; simp only [List.length_append, length_be]
theorem wk_res : resN wkR = 3 := by
 have e : (encRec (undD wkR [])).length = 30 := by
  have e : (encRec (undD wkR [])).length = 21 + (encRest (undD wkR [])).length := by unfold encRec; simp only [List.length_append, length_be]
  have e2 : encRest (undD wkR []) = be 8 0 ++ (be 1 (u64 0) ++ []) := by unfold encRest undD encL; simp
  rw [e, e2]; simp only [List.length_append, length_be, List.length_nil]
 have hc : chgs wkR.steps = 1 := by decide
 unfold resN; rw [if_neg (by decide), if_neg (by decide), if_pos (show wkR.kind = 4 from rfl), e, hc]; rfl
theorem wk_kind : (t0R (encRec wkR)).nm 1 = 4 := by
 unfold encRec; simp only [List.append_assoc]; exact (n1_back (x := 4) (by decide) (by decide)).2
theorem dec_of {r r' : RecD} {er : Int} (hm : mayB r = true) (hok : DOk r) (h : DecR (encRec r) r' er) : r' = r ∧ er = 0 := by
 rcases h with ⟨rfl, h1, _⟩ | ⟨_, _, r2, good, h1, h2⟩
 · have h3 := read_back hm hok [] (by rw [List.append_nil]; exact h1); exact ⟨h3.1, rfl⟩
 · obtain ⟨rfl, rfl⟩ := read_back hm hok [] (by rw [List.append_nil]; exact h1); have := h2 rfl; rw [hm] at this; cases this
set_option maxRecDepth 100000 in
set_option maxHeartbeats 8000000 in
theorem wakes_any (w : World) : Calls Tryz.prog 10 #[] w (fun e w' => e = .returned (.bool true) ∧ Below w.heap.size w w') := by
 obtain ⟨w1, hw1⟩ : ∃ y, w.alloc (.cells #[.int .i64 1, .int .i64 0, .int .u16 3, .int .i64 0, .string ⟨#[]⟩, .int .i64 (-2)] 70) = y := ⟨_, rfl⟩; have hb1 : Below w.heap.size w w1 := by rw [← hw1]; exact (Below.refl _ _).alloc (Nat.le_refl _) _
 have hro1 : RowV 70 w1 w.heap.size (Cel.cells wkS) := by rw [← hw1]; exact RowV.made w _
 obtain ⟨wz, hwz⟩ : ∃ y, w1.alloc (.cells #[.int .i64 0, .int .u64 0, .int .i64 0, .int .u64 0, .int .u64 0, .slice none 0 0, .slice none 0 0, .int .i64 0, .slice none 0 0, .slice none 0 0] 30) = y := ⟨_, rfl⟩; have hbz : Below w1.heap.size w1 wz := by rw [← hwz]; exact (Below.refl _ _).alloc (Nat.le_refl _) _
 have hz : Hid (RowV 30 wz w1.heap.size [.int .i64 0, .int .u64 0, .int .i64 0, .int .u64 0, .int .u64 0, .slice none 0 0, .slice none 0 0, .int .i64 0, .slice none 0 0, .slice none 0 0]) := by show RowV _ _ _ _; rw [← hwz]; exact RowV.made w1 _
 have hslz := lh ((OwnS.single hro1).reads.below hbz (Nat.le_refl _)); have hdz := lh (hb1.trans (hbz.mono hb1.size)); have hlt1 : Hid (w.heap.size < w1.heap.size) := hro1.lt; have zr : (Tryz.prog.info? 30).map (·.size) = some ([.int .i64 4, .int .u64 5, .int .i64 7, .int .u64 4, .int .u64 1, .slice none 0 0, .slice (some ⟨w.heap.size, 0, none⟩) 1 1, .int .i64 0, .slice none 0 0, .slice none 0 0] : List Value).length := sizeRec ⟨4, 5, 7, 4, 1, none, 0, 0, some ⟨w.heap.size, 0, none⟩, 1, 1, 0, none, 0, 0, none, 0, 0⟩; have rone : ∀ x ∈ ([.int .i64 4, .int .u64 5, .int .i64 7, .int .u64 4, .int .u64 1, .slice none 0 0, .slice (some ⟨w.heap.size, 0, none⟩) 1 1, .int .i64 0, .slice none 0 0, .slice none 0 0] : List Value), x.oneCell' = true := one_all rfl; clear hb1 hro1 hbz
 go_enter Tryz.func10, Tryz.ntmps10
 go_wp2_with (first
  | ((with_reducible refine wpList_store_at rfl 30 (.tmp 1) (.tmp 14) rfl (o := 0) (vs := [.int .i64 4, .int .u64 5, .int .i64 7, .int .u64 4, .int .u64 1, .slice none 0 0, .slice (some ⟨w.heap.size, 0, none⟩) 1 1, .int .i64 0, .slice none 0 0, .slice none 0 0]) rfl rfl hz.out zr (Nat.le_refl _) rone ?_)
     intro w2 h9 hg9; have hr2 : Hid (RowV 30 w2 w1.heap.size [.int .i64 4, .int .u64 5, .int .i64 7, .int .u64 4, .int .u64 1, .slice none 0 0, .slice (some ⟨w.heap.size, 0, none⟩) 1 1, .int .i64 0, .slice none 0 0, .slice none 0 0]) := h9; have g2 := lh hg9
     clear h9 hg9)
  | (with_reducible refine wpList_load_at rfl 30 (.tmp 1) rfl Tryz.underlying30 rfl zr rfl hr2.out.boxed.all ?_))
 clear hw1 hwz; have hsl : SlOn w2 (some ⟨w.heap.size, 0, none⟩) 1 1 [wkS] := hslz.out.gr g2.out (fun a ha => by cases ha; have h1 := hlt1.out; simp only; omega); have hbx : Hid (Below w.heap.size w w2 ∧ Boxed w2 w1.heap.size [.int .i64 4, .int .u64 5, .int .i64 7, .int .u64 4, .int .u64 1, .slice none 0 0, .slice (some ⟨w.heap.size, 0, none⟩) 1 1, .int .i64 0, .slice none 0 0, .slice none 0 0]) := ⟨hdz.out.trans (grown_belowN g2.out hdz.out.size (fun k e => by cases e; exact Nat.le_of_lt hlt1.out)), hr2.out.boxed⟩
 have hon : Hid (RecV.On ⟨4, 5, 7, 4, 1, none, 0, 0, some ⟨w.heap.size, 0, none⟩, 1, 1, 0, none, 0, 0, none, 0, 0⟩ w2 [] wkR) := ⟨rfl, rfl, rfl, rfl, rfl, rfl, ⟨i64_c (by decide), u64_c (by decide), i64_c (by decide), u64_c (by decide), u64_c (by decide), i64_c (by decide)⟩, ImgsOn.none_ _, hsl, SlOn.none_ _, SlOn.none_ _, (fun s h => by rw [List.mem_singleton.1 h]; exact ⟨i64_c (by decide), ⟨⟨i64_c (by decide), by decide⟩, i64_c (by decide), Nat.zero_le _⟩, i64_c (by decide)⟩), (fun s h => by cases h), (fun s h => by cases h)⟩
 have hd2 := lh hbx.out.1; have hlt2 := lh hr2.out.lt; clear hsl; refine (encode_any _ [] wkR w2 hon.out).mono ?_; rintro e w3 ⟨q, n, c, er, rfl, hor, hb3⟩; rcases hor with ⟨rfl, _, hown⟩ | ⟨_, hb, _⟩
 rotate_left
 · rw [wk_may] at hb; cases hb
 obtain rfl : n = 42 := (holds_len hown.holds.1).trans wk_len; have hown := lh hown; have hb3 := lh hb3; have hdec := lh (decode_any q 42 c (encRec wkR) w3 hown.out.holds.1 hown.out.holds.2.1 (by decide) (fun a ha _ => (hown.out.holds.2.2 a ha).2) wk_kind)
 go_wp2_with fail
 refine hdec.out.mono ?_; clear hdec; rintro e w4 ⟨⟨kind, lsn, txn, prev, next, iq, im, ic, sq, sn, sc, nextTxn, tq, tn, tc, dq, dn, dc⟩, V, r', er, rfl, hon4, hdr, hb4⟩; obtain ⟨rfl, rfl⟩ := dec_of wk_may hon.out.ok hdr; have hon4 := lh hon4; have h24 := lh (hb3.out.trans (hb4.mono hb3.out.size)); clear hb4 hdr hown hb3; obtain ⟨w5, hw5⟩ : ∃ y, w4.alloc (.cells #[.int .i64 kind, .int .u64 lsn, .int .i64 txn, .int .u64 prev, .int .u64 next, .slice iq im ic, .slice sq sn sc, .int .i64 nextTxn, .slice tq tn tc, .slice dq dn dc] 30) = y := ⟨_, rfl⟩; have hby := lh (one_box hw5); have hon5 := lh (hon4.out w5 (fun k _ h2 => hby.out.1.block k h2)); have h25 := lh (h24.out.trans (hby.out.1.mono h24.out.size)); have zr2 : (Tryz.prog.info? 30).map (·.size) = some ([.int .i64 kind, .int .u64 lsn, .int .i64 txn, .int .u64 prev, .int .u64 next, .slice iq im ic, .slice sq sn sc, .int .i64 nextTxn, .slice tq tn tc, .slice dq dn dc] : List Value).length := sizeRec ⟨kind, lsn, txn, prev, next, iq, im, ic, sq, sn, sc, nextTxn, tq, tn, tc, dq, dn, dc⟩
 go_wp2_with (first
  | (with_reducible refine wpList_load_at rfl 30 (.tmp 1) rfl Tryz.underlying30 rfl zr rfl (hbx.out.2.below h25.out (Nat.le_refl _)).all ?_))
 clear hw5; refine (cost_any _ [] wkR w5 (hon.out.below h25.out (Nat.le_refl _))).mono ?_; rintro e w6 ⟨n6, er, rfl, hor, hb6⟩; rcases hor with ⟨rfl, _, hn6⟩ | ⟨_, hb, _⟩
 rotate_left
 · rw [wk_may] at hb; cases hb
 rw [wk_len] at hn6; have hn6 : n6 = 1 := hn6; subst hn6; have h26 := lh (h25.out.trans (hb6.mono h25.out.size)); have h56 := lh hb6; clear hb6
 go_wp2_with (first
  | (with_reducible refine wpList_load_at rfl 30 (.tmp 1) rfl Tryz.underlying30 rfl zr rfl (hbx.out.2.below h26.out (Nat.le_refl _)).all ?_))
 refine (reserve_any _ [] wkR w6 (hon.out.below h26.out (Nat.le_refl _)) rfl).mono ?_; rintro e w7 ⟨n7, er, rfl, hor, hb7⟩; rcases hor with ⟨rfl, _, hn7⟩ | ⟨_, hb, _⟩
 rotate_left
 · rw [wk_may] at hb; cases hb
 rw [wk_res] at hn7; subst hn7; have h27 := lh (h26.out.trans (hb7.mono h26.out.size)); have h57 := lh (h56.out.trans (hb7.mono h56.out.size)); clear hb7; have hsm := sameRec_any ⟨kind, lsn, txn, prev, next, iq, im, ic, sq, sn, sc, nextTxn, tq, tn, tc, dq, dn, dc⟩ _ V [] wkR wkR w7 (hon5.out.below h57.out (Nat.le_refl _)) (hon.out.below h27.out (Nat.le_refl _)); rw [(sameRec_iff wkR wkR).2 rfl] at hsm; have hsm := lh hsm
 go_wp2_with (first
  | ((with_reducible refine wpList_load_g ?_ 30 (.tmp 4) rfl Tryz.underlying30 rfl zr2 rfl (hby.out.2.1.below h57.out (Nat.le_refl _)).all ?_); exact rfl)
  | ((with_reducible refine wpList_load_g ?_ 30 (.tmp 1) rfl Tryz.underlying30 rfl zr rfl (hbx.out.2.below h27.out (Nat.le_refl _)).all ?_); exact rfl))
 refine hsm.out.mono ?_; clear hsm; rintro e w8 ⟨rfl, hb8⟩; have h28 := lh (h27.out.trans (hb8.mono h27.out.size)); clear hb8; have hun := undoable_any ⟨4, 5, 7, 4, 1, none, 0, 0, some ⟨w.heap.size, 0, none⟩, 1, 1, 0, none, 0, 0, none, 0, 0⟩ [] wkR w8 (hon.out.below h28.out (Nat.le_refl _)); rw [show (mayB wkR && (wkR.kind == 2 || wkR.kind == 4)) = true by rw [wk_may]; rfl] at hun; have hun := lh hun
 go_wp2_with (first
  | ((with_reducible refine wpList_load_g ?_ 30 (.tmp 1) rfl Tryz.underlying30 rfl zr rfl (hbx.out.2.below h28.out (Nat.le_refl _)).all ?_); exact rfl))
 refine hun.out.mono ?_; clear hun; rintro e w9 ⟨rfl, hb9⟩; have h29 := lh (h28.out.trans (hb9.mono h28.out.size)); clear hb9; have hck := checkRec_any ⟨0, 0, 0, 0, 0, none, 0, 0, none, 0, 0, 0, none, 0, 0, none, 0, 0⟩ [] zRec w9 (zero_on w9); rw [show chkRec zRec = 220 by unfold chkRec; rw [z_may]; rfl] at hck; have hck := lh hck
 go_wp2_with fail
 refine hck.out.mono ?_; clear hck; rintro e w10 ⟨rfl, hb10⟩; have h30 := lh (h29.out.trans (hb10.mono h29.out.size)); clear hb10; go_wp2; go_ret; exact ⟨rfl, hd2.out.trans (h30.out.mono hd2.out.size)⟩
end Go.Proofs.YtocekhckmpkbmaaGreat
