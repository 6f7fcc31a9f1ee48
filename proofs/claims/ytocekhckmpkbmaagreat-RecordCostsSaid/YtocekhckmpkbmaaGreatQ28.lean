/- Parts of the proof: The reader of record: read; The reader of record: read; Decode of record -/
import Derived.Test.YtocekhckmpkbmaaGreatQ26
import Derived.Test.YtocekhckmpkbmaaGreatQ01
import Derived.Test.YtocekhckmpkbmaaGreatQ27
namespace Go.Proofs.YtocekhckmpkbmaaGreat
open Go.RowKit Go.ChangeMaps
end Go.Proofs.YtocekhckmpkbmaaGreat
namespace Go.Proofs.YtocekhckmpkbmaaGreat
open Go.RowKit Go.ChangeMaps
set_option maxRecDepth 100000 in
theorem read_any2 (p : Option Addr) (n c : Nat) (b : List UInt8) (w : World) (hv : Lib.HoldsBytes w (.slice p n c) b) (hnc : n ≤ c) (hn : n ≤ 140737488355328) (hfar : ∀ a, p = some a → b ≠ [] → a.block < w.heap.size) (hk : (t0R b).nm 1 = 4) :
 Calls Tryz.prog 45 #[.slice p n c] w (ReadRPost b w) := by
 have h0 : 1 ≤ (t0R b).nm 1 ∧ (t0R b).nm 1 ≤ 9 := by omega
 refine read_0 105 p n c b w hv hnc hn hfar h0 (fun g => by rw [hk]; rfl) (fun _ _ => rfl) ?_; rw [hk]; exact fun w g gr R d all t h lsn txn prev a1 a2 a3 a4 a5 a6 a7 => done_rr h lsn txn prev a1 a2 a3 a4 a5 a6 a7
end Go.Proofs.YtocekhckmpkbmaaGreat
namespace Go.Proofs.YtocekhckmpkbmaaGreat
open Go.RowKit
/-- what Decode answers of bytes -/
def DecR (b : List UInt8) (r : RecD) (er : Int) : Prop := (er = 0 ∧ ReadR b r true ∧ mayB r = true) ∨ (er = 161 ∧ r = zRec ∧ ∃ r' good, ReadR b r' good ∧ (good = true → mayB r' = false))
def DecPost (b : List UInt8) (w : World) (e : Ending) (w' : World) : Prop := ∃ (v : RecV) (V : List ImgV) (r : RecD) (er : Int), e = .returned (.tuple #[v.val, .int .i64 er]) ∧ (∀ x : World, Alike w.heap.size w' x → v.On x V r) ∧ DecR b r er ∧ Below w.heap.size w w'
set_option maxRecDepth 100000 in
set_option maxHeartbeats 8000000 in
theorem decode_any (p : Option Addr) (n c : Nat) (b : List UInt8) (w : World) (hv : Lib.HoldsBytes w (.slice p n c) b) (hnc : n ≤ c) (hn : n ≤ 140737488355328) (hfar : ∀ a, p = some a → b ≠ [] → a.block < w.heap.size) (hk4 : (t0R b).nm 1 = 4) :
 Calls Tryz.prog 19 #[.slice p n c] w (DecPost b w) := by
 obtain ⟨W, hW⟩ : ∃ W, w.alloc (.cells #[.int .i64 0, .int .u64 0, .int .i64 0, .int .u64 0, .int .u64 0, .slice none 0 0, .slice none 0 0, .int .i64 0, .slice none 0 0, .slice none 0 0] 30) = W := ⟨_, rfl⟩; have hbW : Below w.heap.size w W := by rw [← hW]; exact (Below.refl _ _).alloc (Nat.le_refl _) _
 have hrow : RowV 30 W w.heap.size [.int .i64 0, .int .u64 0, .int .i64 0, .int .u64 0, .int .u64 0, .slice none 0 0, .slice none 0 0, .int .i64 0, .slice none 0 0, .slice none 0 0] := by rw [← hW]; exact RowV.made w _
 have hrow := lh hrow; have hbW := lh hbW; have hrd := lh (read_any2 p n c b W (holds_below hv hbW.out (Nat.le_refl _)) hnc hn (fun a ha hb => Nat.lt_of_lt_of_le (hfar a ha hb) hbW.out.size) hk4); have hlt : Hid (w.heap.size < W.heap.size) := hrow.out.lt; have zz : (Tryz.prog.info? 30).map (·.size) = some ([.int .i64 0, .int .u64 0, .int .i64 0, .int .u64 0, .int .u64 0, .slice none 0 0, .slice none 0 0, .int .i64 0, .slice none 0 0, .slice none 0 0] : List Value).length := sizeRec ⟨0, 0, 0, 0, 0, none, 0, 0, none, 0, 0, 0, none, 0, 0, none, 0, 0⟩; have zone : ∀ x ∈ ([.int .i64 0, .int .u64 0, .int .i64 0, .int .u64 0, .int .u64 0, .slice none 0 0, .slice none 0 0, .int .i64 0, .slice none 0 0, .slice none 0 0] : List Value), x.oneCell' = true := one_all rfl; clear hv hnc hn hfar
 go_enter Tryz.func19, Tryz.ntmps19
 go_wp2_with fail
 clear hW; refine hrd.out.mono ?_; clear hrd; rintro e w1 ⟨⟨kind, lsn, txn, prev, next, iq, im, ic, sq, sn, sc, nextTxn, tq, tn, tc, dq, dn, dc⟩, V, r, good, rfl, hon, hrr, hb1⟩; have hon := lh hon; have hrr := lh hrr; have hr1 := lh (hrow.out.below hb1); have hd1 := lh (hbW.out.trans (hb1.mono hbW.out.size)); have hs1 : Hid (W.heap.size ≤ w1.heap.size) := hb1.size; clear hb1; obtain ⟨w2, hw2⟩ : ∃ y, w1.alloc (.cells #[.int .i64 kind, .int .u64 lsn, .int .i64 txn, .int .u64 prev, .int .u64 next, .slice iq im ic, .slice sq sn sc, .int .i64 nextTxn, .slice tq tn tc, .slice dq dn dc] 30) = y := ⟨_, rfl⟩; have hbx := lh (one_box (xs := [.int .i64 kind, .int .u64 lsn, .int .i64 txn, .int .u64 prev, .int .u64 next, .slice iq im ic, .slice sq sn sc, .int .i64 nextTxn, .slice tq tn tc, .slice dq dn dc]) hw2); have hr2 := lh (hr1.out.below hbx.out.1); have hd2 := lh (hd1.out.trans (hbx.out.1.mono hd1.out.size))
 have zr : (Tryz.prog.info? 30).map (·.size) = some ([.int .i64 kind, .int .u64 lsn, .int .i64 txn, .int .u64 prev, .int .u64 next, .slice iq im ic, .slice sq sn sc, .int .i64 nextTxn, .slice tq tn tc, .slice dq dn dc] : List Value).length := sizeRec ⟨kind, lsn, txn, prev, next, iq, im, ic, sq, sn, sc, nextTxn, tq, tn, tc, dq, dn, dc⟩; have rone : ∀ x ∈ ([.int .i64 kind, .int .u64 lsn, .int .i64 txn, .int .u64 prev, .int .u64 next, .slice iq im ic, .slice sq sn sc, .int .i64 nextTxn, .slice tq tn tc, .slice dq dn dc] : List Value), x.oneCell' = true := one_all rfl; have hal2 : Hid (Alike W.heap.size w1 w2) := fun k _ h2 => hbx.out.1.block k h2
 cases good with
 | false =>
   have hal2 := hal2
   go_wp2_with (first
    | ((with_reducible refine wpList_store_at rfl 30 (.tmp 2) (.tmp 18) rfl (o := 0) (vs := [.int .i64 0, .int .u64 0, .int .i64 0, .int .u64 0, .int .u64 0, .slice none 0 0, .slice none 0 0, .int .i64 0, .slice none 0 0, .slice none 0 0]) rfl rfl hr2.out zz (Nat.le_refl _) zone ?_)
       intro wz h9 hg9; have rz : Hid (RowV 30 wz w.heap.size [.int .i64 0, .int .u64 0, .int .i64 0, .int .u64 0, .int .u64 0, .slice none 0 0, .slice none 0 0, .int .i64 0, .slice none 0 0, .slice none 0 0]) := h9; have gz := lh hg9
       clear h9 hg9))
   have m0 := rz.out.cell 0; have m1 := rz.out.cell 1; have m2 := rz.out.cell 2; have m3 := rz.out.cell 3; have m4 := rz.out.cell 4; have m5 := rz.out.cell 5; have m6 := rz.out.cell 6; have m7 := rz.out.cell 7; have m8 := rz.out.cell 8; have m9 := rz.out.cell 9; refine bodyPost_ret (v := .tuple #[.agg #[.int .i64 0, .int .u64 0, .int .i64 0, .int .u64 0, .int .u64 0, .slice none 0 0, .slice none 0 0, .int .i64 0, .slice none 0 0, .slice none 0 0], .int .i64 161]) (by simp [results, Tryz.results19, go_sem, m0, m1, m2, m3, m4, m5, m6, m7, m8, m9]) rfl ?_; exact ⟨⟨0, 0, 0, 0, 0, none, 0, 0, none, 0, 0, 0, none, 0, 0, none, 0, 0⟩, [], zRec, 161, rfl, (fun _ _ => zero_on _), .inr ⟨rfl, rfl, r, _, hrr.out, (fun h => by cases h)⟩, Gr.below gz.out hd2.out (Nat.le_refl _)⟩
 | true =>
   have hon2 : RecV.On ⟨kind, lsn, txn, prev, next, iq, im, ic, sq, sn, sc, nextTxn, tq, tn, tc, dq, dn, dc⟩ w2 V r := hon.out w2 hal2.out; obtain ⟨B, hB⟩ : ∃ B, mayB r = B := ⟨_, rfl⟩; have hm := mayBe_any ⟨kind, lsn, txn, prev, next, iq, im, ic, sq, sn, sc, nextTxn, tq, tn, tc, dq, dn, dc⟩ V r w2 hon2; rw [hB] at hm; have hm := lh hm; have hB := lh hB; clear hon2
   go_wp2_with (first
    | ((with_reducible refine wpList_load_g ?_ 30 (.tmp 4) rfl Tryz.underlying30 rfl zr rfl hbx.out.2.1.all ?_); exact rfl))
   clear hw2; refine hm.out.mono ?_; clear hm; rintro e w3 ⟨rfl, hb⟩; have hr3 := lh (hr2.out.below hb); have hd3 := lh (hd2.out.trans (hb.mono hd2.out.size)); have hb3 := lh hb; clear hb
   cases B with
   | false =>
     go_wp2_with (first
      | ((with_reducible refine wpList_store_at rfl 30 (.tmp 2) (.tmp 18) rfl (o := 0) (vs := [.int .i64 0, .int .u64 0, .int .i64 0, .int .u64 0, .int .u64 0, .slice none 0 0, .slice none 0 0, .int .i64 0, .slice none 0 0, .slice none 0 0]) rfl rfl hr3.out zz (Nat.le_refl _) zone ?_)
         intro wz h9 hg9; have rz : Hid (RowV 30 wz w.heap.size [.int .i64 0, .int .u64 0, .int .i64 0, .int .u64 0, .int .u64 0, .slice none 0 0, .slice none 0 0, .int .i64 0, .slice none 0 0, .slice none 0 0]) := h9; have gz := lh hg9
         clear h9 hg9))
     have m0 := rz.out.cell 0; have m1 := rz.out.cell 1; have m2 := rz.out.cell 2; have m3 := rz.out.cell 3; have m4 := rz.out.cell 4; have m5 := rz.out.cell 5; have m6 := rz.out.cell 6; have m7 := rz.out.cell 7; have m8 := rz.out.cell 8; have m9 := rz.out.cell 9; refine bodyPost_ret (v := .tuple #[.agg #[.int .i64 0, .int .u64 0, .int .i64 0, .int .u64 0, .int .u64 0, .slice none 0 0, .slice none 0 0, .int .i64 0, .slice none 0 0, .slice none 0 0], .int .i64 161]) (by simp [results, Tryz.results19, go_sem, m0, m1, m2, m3, m4, m5, m6, m7, m8, m9]) rfl ?_; exact ⟨⟨0, 0, 0, 0, 0, none, 0, 0, none, 0, 0, 0, none, 0, 0, none, 0, 0⟩, [], zRec, 161, rfl, (fun _ _ => zero_on _), .inr ⟨rfl, rfl, r, _, hrr.out, (fun _ => hB.out)⟩, Gr.below gz.out hd3.out (Nat.le_refl _)⟩
   | true =>
     go_wp2_with (first
      | (with_reducible refine wpList_load_at rfl 30 (.tmp 4) rfl Tryz.underlying30 rfl zr rfl (hbx.out.2.1.below hb3.out (Nat.le_refl _)).all ?_)
      | ((with_reducible refine wpList_store_at rfl 30 (.tmp 2) (.tmp 19) rfl (o := 0) (vs := [.int .i64 kind, .int .u64 lsn, .int .i64 txn, .int .u64 prev, .int .u64 next, .slice iq im ic, .slice sq sn sc, .int .i64 nextTxn, .slice tq tn tc, .slice dq dn dc]) rfl rfl hr3.out zr (Nat.le_refl _) rone ?_)
         intro wz h9 hg9; have rz : Hid (RowV 30 wz w.heap.size [.int .i64 kind, .int .u64 lsn, .int .i64 txn, .int .u64 prev, .int .u64 next, .slice iq im ic, .slice sq sn sc, .int .i64 nextTxn, .slice tq tn tc, .slice dq dn dc]) := h9; have gz := lh hg9
         clear h9 hg9))
     have m0 := rz.out.cell 0; have m1 := rz.out.cell 1; have m2 := rz.out.cell 2; have m3 := rz.out.cell 3; have m4 := rz.out.cell 4; have m5 := rz.out.cell 5; have m6 := rz.out.cell 6; have m7 := rz.out.cell 7; have m8 := rz.out.cell 8; have m9 := rz.out.cell 9; refine bodyPost_ret (v := .tuple #[.agg #[.int .i64 kind, .int .u64 lsn, .int .i64 txn, .int .u64 prev, .int .u64 next, .slice iq im ic, .slice sq sn sc, .int .i64 nextTxn, .slice tq tn tc, .slice dq dn dc], .int .i64 0]) (by simp [results, Tryz.results19, go_sem, m0, m1, m2, m3, m4, m5, m6, m7, m8, m9]) rfl ?_; refine ⟨⟨kind, lsn, txn, prev, next, iq, im, ic, sq, sn, sc, nextTxn, tq, tn, tc, dq, dn, dc⟩, V, r, 0, rfl, fun x ha => hon.out x (fun k h1 h2 => ?_), .inl ⟨rfl, hrr.out, hB.out⟩, Gr.below gz.out hd3.out (Nat.le_refl _)⟩; have h3 := hlt.out; have h4 := hbx.out.1.size; have h5 := hb3.out.size; have h6 := gz.out.size; exact (ha k (by omega) (by omega)).trans ((gz.out.block k (by omega) (fun e => by simp at e; omega)).trans ((hb3.out.block k (by omega)).trans (hbx.out.1.block k h2)))
end Go.Proofs.YtocekhckmpkbmaaGreat
