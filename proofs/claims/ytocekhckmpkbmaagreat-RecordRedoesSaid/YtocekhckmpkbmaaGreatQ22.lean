/- Parts of the proof: The reader of record: read; The reader of record: read; Decode of record; Check, Undoable, Encode and Cost of record; undone -/
import Derived.Test.YtocekhckmpkbmaaGreatQ20
import Derived.Test.YtocekhckmpkbmaaGreatQ21
import Derived.Test.YtocekhckmpkbmaaGreatQ17
namespace Go.Proofs.YtocekhckmpkbmaaGreat
open Go.RowKit Go.ChangeMaps
end Go.Proofs.YtocekhckmpkbmaaGreat
namespace Go.Proofs.YtocekhckmpkbmaaGreat
open Go.RowKit Go.ChangeMaps
set_option maxRecDepth 100000 in
theorem read_any2 (p : Option Addr) (n c : Nat) (b : List UInt8) (w : World) (hv : Lib.HoldsBytes w (.slice p n c) b) (hnc : n ≤ c) (hn : n ≤ 140737488355328) (hfar : ∀ a, p = some a → b ≠ [] → a.block < w.heap.size) (hk : (t0R b).nm 1 = 4) :
 Calls Tryz.prog 45 #[.slice p n c] w (ReadRPost b w) := by
 have h0 : 1 ≤ (t0R b).nm 1 ∧ (t0R b).nm 1 ≤ 9 := by omega
 refine read_0 105 p n c b w hv hnc hn hfar h0 (fun g => by rw [hk]; rfl) (fun _ _ => rfl) ?_
 rw [hk]
 exact fun w g gr R d all t h lsn txn prev a1 a2 a3 a4 a5 a6 a7 => done_rr h lsn txn prev a1 a2 a3 a4 a5 a6 a7
end Go.Proofs.YtocekhckmpkbmaaGreat
namespace Go.Proofs.YtocekhckmpkbmaaGreat
open Go.RowKit
/-- what Decode answers of bytes -/
def DecR (b : List UInt8) (r : RecD) (er : Int) : Prop := (er = 0 ∧ ReadR b r true ∧ mayB r = true) ∨ (er = 161 ∧ r = zRec ∧ ∃ r' good, ReadR b r' good ∧ (good = true → mayB r' = false))
def DecPost (b : List UInt8) (w : World) (e : Ending) (w' : World) : Prop := ∃ (v : RecV) (V : List ImgV) (r : RecD) (er : Int), e = .returned (.tuple #[v.val, .int .i64 er]) ∧ (∀ x : World, Alike w.heap.size w' x → v.On x V r) ∧ DecR b r er ∧ Below w.heap.size w w'
set_option maxRecDepth 100000 in
set_option maxHeartbeats 8000000 in
theorem decode_any (p : Option Addr) (n c : Nat) (b : List UInt8) (w : World) (hv : Lib.HoldsBytes w (.slice p n c) b) (hnc : n ≤ c) (hn : n ≤ 140737488355328) (hfar : ∀ a, p = some a → b ≠ [] → a.block < w.heap.size) (hk4 : (t0R b).nm 1 = 4) :
 Calls Tryz.prog 19 #[.slice p n c] w (DecPost b w) := by
 obtain ⟨W, hW⟩ : ∃ W, w.alloc (.cells #[.int .i64 0, .int .u64 0, .int .i64 0, .int .u64 0, .int .u64 0, .slice none 0 0, .slice none 0 0, .int .i64 0, .slice none 0 0, .slice none 0 0] 30) = W := ⟨_, rfl⟩
 have hbW : Below w.heap.size w W := by rw [← hW]; exact (Below.refl _ _).alloc (Nat.le_refl _) _
 have hrow : RowV 30 W w.heap.size [.int .i64 0, .int .u64 0, .int .i64 0, .int .u64 0, .int .u64 0, .slice none 0 0, .slice none 0 0, .int .i64 0, .slice none 0 0, .slice none 0 0] := by rw [← hW]; exact RowV.made w _
 have hrow := Lib.hid hrow
 have hbW := Lib.hid hbW
 have hrd := Lib.hid (read_any2 p n c b W (holds_below hv hbW.out (Nat.le_refl _)) hnc hn (fun a ha hb => Nat.lt_of_lt_of_le (hfar a ha hb) hbW.out.size) hk4)
 have hlt : Hid (w.heap.size < W.heap.size) := hrow.out.lt
 have zz : (Tryz.prog.info? 30).map (·.size) = some ([.int .i64 0, .int .u64 0, .int .i64 0, .int .u64 0, .int .u64 0, .slice none 0 0, .slice none 0 0, .int .i64 0, .slice none 0 0, .slice none 0 0] : List Value).length := sizeRec ⟨0, 0, 0, 0, 0, none, 0, 0, none, 0, 0, 0, none, 0, 0, none, 0, 0⟩
 have zone : ∀ x ∈ ([.int .i64 0, .int .u64 0, .int .i64 0, .int .u64 0, .int .u64 0, .slice none 0 0, .slice none 0 0, .int .i64 0, .slice none 0 0, .slice none 0 0] : List Value), x.oneCell' = true := one_all rfl
 clear hv hnc hn hfar
 go_enter Tryz.func19, Tryz.ntmps19
 go_wp2_with fail
 clear hW
 refine hrd.out.mono ?_
 clear hrd
 rintro e w1 ⟨⟨kind, lsn, txn, prev, next, iq, im, ic, sq, sn, sc, nextTxn, tq, tn, tc, dq, dn, dc⟩, V, r, good, rfl, hon, hrr, hb1⟩
 have hon := Lib.hid hon
 have hrr := Lib.hid hrr
 have hr1 := Lib.hid (hrow.out.below hb1)
 have hd1 := Lib.hid (hbW.out.trans (hb1.mono hbW.out.size))
 have hs1 : Hid (W.heap.size ≤ w1.heap.size) := hb1.size
 clear hb1
 obtain ⟨w2, hw2⟩ : ∃ y, w1.alloc (.cells #[.int .i64 kind, .int .u64 lsn, .int .i64 txn, .int .u64 prev, .int .u64 next, .slice iq im ic, .slice sq sn sc, .int .i64 nextTxn, .slice tq tn tc, .slice dq dn dc] 30) = y := ⟨_, rfl⟩
 have hbx := Lib.hid (one_box (xs := [.int .i64 kind, .int .u64 lsn, .int .i64 txn, .int .u64 prev, .int .u64 next, .slice iq im ic, .slice sq sn sc, .int .i64 nextTxn, .slice tq tn tc, .slice dq dn dc]) hw2)
 have hr2 := Lib.hid (hr1.out.below hbx.out.1)
 have hd2 := Lib.hid (hd1.out.trans (hbx.out.1.mono hd1.out.size))
 have zr : (Tryz.prog.info? 30).map (·.size) = some ([.int .i64 kind, .int .u64 lsn, .int .i64 txn, .int .u64 prev, .int .u64 next, .slice iq im ic, .slice sq sn sc, .int .i64 nextTxn, .slice tq tn tc, .slice dq dn dc] : List Value).length := sizeRec ⟨kind, lsn, txn, prev, next, iq, im, ic, sq, sn, sc, nextTxn, tq, tn, tc, dq, dn, dc⟩
 have rone : ∀ x ∈ ([.int .i64 kind, .int .u64 lsn, .int .i64 txn, .int .u64 prev, .int .u64 next, .slice iq im ic, .slice sq sn sc, .int .i64 nextTxn, .slice tq tn tc, .slice dq dn dc] : List Value), x.oneCell' = true := one_all rfl
 have hal2 : Hid (Alike W.heap.size w1 w2) := fun k _ h2 => hbx.out.1.block k h2
 cases good with
 | false =>
   have hal2 := hal2
   go_wp2_with (first
    | ((with_reducible refine wpList_store_at rfl 30 (.tmp 2) (.tmp 18) rfl (o := 0) (vs := [.int .i64 0, .int .u64 0, .int .i64 0, .int .u64 0, .int .u64 0, .slice none 0 0, .slice none 0 0, .int .i64 0, .slice none 0 0, .slice none 0 0]) rfl rfl hr2.out zz (Nat.le_refl _) zone ?_)
       intro wz h9 hg9
       have rz : Hid (RowV 30 wz w.heap.size [.int .i64 0, .int .u64 0, .int .i64 0, .int .u64 0, .int .u64 0, .slice none 0 0, .slice none 0 0, .int .i64 0, .slice none 0 0, .slice none 0 0]) := h9
       have gz := Lib.hid hg9
       clear h9 hg9))
   have m0 : wz.cell? ⟨w.heap.size, 0, none⟩ = some (.int .i64 0) := rz.out.cell 0
   have m1 : wz.cell? ⟨w.heap.size, 1, none⟩ = some (.int .u64 0) := rz.out.cell 1
   have m2 : wz.cell? ⟨w.heap.size, 2, none⟩ = some (.int .i64 0) := rz.out.cell 2
   have m3 : wz.cell? ⟨w.heap.size, 3, none⟩ = some (.int .u64 0) := rz.out.cell 3
   have m4 : wz.cell? ⟨w.heap.size, 4, none⟩ = some (.int .u64 0) := rz.out.cell 4
   have m5 : wz.cell? ⟨w.heap.size, 5, none⟩ = some (.slice none 0 0) := rz.out.cell 5
   have m6 : wz.cell? ⟨w.heap.size, 6, none⟩ = some (.slice none 0 0) := rz.out.cell 6
   have m7 : wz.cell? ⟨w.heap.size, 7, none⟩ = some (.int .i64 0) := rz.out.cell 7
   have m8 : wz.cell? ⟨w.heap.size, 8, none⟩ = some (.slice none 0 0) := rz.out.cell 8
   have m9 : wz.cell? ⟨w.heap.size, 9, none⟩ = some (.slice none 0 0) := rz.out.cell 9
   refine bodyPost_ret (v := .tuple #[.agg #[.int .i64 0, .int .u64 0, .int .i64 0, .int .u64 0, .int .u64 0, .slice none 0 0, .slice none 0 0, .int .i64 0, .slice none 0 0, .slice none 0 0], .int .i64 161]) (by simp [results, Tryz.results19, go_sem, m0, m1, m2, m3, m4, m5, m6, m7, m8, m9]) rfl ?_
   exact ⟨⟨0, 0, 0, 0, 0, none, 0, 0, none, 0, 0, 0, none, 0, 0, none, 0, 0⟩, [], zRec, 161, rfl, (fun _ _ => zero_on _), .inr ⟨rfl, rfl, r, _, hrr.out, (fun h => by cases h)⟩, Gr.below gz.out hd2.out (Nat.le_refl _)⟩
 | true =>
   have hon2 : RecV.On ⟨kind, lsn, txn, prev, next, iq, im, ic, sq, sn, sc, nextTxn, tq, tn, tc, dq, dn, dc⟩ w2 V r := hon.out w2 hal2.out
   obtain ⟨B, hB⟩ : ∃ B, mayB r = B := ⟨_, rfl⟩
   have hm := mayBe_any ⟨kind, lsn, txn, prev, next, iq, im, ic, sq, sn, sc, nextTxn, tq, tn, tc, dq, dn, dc⟩ V r w2 hon2
   rw [hB] at hm
   have hm := Lib.hid hm
   have hB := Lib.hid hB
   clear hon2
   go_wp2_with (first
    | ((with_reducible refine wpList_load_g ?_ 30 (.tmp 4) rfl Tryz.underlying30 rfl zr rfl hbx.out.2.1.all ?_); exact rfl))
   clear hw2
   refine hm.out.mono ?_
   clear hm
   rintro e w3 ⟨rfl, hb⟩
   have hr3 := Lib.hid (hr2.out.below hb)
   have hd3 := Lib.hid (hd2.out.trans (hb.mono hd2.out.size))
   have hb3 := Lib.hid hb
   clear hb
   cases B with
   | false =>
     go_wp2_with (first
      | ((with_reducible refine wpList_store_at rfl 30 (.tmp 2) (.tmp 18) rfl (o := 0) (vs := [.int .i64 0, .int .u64 0, .int .i64 0, .int .u64 0, .int .u64 0, .slice none 0 0, .slice none 0 0, .int .i64 0, .slice none 0 0, .slice none 0 0]) rfl rfl hr3.out zz (Nat.le_refl _) zone ?_)
         intro wz h9 hg9
         have rz : Hid (RowV 30 wz w.heap.size [.int .i64 0, .int .u64 0, .int .i64 0, .int .u64 0, .int .u64 0, .slice none 0 0, .slice none 0 0, .int .i64 0, .slice none 0 0, .slice none 0 0]) := h9
         have gz := Lib.hid hg9
         clear h9 hg9))
     have m0 : wz.cell? ⟨w.heap.size, 0, none⟩ = some (.int .i64 0) := rz.out.cell 0
     have m1 : wz.cell? ⟨w.heap.size, 1, none⟩ = some (.int .u64 0) := rz.out.cell 1
     have m2 : wz.cell? ⟨w.heap.size, 2, none⟩ = some (.int .i64 0) := rz.out.cell 2
     have m3 : wz.cell? ⟨w.heap.size, 3, none⟩ = some (.int .u64 0) := rz.out.cell 3
     have m4 : wz.cell? ⟨w.heap.size, 4, none⟩ = some (.int .u64 0) := rz.out.cell 4
     have m5 : wz.cell? ⟨w.heap.size, 5, none⟩ = some (.slice none 0 0) := rz.out.cell 5
     have m6 : wz.cell? ⟨w.heap.size, 6, none⟩ = some (.slice none 0 0) := rz.out.cell 6
     have m7 : wz.cell? ⟨w.heap.size, 7, none⟩ = some (.int .i64 0) := rz.out.cell 7
     have m8 : wz.cell? ⟨w.heap.size, 8, none⟩ = some (.slice none 0 0) := rz.out.cell 8
     have m9 : wz.cell? ⟨w.heap.size, 9, none⟩ = some (.slice none 0 0) := rz.out.cell 9
     refine bodyPost_ret (v := .tuple #[.agg #[.int .i64 0, .int .u64 0, .int .i64 0, .int .u64 0, .int .u64 0, .slice none 0 0, .slice none 0 0, .int .i64 0, .slice none 0 0, .slice none 0 0], .int .i64 161]) (by simp [results, Tryz.results19, go_sem, m0, m1, m2, m3, m4, m5, m6, m7, m8, m9]) rfl ?_
     exact ⟨⟨0, 0, 0, 0, 0, none, 0, 0, none, 0, 0, 0, none, 0, 0, none, 0, 0⟩, [], zRec, 161, rfl, (fun _ _ => zero_on _), .inr ⟨rfl, rfl, r, _, hrr.out, (fun _ => hB.out)⟩, Gr.below gz.out hd3.out (Nat.le_refl _)⟩
   | true =>
     go_wp2_with (first
      | (with_reducible refine wpList_load_at rfl 30 (.tmp 4) rfl Tryz.underlying30 rfl zr rfl (hbx.out.2.1.below hb3.out (Nat.le_refl _)).all ?_)
      | ((with_reducible refine wpList_store_at rfl 30 (.tmp 2) (.tmp 19) rfl (o := 0) (vs := [.int .i64 kind, .int .u64 lsn, .int .i64 txn, .int .u64 prev, .int .u64 next, .slice iq im ic, .slice sq sn sc, .int .i64 nextTxn, .slice tq tn tc, .slice dq dn dc]) rfl rfl hr3.out zr (Nat.le_refl _) rone ?_)
         intro wz h9 hg9
         have rz : Hid (RowV 30 wz w.heap.size [.int .i64 kind, .int .u64 lsn, .int .i64 txn, .int .u64 prev, .int .u64 next, .slice iq im ic, .slice sq sn sc, .int .i64 nextTxn, .slice tq tn tc, .slice dq dn dc]) := h9
         have gz := Lib.hid hg9
         clear h9 hg9))
     have m0 : wz.cell? ⟨w.heap.size, 0, none⟩ = some (.int .i64 kind) := rz.out.cell 0
     have m1 : wz.cell? ⟨w.heap.size, 1, none⟩ = some (.int .u64 lsn) := rz.out.cell 1
     have m2 : wz.cell? ⟨w.heap.size, 2, none⟩ = some (.int .i64 txn) := rz.out.cell 2
     have m3 : wz.cell? ⟨w.heap.size, 3, none⟩ = some (.int .u64 prev) := rz.out.cell 3
     have m4 : wz.cell? ⟨w.heap.size, 4, none⟩ = some (.int .u64 next) := rz.out.cell 4
     have m5 : wz.cell? ⟨w.heap.size, 5, none⟩ = some (.slice iq im ic) := rz.out.cell 5
     have m6 : wz.cell? ⟨w.heap.size, 6, none⟩ = some (.slice sq sn sc) := rz.out.cell 6
     have m7 : wz.cell? ⟨w.heap.size, 7, none⟩ = some (.int .i64 nextTxn) := rz.out.cell 7
     have m8 : wz.cell? ⟨w.heap.size, 8, none⟩ = some (.slice tq tn tc) := rz.out.cell 8
     have m9 : wz.cell? ⟨w.heap.size, 9, none⟩ = some (.slice dq dn dc) := rz.out.cell 9
     refine bodyPost_ret (v := .tuple #[.agg #[.int .i64 kind, .int .u64 lsn, .int .i64 txn, .int .u64 prev, .int .u64 next, .slice iq im ic, .slice sq sn sc, .int .i64 nextTxn, .slice tq tn tc, .slice dq dn dc], .int .i64 0]) (by simp [results, Tryz.results19, go_sem, m0, m1, m2, m3, m4, m5, m6, m7, m8, m9]) rfl ?_
     refine ⟨⟨kind, lsn, txn, prev, next, iq, im, ic, sq, sn, sc, nextTxn, tq, tn, tc, dq, dn, dc⟩, V, r, 0, rfl, fun x ha => hon.out x (fun k h1 h2 => ?_), .inl ⟨rfl, hrr.out, hB.out⟩, Gr.below gz.out hd3.out (Nat.le_refl _)⟩
     have h3 := hlt.out
     have h4 := hbx.out.1.size
     have h5 := hb3.out.size
     have h6 := gz.out.size
     exact (ha k (by omega) (by omega)).trans ((gz.out.block k (by omega) (fun e => by simp at e; omega)).trans ((hb3.out.block k (by omega)).trans (hbx.out.1.block k h2)))
end Go.Proofs.YtocekhckmpkbmaaGreat
namespace Go.Proofs.YtocekhckmpkbmaaGreat
open Go.RowKit
theorem riseF_len : ∀ (L : List Int) (a : Int), a ≤ 63 → riseF a L = true → (L.length : Int) ≤ 63 - a
 | [], a, ha, _ => by simp; omega
 | p :: r, a, ha, h => by
   unfold riseF at h
   split at h
   · cases h
   · have h2 := riseF_len r p (by omega) h
     simp only [List.length_cons]
     omega
theorem lay_of {r : RecD} (h : mayB r = true) : LayOk r := by
 unfold mayB at h
 rw [Bool.and_eq_true] at h
 have hk := h.2
 unfold kindB at hk
 unfold LayOk
 by_cases h2 : r.kind = 2
 · rw [if_pos h2]
   rw [if_neg (by omega), if_pos h2] at hk
   simp only [Bool.and_eq_true] at hk
   have hi := (pB_iff _).1 hk.2.2
   exact ⟨fun d hd => hi.2 d hd, hi.1.1⟩
 rw [if_neg h2]
 by_cases h4 : r.kind = 4
 · rw [if_pos h4]
   rw [if_neg (by omega), if_neg h2, if_neg (by omega), if_pos h4] at hk
   simp only [Bool.and_eq_true] at hk
   have hs := hk.2.2
   unfold stpsB at hs
   simp only [Bool.and_eq_true, decide_eq_true_eq] at hs
   exact ⟨fun s hs' => List.all_eq_true.1 hs.2.2 s hs', hs.2.1⟩
 rw [if_neg h4]
 by_cases h5 : r.kind = 5
 · rw [if_pos h5]
   rw [if_neg (by omega), if_neg h2, if_neg (by omega), if_neg h4, if_pos h5] at hk
   simp only [Bool.and_eq_true] at hk
   have hi := (pB_iff _).1 hk.2.2.1
   exact ⟨fun d hd => (hi.2 d hd).2, hi.1.1⟩
 rw [if_neg h5]
 by_cases h9 : r.kind = 9
 · rw [if_pos h9]
   rw [if_neg (by omega), if_neg h2, if_neg (by omega), if_neg h4, if_neg h5, if_neg (by omega), if_neg (by omega), if_neg (by omega), if_pos h9] at hk
   simp only [Bool.and_eq_true] at hk
   have ht := hk.2.2.2.1
   have hd := hk.2.2.2.2
   unfold txnsB at ht
   unfold dirtyB at hd
   simp only [Bool.and_eq_true, decide_eq_true_eq] at ht hd
   have hl := riseF_len _ _ (by decide) hd.2
   rw [List.length_map] at hl
   exact ⟨ht.1, by omega⟩
 rw [if_neg h9]
 by_cases h1 : r.kind = 1
 · exact .inl h1
 by_cases h3 : r.kind = 3
 · exact .inr (.inl h3)
 by_cases h6 : r.kind = 6
 · exact .inr (.inr (.inl h6))
 by_cases h7 : r.kind = 7
 · exact .inr (.inr (.inr (.inl h7)))
 by_cases h8 : r.kind = 8
 · exact .inr (.inr (.inr (.inr h8)))
 rw [if_neg h1, if_neg h2, if_neg h3, if_neg h4, if_neg h5, if_neg h6, if_neg h7, if_neg h8, if_neg h9] at hk
 cases hk
theorem encL_le {α : Type} {f : α → List UInt8} {L : List α} {b : Nat} (h : ∀ x ∈ L, (f x).length ≤ b) : (encL f L).length ≤ b * L.length := by
 have h1 := encL_len h L.length
 rwa [List.take_length] at h1
theorem encRec_len {r : RecD} (h : LayOk r) : (encRec r).length ≤ 4000 := by
 have e : (encRec r).length = 21 + (encRest r).length := by unfold encRec; simp only [List.length_append, length_be]
 rw [e]
 have hr : (encRest r).length ≤ 3000 := by
  unfold LayOk at h
  unfold encRest
  split
  · rename_i h2
    rw [if_pos h2] at h
    have h1 := encL_le (f := encImg) (L := r.images) (b := 165) (fun d hd => by have h1 := encC_len (h.1 d hd).1; have h3 := encC_len (h.1 d hd).2; unfold encImg; rw [List.length_append, List.length_append, length_be]; omega)
    rw [List.length_append, length_be]
    have h3 := h.2
    have h4 : 165 * r.images.length ≤ 165 * 16 := Nat.mul_le_mul_left _ h3
    omega
  rename_i h2
  rw [if_neg h2] at h
  split
  · rw [length_be]; omega
  split
  · rename_i h4
    rw [if_pos h4] at h
    have h1 := encL_le (f := encStep) (L := r.steps) (b := 21) (fun s hs => encStep_len (h.1 s hs))
    rw [List.length_append, List.length_append, length_be, length_be]
    have h3 := h.2
    have h5 : 21 * r.steps.length ≤ 21 * 2 := Nat.mul_le_mul_left _ h3
    omega
  rename_i h4
  rw [if_neg h4] at h
  split
  · rename_i h5
    rw [if_pos h5] at h
    have h1 := encL_le (f := encAft) (L := r.images) (b := 83) (fun d hd => by have h1 := encC_len (h.1 d hd); unfold encAft; rw [List.length_append, length_be]; omega)
    rw [List.length_append, List.length_append, length_be, length_be]
    have h3 := h.2
    have h6 : 83 * r.images.length ≤ 83 * 16 := Nat.mul_le_mul_left _ h3
    omega
  rename_i h5
  rw [if_neg h5] at h
  split
  · rename_i h9
    rw [if_pos h9] at h
    have h1 := encL_le (f := encTxn) (L := r.txns) (b := 29) (fun t ht => by unfold encTxn; simp only [List.length_append, length_be]; decide)
    have h2 := encL_le (f := encPg) (L := r.dirty) (b := 9) (fun t ht => by unfold encPg; simp only [List.length_append, length_be]; decide)
    simp only [List.length_append, length_be]
    have h3 : 29 * r.txns.length ≤ 29 * 8 := Nat.mul_le_mul_left _ h.1
    have h4 : 9 * r.dirty.length ≤ 9 * 64 := Nat.mul_le_mul_left _ h.2
    omega
  · simp
 omega
/-- how many sectors an entry of n bytes has -/
def secs (n : Nat) : Nat := (n - 1) / 52 + 1
theorem sectors_any (n : Nat) (w : World) (hn : n < 4611686018427387904) : Calls Tryz.prog 49 #[.int .i64 n] w (fun e w' => e = .returned (.int .i64 (secs n)) ∧ w' = w) := by
 have h1 : (0 : Int) ≤ n := by omega
 have e1 : (max ((n : Int) - 1) 0) = ((n - 1 : Nat) : Int) := by omega
 have e2 : (((n - 1 : Nat) : Int).tdiv 52) = (((n - 1) / 52 : Nat) : Int) := by rw [Int.tdiv_eq_ediv_of_nonneg (by omega)]; omega
 go_enter Tryz.func49, Tryz.ntmps49
 go_wp2
 go_ret
 exact ⟨congrArg (fun z : Int => Ending.returned (.int .i64 z)) (by unfold secs; omega), rfl⟩
noncomputable def chkRec (r : RecD) : Int := if mayB r = true then 0 else 220
set_option maxRecDepth 100000 in
set_option maxHeartbeats 4000000 in
theorem checkRec_any (v : RecV) (V : List ImgV) (r : RecD) (w : World) (h : v.On w V r) :
 Calls Tryz.prog 13 #[v.val] w (fun e w' => e = .returned (.int .i64 (chkRec r)) ∧ Below w.heap.size w w') := by
 obtain ⟨kind, lsn, txn, prev, next, iq, im, ic, sq, sn, sc, nextTxn, tq, tn, tc, dq, dn, dc⟩ := v
 obtain ⟨W, hW⟩ : ∃ W, w.alloc (.cells #[.int .i64 kind, .int .u64 lsn, .int .i64 txn, .int .u64 prev, .int .u64 next, .slice iq im ic, .slice sq sn sc, .int .i64 nextTxn, .slice tq tn tc, .slice dq dn dc] 30) = W := ⟨_, rfl⟩
 have hbx := Lib.hid (one_box (xs := [.int .i64 kind, .int .u64 lsn, .int .i64 txn, .int .u64 prev, .int .u64 next, .slice iq im ic, .slice sq sn sc, .int .i64 nextTxn, .slice tq tn tc, .slice dq dn dc]) hW)
 have o1 := Lib.hid (h.below hbx.out.1 (Nat.le_refl _))
 have zr : (Tryz.prog.info? 30).map (·.size) = some ([.int .i64 kind, .int .u64 lsn, .int .i64 txn, .int .u64 prev, .int .u64 next, .slice iq im ic, .slice sq sn sc, .int .i64 nextTxn, .slice tq tn tc, .slice dq dn dc] : List Value).length := sizeRec ⟨kind, lsn, txn, prev, next, iq, im, ic, sq, sn, sc, nextTxn, tq, tn, tc, dq, dn, dc⟩
 have hm := mayBe_any ⟨kind, lsn, txn, prev, next, iq, im, ic, sq, sn, sc, nextTxn, tq, tn, tc, dq, dn, dc⟩ V r W o1.out
 unfold chkRec
 cases hB : mayB r with
 | true =>
   rw [hB] at hm
   have hm := Lib.hid hm
   clear h o1 hB
   show Calls _ _ #[.agg #[.int .i64 kind, .int .u64 lsn, .int .i64 txn, .int .u64 prev, .int .u64 next, .slice iq im ic, .slice sq sn sc, .int .i64 nextTxn, .slice tq tn tc, .slice dq dn dc]] _ _
   go_enter Tryz.func13, Tryz.ntmps13
   go_wp2_with (first
    | (with_reducible refine wpList_load_at rfl 30 (.tmp 1) rfl Tryz.underlying30 rfl zr rfl hbx.out.2.1.all ?_))
   clear hW
   refine hm.out.mono ?_
   clear hm
   rintro e w1 ⟨rfl, hb⟩
   have hd := Lib.hid (hbx.out.1.trans (hb.mono hbx.out.1.size))
   clear hb
   go_wp2
   go_ret
   exact ⟨rfl, hd.out⟩
 | false =>
   rw [hB] at hm
   have hm := Lib.hid hm
   clear h o1 hB
   show Calls _ _ #[.agg #[.int .i64 kind, .int .u64 lsn, .int .i64 txn, .int .u64 prev, .int .u64 next, .slice iq im ic, .slice sq sn sc, .int .i64 nextTxn, .slice tq tn tc, .slice dq dn dc]] _ _
   go_enter Tryz.func13, Tryz.ntmps13
   go_wp2_with (first
    | (with_reducible refine wpList_load_at rfl 30 (.tmp 1) rfl Tryz.underlying30 rfl zr rfl hbx.out.2.1.all ?_))
   clear hW
   refine hm.out.mono ?_
   clear hm
   rintro e w1 ⟨rfl, hb⟩
   have hd := Lib.hid (hbx.out.1.trans (hb.mono hbx.out.1.size))
   clear hb
   go_wp2
   go_ret
   exact ⟨rfl, hd.out⟩
set_option maxRecDepth 100000 in
set_option maxHeartbeats 4000000 in
theorem undoable_any (v : RecV) (V : List ImgV) (r : RecD) (w : World) (h : v.On w V r) :
 Calls Tryz.prog 23 #[v.val] w (fun e w' => e = .returned (.bool (mayB r && (r.kind == 2 || r.kind == 4))) ∧ Below w.heap.size w w') := by
 obtain ⟨kind, lsn, txn, prev, next, iq, im, ic, sq, sn, sc, nextTxn, tq, tn, tc, dq, dn, dc⟩ := v
 obtain ⟨W, hW⟩ : ∃ W, w.alloc (.cells #[.int .i64 kind, .int .u64 lsn, .int .i64 txn, .int .u64 prev, .int .u64 next, .slice iq im ic, .slice sq sn sc, .int .i64 nextTxn, .slice tq tn tc, .slice dq dn dc] 30) = W := ⟨_, rfl⟩
 have hbx := Lib.hid (one_box (xs := [.int .i64 kind, .int .u64 lsn, .int .i64 txn, .int .u64 prev, .int .u64 next, .slice iq im ic, .slice sq sn sc, .int .i64 nextTxn, .slice tq tn tc, .slice dq dn dc]) hW)
 have o1 := Lib.hid (h.below hbx.out.1 (Nat.le_refl _))
 have zr : (Tryz.prog.info? 30).map (·.size) = some ([.int .i64 kind, .int .u64 lsn, .int .i64 txn, .int .u64 prev, .int .u64 next, .slice iq im ic, .slice sq sn sc, .int .i64 nextTxn, .slice tq tn tc, .slice dq dn dc] : List Value).length := sizeRec ⟨kind, lsn, txn, prev, next, iq, im, ic, sq, sn, sc, nextTxn, tq, tn, tc, dq, dn, dc⟩
 have hm := mayBe_any ⟨kind, lsn, txn, prev, next, iq, im, ic, sq, sn, sc, nextTxn, tq, tn, tc, dq, dn, dc⟩ V r W o1.out
 have hk := h.kind
 simp only at hk
 rw [← hk]
 obtain ⟨B, hB⟩ : ∃ B, mayB r = B := ⟨_, rfl⟩
 rw [hB] at hm
 rw [hB]
 have hm := Lib.hid hm
 clear h o1 hB hk
 obtain ⟨k2, hk2⟩ : ∃ b, (kind == 2) = b := ⟨_, rfl⟩
 obtain ⟨k4, hk4⟩ : ∃ b, (kind == 4) = b := ⟨_, rfl⟩
 rw [hk2, hk4]
 show Calls _ _ #[.agg #[.int .i64 kind, .int .u64 lsn, .int .i64 txn, .int .u64 prev, .int .u64 next, .slice iq im ic, .slice sq sn sc, .int .i64 nextTxn, .slice tq tn tc, .slice dq dn dc]] _ _
 go_enter Tryz.func23, Tryz.ntmps23
 go_wp2_with (first
  | (with_reducible refine wpList_load_at rfl 30 (.tmp 1) rfl Tryz.underlying30 rfl zr rfl hbx.out.2.1.all ?_))
 clear hW
 refine hm.out.mono ?_
 clear hm
 rintro e w1 ⟨rfl, hb⟩
 have hd := Lib.hid (hbx.out.1.trans (hb.mono hbx.out.1.size))
 have z0 : w1.cell? ⟨w.heap.size, 0, none⟩ = some (.int .i64 kind) := (hbx.out.2.1.below hb (Nat.le_refl _)).cell 0 rfl
 clear hb
 cases B with
 | false =>
   go_wp2
   go_ret
   exact ⟨rfl, hd.out⟩
 | true =>
   cases k2 with
   | true =>
     go_wp2
     go_ret
     exact ⟨rfl, hd.out⟩
   | false =>
     cases k4 with
     | true =>
       go_wp2
       go_ret
       exact ⟨rfl, hd.out⟩
     | false =>
       go_wp2
       go_ret
       exact ⟨rfl, hd.out⟩
def EncPost (r : RecD) (w : World) (e : Ending) (w' : World) : Prop := ∃ q n c er, e = .returned (.tuple #[.slice q n c, .int .i64 er]) ∧ ((er = 0 ∧ mayB r = true ∧ Own w' w.heap.size (.slice q n c) (encRec r)) ∨ (er = 220 ∧ mayB r = false ∧ q = none ∧ n = 0 ∧ c = 0)) ∧ Below w.heap.size w w'
def CostPost (r : RecD) (w : World) (e : Ending) (w' : World) : Prop := ∃ n er, e = .returned (.tuple #[.int .i64 n, .int .i64 er]) ∧ ((er = 0 ∧ mayB r = true ∧ n = (secs (encRec r).length : Int)) ∨ (er = 220 ∧ mayB r = false ∧ n = 0)) ∧ Below w.heap.size w w' 
set_option maxRecDepth 100000 in
set_option maxHeartbeats 4000000 in
theorem encode_any (v : RecV) (V : List ImgV) (r : RecD) (w : World) (h : v.On w V r) (h4 : r.kind = 4) :
 Calls Tryz.prog 16 #[v.val] w (EncPost r w) := by
 obtain ⟨kind, lsn, txn, prev, next, iq, im, ic, sq, sn, sc, nextTxn, tq, tn, tc, dq, dn, dc⟩ := v
 obtain ⟨W, hW⟩ : ∃ W, w.alloc (.cells #[.int .i64 kind, .int .u64 lsn, .int .i64 txn, .int .u64 prev, .int .u64 next, .slice iq im ic, .slice sq sn sc, .int .i64 nextTxn, .slice tq tn tc, .slice dq dn dc] 30) = W := ⟨_, rfl⟩
 have hbx := Lib.hid (one_box (xs := [.int .i64 kind, .int .u64 lsn, .int .i64 txn, .int .u64 prev, .int .u64 next, .slice iq im ic, .slice sq sn sc, .int .i64 nextTxn, .slice tq tn tc, .slice dq dn dc]) hW)
 have o1 := Lib.hid (h.below hbx.out.1 (Nat.le_refl _))
 have zr : (Tryz.prog.info? 30).map (·.size) = some ([.int .i64 kind, .int .u64 lsn, .int .i64 txn, .int .u64 prev, .int .u64 next, .slice iq im ic, .slice sq sn sc, .int .i64 nextTxn, .slice tq tn tc, .slice dq dn dc] : List Value).length := sizeRec ⟨kind, lsn, txn, prev, next, iq, im, ic, sq, sn, sc, nextTxn, tq, tn, tc, dq, dn, dc⟩
 have hm := checkRec_any ⟨kind, lsn, txn, prev, next, iq, im, ic, sq, sn, sc, nextTxn, tq, tn, tc, dq, dn, dc⟩ V r W o1.out
 unfold chkRec at hm
 cases hB : mayB r with
 | false =>
   rw [hB] at hm
   simp only [Bool.false_eq_true, if_false] at hm
   have hm := Lib.hid hm
   have hB := Lib.hid hB
   clear h o1
   show Calls _ _ #[.agg #[.int .i64 kind, .int .u64 lsn, .int .i64 txn, .int .u64 prev, .int .u64 next, .slice iq im ic, .slice sq sn sc, .int .i64 nextTxn, .slice tq tn tc, .slice dq dn dc]] _ _
   go_enter Tryz.func16, Tryz.ntmps16
   go_wp2_with (first
    | (with_reducible refine wpList_load_at rfl 30 (.tmp 1) rfl Tryz.underlying30 rfl zr rfl hbx.out.2.1.all ?_))
   clear hW
   refine hm.out.mono ?_
   clear hm
   rintro e w1 ⟨rfl, hb⟩
   have hd := Lib.hid (hbx.out.1.trans (hb.mono hbx.out.1.size))
   clear hb
   go_wp2
   go_ret2
   exact ⟨none, 0, 0, 220, rfl, .inr ⟨rfl, hB.out, rfl, rfl, rfl⟩, hd.out⟩
 | true =>
   rw [hB] at hm
   simp only [if_true] at hm
   have hm := Lib.hid hm
   have hB := Lib.hid hB
   have hla := Lib.hid (fun u (hu : Below W.heap.size W u) => laid_any ⟨kind, lsn, txn, prev, next, iq, im, ic, sq, sn, sc, nextTxn, tq, tn, tc, dq, dn, dc⟩ V r u (o1.out.below hu (Nat.le_refl _)) (lay_of hB.out) (.inl h4))
   have hln := Lib.hid (encRec_len (lay_of hB.out))
   clear h o1
   show Calls _ _ #[.agg #[.int .i64 kind, .int .u64 lsn, .int .i64 txn, .int .u64 prev, .int .u64 next, .slice iq im ic, .slice sq sn sc, .int .i64 nextTxn, .slice tq tn tc, .slice dq dn dc]] _ _
   go_enter Tryz.func16, Tryz.ntmps16
   go_wp2_with (first
    | (with_reducible refine wpList_load_at rfl 30 (.tmp 1) rfl Tryz.underlying30 rfl zr rfl hbx.out.2.1.all ?_))
   clear hW
   refine hm.out.mono ?_
   clear hm
   rintro e w1 ⟨rfl, hb⟩
   have hb1 := Lib.hid hb
   clear hb
   go_wp2_with (first
    | (with_reducible refine wpList_load_at rfl 30 (.tmp 1) rfl Tryz.underlying30 rfl zr rfl (hbx.out.2.1.below hb1.out (Nat.le_refl _)).all ?_))
   refine (hla.out w1 hb1.out).mono ?_
   clear hla
   rintro e w2 ⟨q, n, c, rfl, hown, hb⟩
   have hown := Lib.hid hown
   have hd := Lib.hid (hbx.out.1.trans ((hb1.out.trans (hb.mono hb1.out.size)).mono hbx.out.1.size))
   clear hb
   go_wp2
   go_ret2
   exact ⟨q, n, c, 0, rfl, .inl ⟨rfl, hB.out, hown.out.mono (Nat.le_trans hbx.out.1.size hb1.out.size)⟩, hd.out⟩
set_option maxRecDepth 100000 in
set_option maxHeartbeats 4000000 in
theorem cost_any (v : RecV) (V : List ImgV) (r : RecD) (w : World) (h : v.On w V r) (h4 : r.kind = 4) :
 Calls Tryz.prog 21 #[v.val] w (CostPost r w) := by
 obtain ⟨kind, lsn, txn, prev, next, iq, im, ic, sq, sn, sc, nextTxn, tq, tn, tc, dq, dn, dc⟩ := v
 obtain ⟨W, hW⟩ : ∃ W, w.alloc (.cells #[.int .i64 kind, .int .u64 lsn, .int .i64 txn, .int .u64 prev, .int .u64 next, .slice iq im ic, .slice sq sn sc, .int .i64 nextTxn, .slice tq tn tc, .slice dq dn dc] 30) = W := ⟨_, rfl⟩
 have hbx := Lib.hid (one_box (xs := [.int .i64 kind, .int .u64 lsn, .int .i64 txn, .int .u64 prev, .int .u64 next, .slice iq im ic, .slice sq sn sc, .int .i64 nextTxn, .slice tq tn tc, .slice dq dn dc]) hW)
 have o1 := Lib.hid (h.below hbx.out.1 (Nat.le_refl _))
 have zr : (Tryz.prog.info? 30).map (·.size) = some ([.int .i64 kind, .int .u64 lsn, .int .i64 txn, .int .u64 prev, .int .u64 next, .slice iq im ic, .slice sq sn sc, .int .i64 nextTxn, .slice tq tn tc, .slice dq dn dc] : List Value).length := sizeRec ⟨kind, lsn, txn, prev, next, iq, im, ic, sq, sn, sc, nextTxn, tq, tn, tc, dq, dn, dc⟩
 have hm := checkRec_any ⟨kind, lsn, txn, prev, next, iq, im, ic, sq, sn, sc, nextTxn, tq, tn, tc, dq, dn, dc⟩ V r W o1.out
 unfold chkRec at hm
 cases hB : mayB r with
 | false =>
   rw [hB] at hm
   simp only [Bool.false_eq_true, if_false] at hm
   have hm := Lib.hid hm
   have hB := Lib.hid hB
   clear h o1
   show Calls _ _ #[.agg #[.int .i64 kind, .int .u64 lsn, .int .i64 txn, .int .u64 prev, .int .u64 next, .slice iq im ic, .slice sq sn sc, .int .i64 nextTxn, .slice tq tn tc, .slice dq dn dc]] _ _
   go_enter Tryz.func21, Tryz.ntmps21
   go_wp2_with (first
    | (with_reducible refine wpList_load_at rfl 30 (.tmp 1) rfl Tryz.underlying30 rfl zr rfl hbx.out.2.1.all ?_))
   clear hW
   refine hm.out.mono ?_
   clear hm
   rintro e w1 ⟨rfl, hb⟩
   have hd := Lib.hid (hbx.out.1.trans (hb.mono hbx.out.1.size))
   clear hb
   go_wp2
   go_ret2
   exact ⟨0, 220, rfl, .inr ⟨rfl, hB.out, rfl⟩, hd.out⟩
 | true =>
   rw [hB] at hm
   simp only [if_true] at hm
   have hm := Lib.hid hm
   have hB := Lib.hid hB
   have hla := Lib.hid (fun u (hu : Below W.heap.size W u) => laid_any ⟨kind, lsn, txn, prev, next, iq, im, ic, sq, sn, sc, nextTxn, tq, tn, tc, dq, dn, dc⟩ V r u (o1.out.below hu (Nat.le_refl _)) (lay_of hB.out) (.inl h4))
   have hln := Lib.hid (encRec_len (lay_of hB.out))
   clear h o1
   show Calls _ _ #[.agg #[.int .i64 kind, .int .u64 lsn, .int .i64 txn, .int .u64 prev, .int .u64 next, .slice iq im ic, .slice sq sn sc, .int .i64 nextTxn, .slice tq tn tc, .slice dq dn dc]] _ _
   go_enter Tryz.func21, Tryz.ntmps21
   go_wp2_with (first
    | (with_reducible refine wpList_load_at rfl 30 (.tmp 1) rfl Tryz.underlying30 rfl zr rfl hbx.out.2.1.all ?_))
   clear hW
   refine hm.out.mono ?_
   clear hm
   rintro e w1 ⟨rfl, hb⟩
   have hb1 := Lib.hid hb
   clear hb
   go_wp2_with (first
    | (with_reducible refine wpList_load_at rfl 30 (.tmp 1) rfl Tryz.underlying30 rfl zr rfl (hbx.out.2.1.below hb1.out (Nat.le_refl _)).all ?_))
   refine (hla.out w1 hb1.out).mono ?_
   clear hla
   rintro e w2 ⟨q, n, c, rfl, hown, hb⟩
   have hown := Lib.hid hown
   have hd := Lib.hid (hbx.out.1.trans ((hb1.out.trans (hb.mono hb1.out.size)).mono hbx.out.1.size))
   clear hb
   have hn : Hid (n = (encRec r).length) := holds_len hown.out.holds.1
   have hnb : n < 4611686018427387904 := by have h1 := hln.out; have h2 := hn.out; omega
   have hse := Lib.hid (sectors_any n w2 hnb)
   obtain ⟨S, hS⟩ : ∃ S, secs n = S := ⟨_, rfl⟩
   rw [hS] at hse
   have hS' : Hid (secs n = S) := hS
   clear hS hnb
   go_wp2_with fail
   refine hse.out.mono ?_
   clear hse
   rintro e wq ⟨rfl, hw⟩
   obtain rfl := hw.symm
   go_wp2
   go_ret2
   exact ⟨S, 0, rfl, .inl ⟨rfl, hB.out, by rw [← hn.out, hS'.out]⟩, hd.out⟩
end Go.Proofs.YtocekhckmpkbmaaGreat
