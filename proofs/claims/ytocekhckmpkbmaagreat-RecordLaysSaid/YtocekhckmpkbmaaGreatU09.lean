/- Parts of the proof: Which records may be: a checkpoint's pages and transactions, the steps of an operation's end; Which records may be: a step, an operation's steps; images; Same of codec -/
import Derived.Test.YtocekhckmpkbmaaGreatU08
import Derived.Test.YtocekhckmpkbmaaGreatU01
import Derived.Test.YtocekhckmpkbmaaGreatU04
import Derived.Test.YtocekhckmpkbmaaGreatU06
import Derived.Test.YtocekhckmpkbmaaGreatU03
import Derived.Test.YtocekhckmpkbmaaGreatU07
namespace Go.Proofs.YtocekhckmpkbmaaGreat
open Go.RowKit
def pgB (lsn : Int) (p : PgD) : Bool := decide (1 ≤ p.rec_) && decide (p.rec_ < lsn)
def dirtyB (r : RecD) : Bool := r.dirty.all (pgB r.lsn) && riseF (-1) (r.dirty.map (·.page))
theorem all_no {α : Type} {f : α → Bool} {L : List α} {i : Nat} {x : α} (h : L[i]? = some x) (hf : f x = false) : L.all f = false := by
 rw [Bool.eq_false_iff]; intro e; have := List.all_eq_true.1 e x (List.mem_of_getElem? h); rw [hf] at this; cases this
theorem all_yes {α : Type} {f : α → Bool} {L : List α} (h : ∀ (i : Nat) x, L[i]? = some x → f x = true) : L.all f = true := List.all_eq_true.2 fun x hx => by
 obtain ⟨i, hi⟩ := List.mem_iff_getElem?.1 hx; exact h i x hi
set_option maxRecDepth 100000 in
set_option maxHeartbeats 4000000 in
theorem dirtyMayBe_any (v : RecV) (V : List ImgV) (r : RecD) (w : World) (h : v.On w V r) :
 Calls Tryz.prog 67 #[v.val] w (fun e w' => e = .returned (.bool (dirtyB r)) ∧ Below w.heap.size w w') := by
 have hda := lh h.dirty; have hdl := lh h.dirty.len; have hm := Nat.le_trans h.dirty.le h.dirty.cap; obtain ⟨kind, lsn, txn, prev, next, iq, im, ic, sq, sn, sc, nextTxn, tq, tn, tc, dq, dn, dc⟩ := v; have e3 : Hid (lsn = r.lsn) := h.lsn; simp only at hda hdl hm; have hrs := lh (fun u (hu : Below w.heap.size w u) => risePg_any dq dn dc r.dirty u (hda.out.below hu (Nat.le_refl _)) hm); unfold maxLen at hm; obtain ⟨W, hW⟩ : ∃ W, w.alloc (.cells #[.int .i64 kind, .int .u64 lsn, .int .i64 txn, .int .u64 prev, .int .u64 next, .slice iq im ic, .slice sq sn sc, .int .i64 nextTxn, .slice tq tn tc, .slice dq dn dc] 30) = W := ⟨_, rfl⟩; have hbx := lh (one_box hW); have c9 := hbx.out.2.1.cell 9 rfl; clear h; show Calls _ _ #[.agg #[.int .i64 kind, .int .u64 lsn, .int .i64 txn, .int .u64 prev, .int .u64 next, .slice iq im ic, .slice sq sn sc, .int .i64 nextTxn, .slice tq tn tc, .slice dq dn dc]] _ _
 go_enter Tryz.func67, Tryz.ntmps67
 go_wp2; clear hW c9
 go_loopw [8] (fun v8 wr => ∃ j : Nat, j ≤ dn ∧ v8 = .int .i64 j ∧ Hid (Below W.heap.size W wr) ∧ Hid (∀ (i : Nat) x, i < j → r.dirty[i]? = some x → pgB r.lsn x = true)) (fun v8 _ => dn - (RowKit.intOf v8).toNat)
 case atStart => exact ⟨0, Nat.zero_le _, rfl, (show Below _ _ _ from Below.refl _ _), fun i x hi => by omega⟩
 case round =>
  obtain ⟨j, hj, rfl, hd, hq⟩ := hrel; have hdw := lh (below_step hd.out hbx.out.1); have bx := lh (hbx.out.2.1.below hd.out (Nat.le_refl _))
  by_cases hlt : j < dn
  · obtain ⟨A, ⟨p, rc⟩, hqA, hx, hcA⟩ := (hda.out.below hdw.out (Nat.le_refl _)).at hlt; subst hqA; have hcA : Hid (∀ j' x, ([.int .i64 p, .int .u64 rc] : List Value)[j']? = some x → wr.cell? ((A.add (j * 2)).add j') = some x) := hcA; have hs : (Tryz.prog.info? 85).map (·.size) = some [Value.int .i64 p, Value.int .u64 rc].length := sizePg ⟨p, rc⟩; have hx' := lh hx; have i0 : (0 : Int) ≤ j := by omega
    have i1 : (j : Int) < dn := by omega
    obtain ⟨w2, hw2⟩ : ∃ x, wr.alloc (.cells #[.int .i64 p, .int .u64 rc] 85) = x := ⟨_, rfl⟩; have hbk := lh (one_box hw2); have hd2 := lh (below_step hbk.out.1 hd.out); have g1 := hbk.out.2.1.cell 1 rfl; have g2 := (bx.out.below hbk.out.1 (Nat.le_refl _)).cell 1 rfl; have hpg : Hid (pgB r.lsn ⟨p, rc⟩ = (decide (1 ≤ rc) && decide (rc < lsn))) := by show _ = _; rw [e3.out]; rfl
    clear hx
    by_cases h1 : rc < 1
    · have d1 : decide (rc < 1) = true := decide_eq_true h1; have hno : Hid (dirtyB r = false) := by show _ = _; unfold dirtyB; rw [all_no hx'.out (by rw [hpg.out, decide_eq_false (by omega)]; rfl)]; rfl
      go_wp2_with (first
       | (with_reducible refine wpList_load_at rfl 85 (.tmp 10) rfl Tryz.underlying85 rfl hs rfl hcA.out ?_))
      go_ret; exact ⟨by rw [hno.out]; rfl, below_step hd2.out hbx.out.1⟩
    · have d1 : decide (rc < 1) = false := decide_eq_false h1
      by_cases h2 : lsn ≤ rc
      · have d2 : decide (lsn ≤ rc) = true := decide_eq_true h2; have hno : Hid (dirtyB r = false) := by show _ = _; unfold dirtyB; rw [all_no hx'.out (by rw [hpg.out, decide_eq_false (p := rc < lsn) (by omega), Bool.and_false])]; rfl
        go_wp2_with (first
         | (with_reducible refine wpList_load_at rfl 85 (.tmp 10) rfl Tryz.underlying85 rfl hs rfl hcA.out ?_))
        go_ret; exact ⟨by rw [hno.out]; rfl, below_step hd2.out hbx.out.1⟩
      · have d2 : decide (lsn ≤ rc) = false := decide_eq_false h2; have hyes : Hid (pgB r.lsn ⟨p, rc⟩ = true) := by show _ = _; rw [hpg.out, decide_eq_true (by omega), decide_eq_true (by omega)]; rfl
        go_wp2_with (first
         | (with_reducible refine wpList_load_at rfl 85 (.tmp 10) rfl Tryz.underlying85 rfl hs rfl hcA.out ?_))
        go_roundw
        case rel =>
         refine ⟨j + 1, by omega, by go_num, hd2, fun i x hi hxi => ?_⟩; rcases Nat.lt_or_ge i j with h | h
         · exact hq.out i x h hxi
         · obtain rfl : i = j := by omega
           rw [hx'.out] at hxi; cases hxi; exact hyes.out
        case measure => simp [RowKit.intOf]; omega
  · obtain rfl : dn = j := by omega
    have hal : Hid (dirtyB r = riseF (-1) (r.dirty.map (·.page))) := by show _ = _; unfold dirtyB; rw [all_yes fun i x hx => hq.out i x (by have := (List.getElem?_eq_some_iff.1 hx).1; have := hdl.out; omega) hx]; rfl
    have c9 := bx.out.cell 9 rfl
    go_wp2_with fail
    refine (hrs.out wr hdw.out).mono ?_; clear c9 hrs; rintro e w3 ⟨rfl, hb⟩; have hd3 := lh (below_step hb hdw.out); clear hb; go_wp2; go_ret; exact ⟨by rw [hal.out]; rfl, hd3.out⟩
/-- a checkpoint's transactions rise from behind one on, and each may be -/
def txBad (lsn nt a : Int) (t : TxnD) : Prop := t.txn ≤ a ∨ nt ≤ t.txn ∨ t.state < 1 ∨ 3 < t.state ∨ t.first < 1 ∨ t.last < t.first ∨ lsn ≤ t.last ∨ t.last < t.undo
instance (lsn nt a : Int) (t : TxnD) : Decidable (txBad lsn nt a t) := by unfold txBad; exact inferInstance
def txF (lsn nt : Int) : Int → List TxnD → Bool
 | _, [] => true
 | a, t :: r => if txBad lsn nt a t then false else txF lsn nt t.txn r
theorem txF_at {lsn nt : Int} {L : List TxnD} {k : Nat} {t : TxnD} {a : Int} (h : L[k]? = some t) : txF lsn nt a (L.drop k) = if txBad lsn nt a t then false else txF lsn nt t.txn (L.drop (k + 1)) := by
 obtain ⟨hl, rfl⟩ := List.getElem?_eq_some_iff.1 h; rw [List.drop_eq_getElem_cons hl]; rfl
def txnsB (r : RecD) : Bool := decide (r.txns.length ≤ 8) && txF r.lsn r.nextTxn 0 r.txns
set_option maxRecDepth 100000 in
set_option maxHeartbeats 4000000 in
theorem txnsMayBe_any (v : RecV) (V : List ImgV) (r : RecD) (w : World) (h : v.On w V r) :
 Calls Tryz.prog 66 #[v.val] w (fun e w' => e = .returned (.bool (txnsB r)) ∧ Below w.heap.size w w') := by
 have hda := lh h.txns; have hdl := lh h.txns.len; have hm := Nat.le_trans h.txns.le h.txns.cap; obtain ⟨kind, lsn, txn, prev, next, iq, im, ic, sq, sn, sc, nextTxn, tq, tn, tc, dq, dn, dc⟩ := v; have e3 : Hid (lsn = r.lsn) := h.lsn; have e4 : Hid (nextTxn = r.nextTxn) := h.nextTxn; simp only at hda hdl hm; unfold maxLen at hm; obtain ⟨W, hW⟩ : ∃ W, w.alloc (.cells #[.int .i64 kind, .int .u64 lsn, .int .i64 txn, .int .u64 prev, .int .u64 next, .slice iq im ic, .slice sq sn sc, .int .i64 nextTxn, .slice tq tn tc, .slice dq dn dc] 30) = W := ⟨_, rfl⟩; have hbx := lh (one_box hW); have c8 := hbx.out.2.1.cell 8 rfl; obtain ⟨B, hB⟩ : ∃ B, txF r.lsn r.nextTxn 0 r.txns = B := ⟨_, rfl⟩; rw [← e3.out, ← e4.out] at hB; have hT : Hid (txnsB r = (decide (tn ≤ 8) && B)) := by show _ = _; unfold txnsB; rw [← hB, hdl.out, e3.out, e4.out]
 have hB := lh hB; clear h; show Calls _ _ #[.agg #[.int .i64 kind, .int .u64 lsn, .int .i64 txn, .int .u64 prev, .int .u64 next, .slice iq im ic, .slice sq sn sc, .int .i64 nextTxn, .slice tq tn tc, .slice dq dn dc]] _ _
 go_enter Tryz.func66, Tryz.ntmps66
 by_cases h8 : 8 < tn
 · have d8 : decide ((8 : Int) < tn) = true := decide_eq_true (by omega); have hno : Hid (txnsB r = false) := by show _ = _; rw [hT.out, decide_eq_false (by omega)]; rfl
   go_wp2; go_ret; exact ⟨by rw [hno.out]; rfl, hbx.out.1⟩
 have d8 : decide ((8 : Int) < tn) = false := decide_eq_false (by omega); have hTB : Hid (txnsB r = B) := by show _ = _; rw [hT.out, decide_eq_true (by omega)]; rfl
 rw [hTB.out]; go_wp2; clear hW c8
 go_loopw [3, 13] (fun v3 v13 wr => ∃ (j : Nat) (a : Int), j ≤ tn ∧ v13 = .int .i64 j ∧ v3 = .int .i64 a ∧ Hid (Below W.heap.size W wr) ∧ Hid (txF lsn nextTxn a (r.txns.drop j) = B)) (fun _ v13 _ => tn - (RowKit.intOf v13).toNat)
 case atStart => exact ⟨0, 0, Nat.zero_le _, rfl, rfl, (show Below _ _ _ from Below.refl _ _), hB.out⟩
 case round =>
  obtain ⟨j, a, hj, rfl, rfl, hd, hr⟩ := hrel; have hdw := lh (below_step hd.out hbx.out.1)
  by_cases hlt : j < tn
  · obtain ⟨A, ⟨tx, fi, la, un, sta⟩, hqA, hx, hcA⟩ := (hda.out.below hdw.out (Nat.le_refl _)).at hlt; subst hqA; have hcA : Hid (∀ j' x, ([.int .i64 tx, .int .u64 fi, .int .u64 la, .int .u64 un, .int .i64 sta] : List Value)[j']? = some x → wr.cell? ((A.add (j * 5)).add j') = some x) := hcA; have hs : (Tryz.prog.info? 82).map (·.size) = some [Value.int .i64 tx, Value.int .u64 fi, Value.int .u64 la, Value.int .u64 un, Value.int .i64 sta].length := sizeTxn ⟨tx, fi, la, un, sta⟩; have i0 : (0 : Int) ≤ j := by omega
    have i1 : (j : Int) < tn := by omega
    obtain ⟨w2, hw2⟩ : ∃ x, wr.alloc (.cells #[.int .i64 tx, .int .u64 fi, .int .u64 la, .int .u64 un, .int .i64 sta] 82) = x := ⟨_, rfl⟩; have hbk := lh (one_box hw2); have hd2 := lh (below_step hbk.out.1 hd.out); have bx2 := lh ((hbx.out.2.1.below hd.out (Nat.le_refl _)).below hbk.out.1 (Nat.le_refl _)); have g0 := hbk.out.2.1.cell 0 rfl; have g1 := hbk.out.2.1.cell 1 rfl; have g2 := hbk.out.2.1.cell 2 rfl; have g3 := hbk.out.2.1.cell 3 rfl; have g4 := hbk.out.2.1.cell 4 rfl; have k1 := bx2.out.cell 1 rfl; have k7 := bx2.out.cell 7 rfl; have hstep := hr.out; rw [txF_at hx] at hstep; have hstep := lh hstep; have hbad : Hid (txBad lsn nextTxn a ⟨tx, fi, la, un, sta⟩ → B = false) := fun h => by rw [← hstep.out, if_pos h]
    clear hx
    by_cases hb : tx ≤ a
    · have q0 : decide (tx ≤ a) = true := decide_eq_true hb; obtain rfl : B = false := hbad.out (.inl hb); clear hb
      go_wp2_with (first
       | (with_reducible refine wpList_load_at rfl 82 (.tmp 15) rfl Tryz.underlying82 rfl hs rfl hcA.out ?_))
      go_ret; exact ⟨rfl, below_step hd2.out hbx.out.1⟩
    have q0 : decide (tx ≤ a) = false := decide_eq_false hb; have n0 := lh hb; clear hb
    by_cases hb : nextTxn ≤ tx
    · have q1 : decide (nextTxn ≤ tx) = true := decide_eq_true hb; obtain rfl : B = false := hbad.out (.inr (.inl hb)); clear hb
      go_wp2_with (first
       | (with_reducible refine wpList_load_at rfl 82 (.tmp 15) rfl Tryz.underlying82 rfl hs rfl hcA.out ?_))
      go_ret; exact ⟨rfl, below_step hd2.out hbx.out.1⟩
    have q1 : decide (nextTxn ≤ tx) = false := decide_eq_false hb; have n1 := lh hb; clear hb
    by_cases hb : sta < 1
    · have q2 : decide (sta < 1) = true := decide_eq_true hb; obtain rfl : B = false := hbad.out (.inr (.inr (.inl hb))); clear hb
      go_wp2_with (first
       | (with_reducible refine wpList_load_at rfl 82 (.tmp 15) rfl Tryz.underlying82 rfl hs rfl hcA.out ?_))
      go_ret; exact ⟨rfl, below_step hd2.out hbx.out.1⟩
    have q2 : decide (sta < 1) = false := decide_eq_false hb; have n2 := lh hb; clear hb
    by_cases hb : 3 < sta
    · have q3 : decide ((3 : Int) < sta) = true := decide_eq_true hb; obtain rfl : B = false := hbad.out (.inr (.inr (.inr (.inl hb)))); clear hb
      go_wp2_with (first
       | (with_reducible refine wpList_load_at rfl 82 (.tmp 15) rfl Tryz.underlying82 rfl hs rfl hcA.out ?_))
      go_ret; exact ⟨rfl, below_step hd2.out hbx.out.1⟩
    have q3 : decide ((3 : Int) < sta) = false := decide_eq_false hb; have n3 := lh hb; clear hb
    by_cases hb : fi < 1
    · have q4 : decide (fi < 1) = true := decide_eq_true hb; obtain rfl : B = false := hbad.out (.inr (.inr (.inr (.inr (.inl hb))))); clear hb
      go_wp2_with (first
       | (with_reducible refine wpList_load_at rfl 82 (.tmp 15) rfl Tryz.underlying82 rfl hs rfl hcA.out ?_))
      go_ret; exact ⟨rfl, below_step hd2.out hbx.out.1⟩
    have q4 : decide (fi < 1) = false := decide_eq_false hb; have n4 := lh hb; clear hb
    by_cases hb : la < fi
    · have q5 : decide (la < fi) = true := decide_eq_true hb; obtain rfl : B = false := hbad.out (.inr (.inr (.inr (.inr (.inr (.inl hb)))))); clear hb
      go_wp2_with (first
       | (with_reducible refine wpList_load_at rfl 82 (.tmp 15) rfl Tryz.underlying82 rfl hs rfl hcA.out ?_))
      go_ret; exact ⟨rfl, below_step hd2.out hbx.out.1⟩
    have q5 : decide (la < fi) = false := decide_eq_false hb; have n5 := lh hb; clear hb
    by_cases hb : lsn ≤ la
    · have q6 : decide (lsn ≤ la) = true := decide_eq_true hb; obtain rfl : B = false := hbad.out (.inr (.inr (.inr (.inr (.inr (.inr (.inl hb))))))); clear hb
      go_wp2_with (first
       | (with_reducible refine wpList_load_at rfl 82 (.tmp 15) rfl Tryz.underlying82 rfl hs rfl hcA.out ?_))
      go_ret; exact ⟨rfl, below_step hd2.out hbx.out.1⟩
    have q6 : decide (lsn ≤ la) = false := decide_eq_false hb; have n6 := lh hb; clear hb
    by_cases hb : la < un
    · have q7 : decide (la < un) = true := decide_eq_true hb; obtain rfl : B = false := hbad.out (.inr (.inr (.inr (.inr (.inr (.inr (.inr (hb)))))))); clear hb
      go_wp2_with (first
       | (with_reducible refine wpList_load_at rfl 82 (.tmp 15) rfl Tryz.underlying82 rfl hs rfl hcA.out ?_))
      go_ret; exact ⟨rfl, below_step hd2.out hbx.out.1⟩
    have q7 : decide (la < un) = false := decide_eq_false hb; have n7 := lh hb; clear hb; have hnext := hstep.out
    rw [if_neg (fun h => by
     rcases h with h | h | h | h | h | h | h | h
     · exact n0.out h
     · exact n1.out h
     · exact n2.out h
     · exact n3.out h
     · exact n4.out h
     · exact n5.out h
     · exact n6.out h
     · exact n7.out h)] at hnext
    have hnext := lh hnext
    go_wp2_with (first
     | (with_reducible refine wpList_load_at rfl 82 (.tmp 15) rfl Tryz.underlying82 rfl hs rfl hcA.out ?_))
    go_roundw
    case rel => exact ⟨j + 1, tx, by omega, by go_num, rfl, hd2, hnext⟩
    case measure => simp [RowKit.intOf]; omega
  · obtain rfl : tn = j := by omega
    obtain rfl : B = true := by have h1 := hr.out; rw [← h1, List.drop_of_length_le (by rw [hdl.out]; exact Nat.le_refl _)]; rfl
    go_wp2; go_ret; exact ⟨rfl, hdw.out⟩
end Go.Proofs.YtocekhckmpkbmaaGreat
namespace Go.Proofs.YtocekhckmpkbmaaGreat
open Go.RowKit
theorem eql_row (w : World) (a b c : Int) (s : ByteArray) (d e f : Int) (u : ByteArray) : (binOp .eql 68 (.agg #[.int .i64 a, .int .u16 b, .int .i64 c, .string s]) (.agg #[.int .i64 d, .int .u16 e, .int .i64 f, .string u])).run Tryz.prog w = .ok (.bool (eqR ⟨⟨a, b⟩, c, s⟩ ⟨⟨d, e⟩, f, u⟩)) w := by
 have h := neq_row w a b c s d e f u; rw [run_neq_struct] at h; rw [run_eql_struct]
 revert h
 generalize (Op.equalIn 10000 _ _ _).run Tryz.prog w = R; intro h; cases R with
 | ok v w' => simp only [Result.andThen, Result.ok.injEq, Value.bool.injEq] at h ⊢; obtain ⟨h1, h2⟩ := h; exact ⟨by revert h1; cases v <;> cases eqR ⟨⟨a, b⟩, c, s⟩ ⟨⟨d, e⟩, f, u⟩ <;> simp, h2⟩
 | halt x w' => simp [Result.andThen] at h
def bareB (s : StepD) : Bool := eqR s.row ⟨s.row.key, 0, ⟨#[]⟩⟩
def stpB (s : StepD) : Bool := decide (chkRowC s.row = 0) && (if s.kind = 1 then bareB s else if s.kind = 2 then s.by_ == 0 else if s.kind = 3 then s.by_ == 0 else if s.kind = 4 then bareB s && s.by_ == 0 else false)
set_option maxRecDepth 100000 in
set_option maxHeartbeats 4000000 in
theorem stepMayBe_any (kd t id v by_ : Int) (s : ByteArray) (w : World) (hs : s.size ≤ maxLen) :
 Calls Tryz.prog 90 #[.agg #[.int .i64 kd, .int .i64 t, .int .u16 id, .int .i64 v, .string s, .int .i64 by_]] w (fun e w' => e = .returned (.bool (stpB ⟨kd, ⟨⟨t, id⟩, v, s⟩, by_⟩)) ∧ Below w.heap.size w w') := by
 obtain ⟨W, hW⟩ : ∃ W, w.alloc (.cells #[.int .i64 kd, .int .i64 t, .int .u16 id, .int .i64 v, .string s, .int .i64 by_] 70) = W := ⟨_, rfl⟩; have hbx := lh (one_box hW)
 have hrow : Hid (∀ u, Below W.heap.size W u → ∀ j x, ([.int .i64 t, .int .u16 id, .int .i64 v, .string s] : List Value)[j]? = some x → u.cell? ((⟨w.heap.size, 1, none⟩ : Addr).add j) = some x) := fun u hu => Boxed.part (hbx.out.2.1.below hu (Nat.le_refl _)) (o := 1) (fun j x hj => by
  match j, hj with
  | 0, hj => exact hj
  | 1, hj => exact hj
  | 2, hj => exact hj
  | 3, hj => exact hj
  | j + 4, hj => simp at hj)
 have hkey : Hid (∀ u, Below W.heap.size W u → ∀ j x, ([.int .i64 t, .int .u16 id] : List Value)[j]? = some x → u.cell? ((⟨w.heap.size, 1, none⟩ : Addr).add j) = some x) := fun u hu => Boxed.part (hbx.out.2.1.below hu (Nat.le_refl _)) (o := 1) (fun j x hj => by
  match j, hj with
  | 0, hj => exact hj
  | 1, hj => exact hj
  | j + 2, hj => simp at hj)
 have hsr := sizeRow t id v s; have hsk := sizeKey t id; have hck := lh (checkRow_any t id v s W hs); obtain ⟨E, hE⟩ : ∃ E, chkRowC ⟨⟨t, id⟩, v, s⟩ = E := ⟨_, rfl⟩; obtain ⟨bb, hbb⟩ : ∃ b, eqR ⟨⟨t, id⟩, v, s⟩ ⟨⟨t, id⟩, 0, ⟨#[]⟩⟩ = b := ⟨_, rfl⟩; have heq := fun u => eql_row u t id v s t id 0 ⟨#[]⟩
 rw [hbb] at heq; rw [hE] at hck; have hst : Hid (stpB ⟨kd, ⟨⟨t, id⟩, v, s⟩, by_⟩ = (decide (E = 0) && (if kd = 1 then bb else if kd = 2 then by_ == 0 else if kd = 3 then by_ == 0 else if kd = 4 then bb && by_ == 0 else false))) := by show _ = _; unfold stpB bareB; simp only; rw [hE, hbb]
 have r0 := lh (hrow.out W (Below.refl _ _)); clear hbb hE hs
 go_enter Tryz.func90, Tryz.ntmps90
 go_wp2_with (first
  | (with_reducible refine wpList_load_at rfl 68 (.tmp 4) rfl Tryz.underlying68 rfl hsr rfl r0.out ?_))
 refine hck.out.mono ?_; clear hW hck; rintro e w1 ⟨rfl, hb⟩; have hd := lh (below_step hb hbx.out.1); have hq := lh hb; clear hb
 by_cases h0 : E = 0
 rotate_left
 · have d0 : (E != 0) = true := by simpa using h0
   have hno : Hid (stpB ⟨kd, ⟨⟨t, id⟩, v, s⟩, by_⟩ = false) := by show _ = _; rw [hst.out, decide_eq_false h0]; rfl
   clear h0; go_wp2; go_ret; exact ⟨by rw [hno.out]; rfl, hd.out⟩
 subst h0; have r1 := lh (hrow.out w1 hq.out); have k1 := lh (hkey.out w1 hq.out); have e0 := (hbx.out.2.1.below hq.out (Nat.le_refl _)).cell 0 rfl; have e5 := (hbx.out.2.1.below hq.out (Nat.le_refl _)).cell 5 rfl; obtain ⟨b0, hb0⟩ : ∃ b : Bool, (by_ == 0) = b := ⟨_, rfl⟩; rw [hb0] at hst
 by_cases h1 : kd = 1
 · subst h1; have hres : Hid (stpB ⟨1, ⟨⟨t, id⟩, v, s⟩, by_⟩ = bb) := by show _ = _; rw [hst.out]; rfl
   clear hst
   go_wp2_with (first
    | (with_reducible refine wpList_load_at rfl 68 (.tmp 8) rfl Tryz.underlying68 rfl hsr rfl r1.out ?_)
    | (with_reducible refine wpList_load_at rfl 66 (.tmp 11) rfl Tryz.underlying66 rfl hsk rfl k1.out ?_))
   go_ret; exact ⟨by rw [hres.out]; rfl, hd.out⟩
 have n1 : (kd == 1) = false := by simpa using h1
 by_cases h2 : kd = 2
 · subst h2; have hres : Hid (stpB ⟨2, ⟨⟨t, id⟩, v, s⟩, by_⟩ = b0) := by show _ = _; rw [hst.out]; rfl
   clear hst
   go_wp2_with (first
    | (with_reducible refine wpList_load_at rfl 68 (.tmp 8) rfl Tryz.underlying68 rfl hsr rfl r1.out ?_)
    | (with_reducible refine wpList_load_at rfl 66 (.tmp 11) rfl Tryz.underlying66 rfl hsk rfl k1.out ?_))
   go_ret; exact ⟨by rw [hres.out]; rfl, hd.out⟩
 have n2 : (kd == 2) = false := by simpa using h2
 by_cases h3 : kd = 3
 · subst h3; have hres : Hid (stpB ⟨3, ⟨⟨t, id⟩, v, s⟩, by_⟩ = b0) := by show _ = _; rw [hst.out]; rfl
   clear hst
   go_wp2_with (first
    | (with_reducible refine wpList_load_at rfl 68 (.tmp 8) rfl Tryz.underlying68 rfl hsr rfl r1.out ?_)
    | (with_reducible refine wpList_load_at rfl 66 (.tmp 11) rfl Tryz.underlying66 rfl hsk rfl k1.out ?_))
   go_ret; exact ⟨by rw [hres.out]; rfl, hd.out⟩
 have n3 : (kd == 3) = false := by simpa using h3
 by_cases h4 : kd = 4
 · subst h4; have hres : Hid (stpB ⟨4, ⟨⟨t, id⟩, v, s⟩, by_⟩ = (bb && b0)) := by show _ = _; rw [hst.out]; rfl
   clear hst; cases bb
   all_goals
    go_wp2_with (first
     | (with_reducible refine wpList_load_at rfl 68 (.tmp 8) rfl Tryz.underlying68 rfl hsr rfl r1.out ?_)
     | (with_reducible refine wpList_load_at rfl 66 (.tmp 11) rfl Tryz.underlying66 rfl hsk rfl k1.out ?_))
    go_ret; exact ⟨by rw [hres.out]; rfl, hd.out⟩
 have n4 : (kd == 4) = false := by simpa using h4
 have hres : Hid (stpB ⟨kd, ⟨⟨t, id⟩, v, s⟩, by_⟩ = false) := by show _ = _; rw [hst.out, if_neg h1, if_neg h2, if_neg h3, if_neg h4]; rfl
 clear hst h1 h2 h3 h4
 go_wp2_with (first
  | (with_reducible refine wpList_load_at rfl 68 (.tmp 8) rfl Tryz.underlying68 rfl hsr rfl r1.out ?_)
  | (with_reducible refine wpList_load_at rfl 66 (.tmp 11) rfl Tryz.underlying66 rfl hsk rfl k1.out ?_))
 go_ret; exact ⟨by rw [hres.out]; rfl, hd.out⟩
def stpsB (L : List StepD) : Bool := decide (1 ≤ L.length) && (decide (L.length ≤ 2) && L.all stpB)
set_option maxRecDepth 100000 in
set_option maxHeartbeats 4000000 in
theorem stepsMayBe_any (q : Option Addr) (n c : Nat) (L : List StepD) (w : World) (h : SlOn w q n c L) (hok : ∀ x ∈ L, StepOk x) (hm : n ≤ maxLen) :
 Calls Tryz.prog 64 #[.slice q n c] w (fun e w' => e = .returned (.bool (stpsB L)) ∧ Below w.heap.size w w') := by
 have hh := lh h; have hl := lh h.len; have hok := lh hok; unfold maxLen at hm; clear h
 go_enter Tryz.func64, Tryz.ntmps64
 by_cases h1 : n < 1
 · have d1 : decide ((n : Int) < 1) = true := decide_eq_true (by omega); have hno : Hid (stpsB L = false) := by show _ = _; unfold stpsB; rw [decide_eq_false (by have := hl.out; omega)]; rfl
   go_wp2; go_ret; exact ⟨by rw [hno.out]; rfl, Below.refl _ _⟩
 have d1 : decide ((n : Int) < 1) = false := decide_eq_false (by omega)
 by_cases h2 : 2 < n
 · have d2 : decide ((2 : Int) < n) = true := decide_eq_true (by omega); have hno : Hid (stpsB L = false) := by show _ = _; unfold stpsB; rw [decide_eq_false (p := L.length ≤ 2) (by have := hl.out; omega), Bool.false_and, Bool.and_false]
   go_wp2; go_ret; exact ⟨by rw [hno.out]; rfl, Below.refl _ _⟩
 have d2 : decide ((2 : Int) < n) = false := decide_eq_false (by omega); have hal : Hid (stpsB L = L.all stpB) := by show _ = _; unfold stpsB; rw [decide_eq_true (by have := hl.out; omega), decide_eq_true (by have := hl.out; omega)]; rfl
 rw [hal.out]; go_wp2
 go_loopw [15] (fun v15 wr => ∃ j : Nat, j ≤ n ∧ v15 = .int .i64 j ∧ Hid (Below w.heap.size w wr) ∧ Hid (∀ (i : Nat) x, i < j → L[i]? = some x → stpB x = true)) (fun v15 _ => n - (RowKit.intOf v15).toNat)
 case atStart => exact ⟨0, Nat.zero_le _, rfl, (show Below _ _ _ from Below.refl _ _), fun i x hi => by omega⟩
 case round =>
  obtain ⟨j, hj, rfl, hd, hq⟩ := hrel
  by_cases hlt : j < n
  · obtain ⟨A, ⟨kd, ⟨⟨t, id⟩, v, s⟩, by_⟩, hqA, hx, hcA⟩ := (hh.out.below hd.out (Nat.le_refl _)).at hlt; subst hqA; have hcA : Hid (∀ j' x, ([.int .i64 kd, .int .i64 t, .int .u16 id, .int .i64 v, .string s, .int .i64 by_] : List Value)[j']? = some x → wr.cell? ((A.add (j * 6)).add j') = some x) := hcA; have hs : (Tryz.prog.info? 70).map (·.size) = some [Value.int .i64 kd, Value.int .i64 t, Value.int .u16 id, Value.int .i64 v, Value.string s, Value.int .i64 by_].length := sizeStep ⟨kd, ⟨⟨t, id⟩, v, s⟩, by_⟩; have hx' := lh hx; have i0 : (0 : Int) ≤ j := by omega
    have i1 : (j : Int) < n := by omega
    have hsm := (hok.out _ (List.mem_of_getElem? hx)).row.note; obtain ⟨w2, hw2⟩ : ∃ x, wr.alloc (.cells #[.int .i64 kd, .int .i64 t, .int .u16 id, .int .i64 v, .string s, .int .i64 by_] 70) = x := ⟨_, rfl⟩; have hbk := lh (one_box hw2); have hd2 := lh (below_step hbk.out.1 hd.out); have bk := lh hbk.out.2.1; have hcl := lh (stepMayBe_any kd t id v by_ s w2 hsm); obtain ⟨E, hE⟩ : ∃ E, stpB ⟨kd, ⟨⟨t, id⟩, v, s⟩, by_⟩ = E := ⟨_, rfl⟩; rw [hE] at hcl; have hE' := lh hE; clear hx hsm hE
    go_wp2_with (first
     | (with_reducible refine wpList_load_at rfl 70 (.tmp 17) rfl Tryz.underlying70 rfl hs rfl hcA.out ?_)
     | (with_reducible refine wpList_load_at rfl 70 (.tmp 4) rfl Tryz.underlying70 rfl hs rfl bk.out.all ?_))
    refine hcl.out.mono ?_; clear hcl hw2; rintro e w3 ⟨rfl, hb⟩; have hd3 := lh (below_step hb hd2.out); clear hb; cases E with
    | false => have hno : Hid (L.all stpB = false) := all_no hx'.out hE'.out; go_wp2; go_ret; exact ⟨by rw [hno.out]; rfl, hd3.out⟩
    | true =>
      go_wp2
      go_roundw
      case rel =>
       refine ⟨j + 1, by omega, by go_num, hd3, fun i x hi hxi => ?_⟩; rcases Nat.lt_or_ge i j with h | h
       · exact hq.out i x h hxi
       · obtain rfl : i = j := by omega
         rw [hx'.out] at hxi; cases hxi; exact hE'.out
      case measure => simp [RowKit.intOf]; omega
  · obtain rfl : n = j := by omega
    have hyes : Hid (L.all stpB = true) := all_yes fun i x hx => hq.out i x (by have := (List.getElem?_eq_some_iff.1 hx).1; have := hl.out; omega) hx
    go_wp2; go_ret; exact ⟨by rw [hyes.out]; rfl, hd.out⟩
end Go.Proofs.YtocekhckmpkbmaaGreat
namespace Go.Proofs.YtocekhckmpkbmaaGreat
open Go.RowKit
def sameK : List KidD → List KidD → Bool
 | [], [] => true
 | a :: l, b :: m => eqKid a b && sameK l m
 | _, _ => false
theorem sameK_iff : ∀ {l m : List KidD}, sameK l m = true ↔ l = m
 | [], [] => by simp [sameK]
 | [], b :: m => by simp [sameK]
 | a :: l, [] => by simp [sameK]
 | a :: l, b :: m => by simp only [sameK, Bool.and_eq_true, eqKid_iff, sameK_iff, List.cons.injEq]
theorem sameK_of {l m : List KidD} {n : Nat} (h1 : l.length = n) (h2 : m.length = n) (h : ∀ i a b, i < n → l[i]? = some a → m[i]? = some b → eqKid a b = true) : sameK l m = true := by
 rw [sameK_iff]; apply List.ext_getElem?; intro i
 by_cases hi : i < n
 · have e1 : l[i]? = some (l[i]'(by omega)) := List.getElem?_eq_getElem (by omega); have e2 : m[i]? = some (m[i]'(by omega)) := List.getElem?_eq_getElem (by omega); rw [e1, e2, eqKid_iff.1 (h i _ _ hi e1 e2)]
 · rw [List.getElem?_eq_none (by omega), List.getElem?_eq_none (by omega)]
theorem sameK_ne {l m : List KidD} (h : l.length ≠ m.length) : sameK l m = false := by
 cases hs : sameK l m with
 | false => rfl
 | true => exact absurd (congrArg List.length (sameK_iff.1 hs)) h
theorem sameK_at {l m : List KidD} {i : Nat} {a b : KidD} (h1 : l[i]? = some a) (h2 : m[i]? = some b) (h : eqKid a b = false) : sameK l m = false := by
 cases hs : sameK l m with
 | false => rfl
 | true => rw [sameK_iff.1 hs, h2] at h1; cases h1; rw [eqKid_iff.2 rfl] at h; cases h
set_option maxRecDepth 100000 in
set_option maxHeartbeats 2000000 in
theorem equalK_any (q1 : Option Addr) (n1 c1 : Nat) (l : List KidD) (q2 : Option Addr) (n2 c2 : Nat) (m : List KidD) (w : World) (h1 : KidsOn w q1 n1 c1 l) (h2 : KidsOn w q2 n2 c2 m) :
 Calls Tryz.prog 56 #[.slice q1 n1 c1, .slice q2 n2 c2] w (fun e w' => e = .returned (.bool (sameK l m)) ∧ Below w.heap.size w w') := by
 have k1 := Nat.le_trans h1.le h1.cap; have k2 := Nat.le_trans h2.le h2.cap; unfold maxLen at k1 k2; have g1 := lh h1; have g2 := lh h2; clear h1 h2
 by_cases hn : n1 = n2
 · subst hn; have hT : Hid ((∀ i a b, i < n1 → l[i]? = some a → m[i]? = some b → eqKid a b = true) → sameK l m = true) := fun h => sameK_of g1.out.len g2.out.len h
   have hF : Hid (∀ i a b, l[i]? = some a → m[i]? = some b → eqKid a b = false → sameK l m = false) := fun i a b ha hb h => sameK_at ha hb h
   obtain ⟨E, hE⟩ : ∃ E, sameK l m = E := ⟨_, rfl⟩; rw [hE] at hT hF ⊢; clear hE
   go_enter Tryz.func56, Tryz.ntmps56
   go_wp2
   go_loopw [13] (fun v13 wr => ∃ k : Nat, k ≤ n1 ∧ v13 = .int .i64 k ∧ Hid (Below w.heap.size w wr) ∧ Hid (∀ i a b, i < k → l[i]? = some a → m[i]? = some b → eqKid a b = true)) (fun v13 _ => n1 - (RowKit.intOf v13).toNat)
   case atStart => exact ⟨0, Nat.zero_le _, rfl, (show Below _ _ _ from Below.refl _ _), fun i a b hi => by omega⟩
   case round =>
    obtain ⟨k, hk, rfl, hb, hp⟩ := hrel
    by_cases hlt : k < n1
    · obtain ⟨A, ⟨⟨at_, ai⟩, av⟩, hqA, hx, hokA, hcA⟩ := (g1.out.below hb.out (Nat.le_refl _)).at hlt; obtain ⟨B, ⟨⟨bt, bi⟩, bv⟩, hqB, hy, hokB, hcB⟩ := (g2.out.below hb.out (Nat.le_refl _)).at hlt; subst hqA; subst hqB; have p0 : wr.cell? (A.add (k * 3)) = some (.int .i64 at_) := by have h := hcA 0 _ rfl; rwa [add0] at h
      have p1 : wr.cell? ⟨(A.add (k * 3)).block, (A.add (k * 3)).off + 1, none⟩ = some (.int .u16 ai) := hcA 1 _ rfl; have p2 : wr.cell? ⟨(A.add (k * 3)).block, (A.add (k * 3)).off + 2, none⟩ = some (.int .i64 av) := hcA 2 _ rfl; have q0 : wr.cell? (B.add (k * 3)) = some (.int .i64 bt) := by have h := hcB 0 _ rfl; rwa [add0] at h
      have q1 : wr.cell? ⟨(B.add (k * 3)).block, (B.add (k * 3)).off + 1, none⟩ = some (.int .u16 bi) := hcB 1 _ rfl; have q2 : wr.cell? ⟨(B.add (k * 3)).block, (B.add (k * 3)).off + 2, none⟩ = some (.int .i64 bv) := hcB 2 _ rfl; have hx' := lh hx; have hy' := lh hy; have i0 : (0 : Int) ≤ k := by omega
      have i1 : (k : Int) < n1 := by omega
      clear hx hy hokA hokB hcA hcB; have hne := fun u => neq_kid u at_ ai av bt bi bv
      obtain ⟨b, hbv⟩ : ∃ b, eqKid ⟨⟨at_, ai⟩, av⟩ ⟨⟨bt, bi⟩, bv⟩ = b := ⟨_, rfl⟩; rw [hbv] at hne; have hbv' := lh hbv; clear hbv; cases b with
      | true =>
        go_wp2
        go_quiet (fail)
        clear hne p0 p1 p2 q0 q1 q2; go_wp2
        go_roundw
        case rel =>
         refine ⟨k + 1, by omega, by go_num, (show Below _ _ _ from hb.out.trans ((below_drewN _ _).mono hb.out.size)), fun i a b hi ha hb2 => ?_⟩; rcases Nat.lt_or_ge i k with h | h
         · exact hp.out i a b h ha hb2
         · obtain rfl : i = k := by omega
           rw [hx'.out] at ha; rw [hy'.out] at hb2; cases ha; cases hb2; exact hbv'.out
        case measure => simp [RowKit.intOf]; omega
      | false =>
        go_wp2
        go_quiet (fail)
        clear hne p0 p1 p2 q0 q1 q2; go_wp2; go_ret; exact ⟨by rw [hF.out k _ _ hx'.out hy'.out hbv'.out]; rfl, hb.out.trans ((below_drewN _ _).mono hb.out.size)⟩
    · obtain rfl : n1 = k := by omega
      go_wp2; go_ret; exact ⟨by rw [hT.out hp.out]; rfl, hb.out⟩
 · have hs : sameK l m = false := sameK_ne (by rw [g1.out.len, g2.out.len]; exact hn); rw [hs]; clear hs; have hn1 : ¬ (n1 : Int) = n2 := by omega
   have hn2 : decide (n1 = n2) = false := decide_eq_false hn
   go_enter Tryz.func56, Tryz.ntmps56
   go_wp2; go_ret; exact ⟨rfl, Below.refl _ _⟩
def sameC (a b : ContD) : Bool := (a.kind == b.kind && sameL a.rows b.rows) && sameK a.kids b.kids
theorem sameC_iff {a b : ContD} : sameC a b = true ↔ a = b := by
 obtain ⟨ak, ar, ad⟩ := a; obtain ⟨bk, br, bd⟩ := b; unfold sameC; rw [Bool.and_eq_true, Bool.and_eq_true, sameL_iff, sameK_iff, beq_iff_eq]; constructor
 · rintro ⟨⟨h1, h2⟩, h3⟩; have h1' : ak = bk := h1; have h2' : ar = br := h2; have h3' : ad = bd := h3; rw [h1', h2', h3']
 · intro h; cases h; exact ⟨⟨rfl, rfl⟩, rfl⟩
set_option maxRecDepth 100000 in
set_option maxHeartbeats 4000000 in
theorem same_c (k1 : Int) (rq1 : Option Addr) (rn1 rc1 : Nat) (kq1 : Option Addr) (kn1 kc1 : Nat) (a : ContD) (k2 : Int) (rq2 : Option Addr) (rn2 rc2 : Nat) (kq2 : Option Addr) (kn2 kc2 : Nat) (b : ContD) (w : World) (h1 : ContOn w k1 rq1 rn1 rc1 kq1 kn1 kc1 a) (h2 : ContOn w k2 rq2 rn2 rc2 kq2 kn2 kc2 b) :
 Calls Tryz.prog 29 #[.agg #[.int .i64 k1, .slice rq1 rn1 rc1, .slice kq1 kn1 kc1], .agg #[.int .i64 k2, .slice rq2 rn2 rc2, .slice kq2 kn2 kc2]] w (fun e w' => e = .returned (.bool (sameC a b)) ∧ Below w.heap.size w w') := by
 obtain ⟨W, hW⟩ : ∃ W, (w.alloc (.cells #[.int .i64 k1, .slice rq1 rn1 rc1, .slice kq1 kn1 kc1] 55)).alloc (.cells #[.int .i64 k2, .slice rq2 rn2 rc2, .slice kq2 kn2 kc2] 55) = W := ⟨_, rfl⟩; have hbx := lh (two_boxes hW); have c0 := hbx.out.2.1.cell 0 rfl; have c1 := hbx.out.2.1.cell 1 rfl; have d0 := hbx.out.2.2.1.cell 0 rfl; have d1 := hbx.out.2.2.1.cell 1 rfl; have hr := lh (same_any rq1 rn1 rc1 a.rows rq2 rn2 rc2 b.rows W (h1.rows.below hbx.out.1 (Nat.le_refl _)) (h2.rows.below hbx.out.1 (Nat.le_refl _))); have hk := lh (fun u (hu : Below W.heap.size W u) => equalK_any kq1 kn1 kc1 a.kids kq2 kn2 kc2 b.kids u ((h1.kids.below hbx.out.1 (Nat.le_refl _)).below hu (Nat.le_refl _)) ((h2.kids.below hbx.out.1 (Nat.le_refl _)).below hu (Nat.le_refl _))); obtain ⟨E, hE⟩ : ∃ E, sameL a.rows b.rows = E := ⟨_, rfl⟩; obtain ⟨F, hF⟩ : ∃ F, sameK a.kids b.kids = F := ⟨_, rfl⟩; rw [hE] at hr; rw [hF] at hk
 have hs : Hid (sameC a b = ((k1 == k2 && E) && F)) := by show sameC a b = _; unfold sameC; rw [hE, hF, ← h1.kind, ← h2.kind]
 rw [hs.out]; clear h1 h2 hE hF hs
 by_cases hkk : k1 = k2
 · subst hkk; rw [beq_self_eq_true]; cases E with
   | true =>
     go_enter Tryz.func29, Tryz.ntmps29
     go_wp2_with fail
     clear hW; refine hr.out.mono ?_; clear hr; rintro e w1 ⟨rfl, hb1⟩; have hd := lh hb1; have e2 := (hbx.out.2.1.below hb1 (Nat.le_refl _)).cell 2 rfl; have f2 := (hbx.out.2.2.1.below hb1 (Nat.le_refl _)).cell 2 rfl; clear hb1 c0 c1 d0 d1
     go_wp2_with fail
     refine (hk.out w1 hd.out).mono ?_; clear hk e2 f2; rintro e w2 ⟨rfl, hb2⟩; have hd2 := lh (hd.out.trans (hb2.mono hd.out.size)); clear hb2; cases F with
     | true => go_wp2; go_ret; exact ⟨rfl, hbx.out.1.trans (hd2.out.mono hbx.out.1.size)⟩
     | false => go_wp2; go_ret; exact ⟨rfl, hbx.out.1.trans (hd2.out.mono hbx.out.1.size)⟩
   | false =>
     go_enter Tryz.func29, Tryz.ntmps29
     go_wp2_with fail
     clear hW; refine hr.out.mono ?_; clear hr; rintro e w1 ⟨rfl, hb1⟩; have hd := lh hb1; clear hb1 c0 c1 d0 d1 hk; go_wp2; go_ret; exact ⟨rfl, hbx.out.1.trans (hd.out.mono hbx.out.1.size)⟩
 · have hk2 : (k1 == k2) = false := by simpa using hkk
   rw [hk2]; clear hr hk
   go_enter Tryz.func29, Tryz.ntmps29
   go_wp2; go_ret; exact ⟨rfl, hbx.out.1⟩
end Go.Proofs.YtocekhckmpkbmaaGreat
