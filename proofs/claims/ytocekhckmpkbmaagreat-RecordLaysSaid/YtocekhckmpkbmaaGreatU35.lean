/- The document's record: the bytes of a record. -/
import Derived.Test.YtocekhckmpkbmaaGreatU21
import Derived.Test.YtocekhckmpkbmaaGreatU34
import Derived.Test.YtocekhckmpkbmaaGreatU25
import Derived.Test.YtocekhckmpkbmaaGreatU01
namespace Go.Proofs.YtocekhckmpkbmaaGreat
open Go.RowKit
theorem encL_take {α : Type} {f : α → List UInt8} (L : List α) (k : Nat) : (encL f (L.take k)).length ≤ (encL f L).length := by
 have h : encL f L = encL f (L.take k) ++ encL f (L.drop k) := by unfold encL; rw [← List.flatMap_append, List.take_append_drop]
 rw [h, List.length_append]; omega
set_option maxRecDepth 100000 in
set_option maxHeartbeats 40000000 in
theorem bytes12 (kind txn nextTxn : Int) (ln pn nx : Nat) (iq sq tq dq : Option Addr) (im ic sn sc tn tc dn dc : Nat) (V : List ImgV) (r : RecD) (w : World) (h : RecV.On ⟨kind, (ln : Int), txn, (pn : Int), (nx : Int), iq, im, ic, sq, sn, sc, nextTxn, tq, tn, tc, dq, dn, dc⟩ w V r) (hlay : LayOk r) :
 Calls Tryz.prog 18 #[.agg #[.int .i64 kind, .int .u64 (ln : Int), .int .i64 txn, .int .u64 (pn : Int), .int .u64 (nx : Int), .slice iq im ic, .slice sq sn sc, .int .i64 nextTxn, .slice tq tn tc, .slice dq dn dc]] w (LaidPost r w) := by
 obtain ⟨W, hW⟩ : ∃ W, w.alloc (.cells #[.int .i64 kind, .int .u64 (ln : Int), .int .i64 txn, .int .u64 (pn : Int), .int .u64 (nx : Int), .slice iq im ic, .slice sq sn sc, .int .i64 nextTxn, .slice tq tn tc, .slice dq dn dc] 30) = W := ⟨_, rfl⟩; have hbx := lh (one_box hW); have hbv : Hid (RowV 30 W w.heap.size [.int .i64 kind, .int .u64 (ln : Int), .int .i64 txn, .int .u64 (pn : Int), .int .u64 (nx : Int), .slice iq im ic, .slice sq sn sc, .int .i64 nextTxn, .slice tq tn tc, .slice dq dn dc]) := by show RowV _ _ _ _; rw [← hW]; exact RowV.made w _
 have hon := lh h; have hk0 : kind = r.kind := h.kind
 have hhd : Hid (encRec r = (((be 1 (u64 kind) ++ be 8 ln) ++ be 4 (u64 txn)) ++ be 8 pn) ++ encRest r) := by show _ = _; unfold encRec; rw [← h.kind, ← h.lsn, ← h.txn, ← h.prev]; simp only [Int.toNat_natCast]
 have hkk : Hid (kind = 1 ∨ kind = 2 ∨ kind = 3 ∨ kind = 4 ∨ kind = 5 ∨ kind = 6 ∨ kind = 7 ∨ kind = 8 ∨ kind = 9) := by
  show _ ∨ _; unfold LayOk at hlay; rw [hk0]
  repeat' split at hlay
  all_goals omega
 have hlay := lh hlay; have hnx : Hid (r.next.toNat = nx) := by show _ = _; rw [← h.next]; rfl
 have hhi : Hid (∀ u, Calls Tryz.prog 42 #[.int .u64 (nx : Int), .int .i64 8] u (BytesPost u 8 (be 8 nx))) := fun u => high_doc nx 8 u (by decide)
 have hut := u64_wrap txn; have hun := u64_wrap nextTxn; have hwk : IntKind.u8.wrap kind = kind % 256 := rfl; replace hk0 := lh hk0; clear h; have hSW : Hid (BoxS 30 W w.heap.size [.int .i64 kind, .int .u64 (ln : Int), .int .i64 txn, .int .u64 (pn : Int), .int .u64 (nx : Int), .slice iq im ic, .slice sq sn sc, .int .i64 nextTxn, .slice tq tn tc, .slice dq dn dc] W) := ⟨Below.refl _ _, hbv.out⟩
 go_enter Tryz.func18, Tryz.ntmps18
 go_wp2; refine wp_region_held (S := BoxS 30 W w.heap.size [.int .i64 kind, .int .u64 (ln : Int), .int .i64 txn, .int .u64 (pn : Int), .int .u64 (nx : Int), .slice iq im ic, .slice sq sn sc, .int .i64 nextTxn, .slice tq tn tc, .slice dq dn dc]) (by kernel_rfl) ?_
 try rw [hW]
 change wpAnyH _ _ _ _ _ _ _ _ (World.drew W); have hS0 : BoxS 30 W w.heap.size [.int .i64 kind, .int .u64 (ln : Int), .int .i64 txn, .int .u64 (pn : Int), .int .u64 (nx : Int), .slice iq im ic, .slice sq sn sc, .int .i64 nextTxn, .slice tq tn tc, .slice dq dn dc] W.drew := ⟨below_step (below_drew W) hSW.out.1, hSW.out.2.below (below_drew W)⟩; refine tg 0 12 (.pointer (some ⟨w.heap.size, 0, none⟩)) hS0 ?_; go_frame; refine held_tk (i := 1) (dst := some 13) (v := .int .i64 kind) rfl rfl (.inl ⟨rfl, fun u hu => by have c9 : u.cell? ⟨w.heap.size, 0, none⟩ = some (.int .i64 kind) := hu.2.cell 0; go_simp⟩) hS0 ?_; go_frame; refine tg 2 14 (.int .u8 (kind % 256)) hS0 ?_; go_frame; refine tg 4 16 (.pointer (some ⟨w.heap.size, 1, none⟩)) hS0 ?_; go_frame; refine held_tk (i := 5) (dst := some 17) (v := .int .u64 (ln : Int)) rfl rfl (.inl ⟨rfl, fun u hu => by have c9 : u.cell? ⟨w.heap.size, 1, none⟩ = some (.int .u64 (ln : Int)) := hu.2.cell 1; go_simp⟩) hS0 ?_; go_frame
 refine two_mk (fuel := 2) (keepS_box (by decide) W w.heap.size [.int .i64 kind, .int .u64 (ln : Int), .int .i64 txn, .int .u64 (pn : Int), .int .u64 (nx : Int), .slice iq im ic, .slice sq sn sc, .int .i64 nextTxn, .slice tq tn tc, .slice dq dn dc]) [(14, .int .u8 (kind % 256)), (17, .int .u64 (ln : Int))] (ki := be 1 (u64 kind)) (kj := be 8 ln) 3 15 6 18 rfl rfl rfl rfl (fun _ => rfl) (fun _ => rfl) (fun a u he hS => mk_lit8 rfl he.1) (fun a u he hS => mk_call rfl he.2.1 rfl (by decide)) hS0 ⟨rfl, rfl, trivial⟩ (by kernel_rfl) (by kernel_rfl) (by kernel_rfl) (by kernel_rfl) ?_; intro p c p' c' u hS ho1 ho2; obtain ⟨q1, c1, w1, L1, hL1, hrun, hO1, hg1⟩ := run_out (m := (be 8 ln).length) (L := be 1 (u64 kind)) 36 ⟨hS.1, ho1⟩ ho2.holds.1 (by rw [length_be]; decide) (by rw [length_be]; decide); have hS1 : BoxS 30 W w.heap.size [.int .i64 kind, .int .u64 (ln : Int), .int .i64 txn, .int .u64 (pn : Int), .int .u64 (nx : Int), .slice iq im ic, .slice sq sn sc, .int .i64 nextTxn, .slice tq tn tc, .slice dq dn dc] w1 := ⟨hO1.1, Out.box (by decide) ⟨hS.1, ho1⟩ hS.2 hg1⟩
 refine held_value (i := 7) (dst := some 19) (v := .slice q1 L1.length c1) (w' := w1) rfl rfl (by kernel_rfl) rfl (run_append_oper (sl := .tmp 15) (x := .tmp 18) rfl rfl rfl hrun) hS1 ?_; go_frame; refine tg 8 3 (.slice q1 L1.length c1) hS1 ?_; go_frame; refine wpAnyH_done (by kernel_rfl) ?_ _; have hL1 := lh hL1; have hO1 := lh hO1; have hS1 := lh hS1; clear hS ho1 ho2 hrun hg1 hW hS0; go_wp2; refine wp_region_held (S := BoxS 30 W w.heap.size [.int .i64 kind, .int .u64 (ln : Int), .int .i64 txn, .int .u64 (pn : Int), .int .u64 (nx : Int), .slice iq im ic, .slice sq sn sc, .int .i64 nextTxn, .slice tq tn tc, .slice dq dn dc]) (by kernel_rfl) ?_; change wpAnyH _ _ _ _ _ _ _ _ (World.drew w1); have hS0 : BoxS 30 W w.heap.size [.int .i64 kind, .int .u64 (ln : Int), .int .i64 txn, .int .u64 (pn : Int), .int .u64 (nx : Int), .slice iq im ic, .slice sq sn sc, .int .i64 nextTxn, .slice tq tn tc, .slice dq dn dc] w1.drew := ⟨below_step (below_drew w1) hS1.out.1, hS1.out.2.below (below_drew w1)⟩
 have hO0 := hO1.out.below (below_drew w1); refine tg 0 20 (.slice q1 L1.length c1) hS0 ?_; go_frame; refine tg 1 21 (.pointer (some ⟨w.heap.size, 2, none⟩)) hS0 ?_; go_frame; refine held_tk (i := 2) (dst := some 22) (v := .int .i64 txn) rfl rfl (.inl ⟨rfl, fun u hu => by have c9 : u.cell? ⟨w.heap.size, 2, none⟩ = some (.int .i64 txn) := hu.2.cell 2; go_simp⟩) hS0 ?_; go_frame; refine tg 3 23 (.int .u64 (u64 txn : Int)) hS0 ?_; go_frame; refine tg 6 26 (.pointer (some ⟨w.heap.size, 3, none⟩)) hS0 ?_; go_frame; refine held_tk (i := 7) (dst := some 27) (v := .int .u64 (pn : Int)) rfl rfl (.inl ⟨rfl, fun u hu => by have c9 : u.cell? ⟨w.heap.size, 3, none⟩ = some (.int .u64 (pn : Int)) := hu.2.cell 3; go_simp⟩) hS0 ?_; go_frame; have hl1 : L1.length = 9 := by rw [← hL1.out, List.length_append, length_be, length_be]
 refine chain0 (fuel := 1) (keepS_box (by decide) W w.heap.size [.int .i64 kind, .int .u64 (ln : Int), .int .i64 txn, .int .u64 (pn : Int), .int .u64 (nx : Int), .slice iq im ic, .slice sq sn sc, .int .i64 nextTxn, .slice tq tn tc, .slice dq dn dc]) [(23, .int .u64 (u64 txn : Int)), (27, .int .u64 (pn : Int))] [⟨4, 24, 5, 25, be 4 (u64 txn)⟩, ⟨8, 28, 9, 29, be 8 pn⟩] 20 (L := L1) ?_ hS0 hO0.2 (by simp only [lenM, length_be]; omega)
  ⟨⟨_, rfl, rfl, fun _ => rfl, fun a u he hS => mk_call rfl he.1 rfl (by decide)⟩, ⟨_, rfl, rfl, fun _ => rfl, rfl⟩, ⟨_, rfl, rfl, fun _ => rfl, fun a u he hS => mk_call rfl he.2.1 rfl (by decide)⟩, ⟨_, rfl, rfl, fun _ => rfl, rfl⟩, trivial⟩
  rfl ⟨rfl, rfl, trivial⟩ (by kernel_rfl)
 intro x1 y1 x2 y2 u q c hS hy ho; subst hy
 dsimp only
 obtain ⟨L, hL⟩ : ∃ l, L1 ++ be 4 (u64 txn) ++ be 8 pn = l := ⟨_, rfl⟩; rw [hL] at ho; rw [hL]; have hln : Hid (L.length = 21) := by show _ = _; rw [← hL, List.length_append, List.length_append, length_be, length_be, hl1]
 have hO : Hid (Out W u q c L) := ⟨hS.1, ho⟩; have hhd2 : Hid (encRec r = L ++ encRest r) := by show _ = _; rw [hhd.out, ← hL, ← hL1.out]
 replace hS := lh hS; have f0 := hS.out.2.cell 0; have f4 := hS.out.2.cell 4; refine tg 10 3 (.slice q L.length c) hS.out ?_; go_frame; refine wpAnyH_done (by kernel_rfl) ?_ _; clear hS0 hO0 hO1 hS1 hL1 hl1 ho hL hut hhd; rcases hkk.out with rfl | rfl | rfl | rfl | rfl | rfl | rfl | rfl | rfl
 · go_wp2
   go_ret; exact hO.out.done hbx.out.1 (by rw [hhd2.out, rest1 (by rw [← hk0.out]; simp), List.append_nil])
 · skip
   have hcnt : Hid (r.images.length = im) := by have h1 : V.length = r.images.length := hon.out.images.len; have h2 : V.length = im := hon.out.images.on.len; show r.images.length = im; omega
   have hcb : Hid (im ≤ 16) := by have h1 := hlay.out; unfold LayOk at h1; rw [if_pos hk0.out.symm] at h1; have h2 := hcnt.out; show _ ≤ _; omega
   have hwc : IntKind.u8.wrap (im : Int) = (im : Int) % 256 := rfl; have f5 := hS.out.2.cell 5; obtain ⟨ua, hua⟩ : ∃ x, u.alloc (.cells #[.int .u8 ((im : Int) % 256)] 5) = x := ⟨_, rfl⟩; have hl_ua := lh (lit_made hua); have hO_ua := lh (Out.below hO.out hl_ua.out.2)
   go_wp2_with (first
    | (at_builtin
       refine wpList_out rfl (.tmp 53) (.tmp 58) rfl rfl rfl hO_ua.out hl_ua.out.1 (by have := hln.out; omega) (by decide) ?_; intro q4 c4 w4 L4 hl4 hO4 hg4; have f5 := (hbv.out.below hO4.1).cell 5; have hL4 := lh hl4; have hO4 := lh hO4
       clear hl4 hg4))
   have hpre : Hid (L4 = L ++ be 1 (u64 (im : Int))) := hL4.out.symm
   have hall : Hid (encRec r = L4 ++ encL encImg r.images) := by show _ = _; rw [hhd2.out, rest2 hk0.out.symm, hpre.out, hcnt.out]; simp only [List.append_assoc]
   have htot := lh (encRec_len hlay.out); clear hua hwk; clear hO_ua hl_ua
   go_loopw [3, 63] (fun v3 v9 wr => ∃ (k : Nat) (q0 : Option Addr) (c0 : Nat) (Lk : List UInt8), k ≤ im ∧ v9 = .int .i64 k ∧ v3 = .slice q0 Lk.length c0 ∧ Hid (Lk = L4 ++ encL encImg (r.images.take k)) ∧ Hid (Out W wr q0 c0 Lk)) (fun _ v9 _ => im - (RowKit.intOf v9).toNat)
   case atStart => exact ⟨0, q4, c4, L4, Nat.zero_le _, rfl, rfl, (by show _ = _; simp [encL]), hO4⟩
   case round =>
    obtain ⟨k, q0, c0, Lk, hk, rfl, rfl, hLk, hOk⟩ := hrel
    by_cases hlt : k < im
    · have hbW : Hid (Below w.heap.size w wr) := hbx.out.1.trans (hOk.out.1.mono hbx.out.1.size); have i0 : (0 : Int) ≤ k := by omega
      have i1 : (k : Int) < im := by omega
      have i2 : (k : Int) < 64 := by have := hcb.out; omega
      obtain ⟨A, ⟨p, ⟨k1, b1, m1, e1, b2, m2, e2⟩, ⟨k3, b3, m3, e3, b4, m4, e4⟩⟩, d, hqA, _, hdx0, hond0, hcA0⟩ := hon.out.images.at (show k < im from hlt); subst hqA; have hdx := lh hdx0; have hpg : Hid (d.page = p) := hond0.page.symm
      have hgd : Hid (GoodC d.bef ∧ GoodC d.aft) := by have h1 := hlay.out; unfold LayOk at h1; rw [if_pos hk0.out.symm] at h1; exact h1.1 _ (List.mem_of_getElem? hdx0)
      have hond := lh hond0; have hcA : Hid (∀ j x, ([.int .i64 p, .int .i64 k1, .slice b1 m1 e1, .slice b2 m2 e2, .int .i64 k3, .slice b3 m3 e3, .slice b4 m4 e4] : List Value)[j]? = some x → wr.cell? ((A.add (k * 7)).add j) = some x) := fun j x hj => cell_keeps hbW.out (Nat.le_refl _) (hcA0 j x hj)
      have hs : (Tryz.prog.info? 62).map (·.size) = some ([.int .i64 p, .int .i64 k1, .slice b1 m1 e1, .slice b2 m2 e2, .int .i64 k3, .slice b3 m3 e3, .slice b4 m4 e4] : List Value).length := sizeImg ⟨p, ⟨k1, b1, m1, e1, b2, m2, e2⟩, ⟨k3, b3, m3, e3, b4, m4, e4⟩⟩; have hsb := sizeCont (.int .i64 k1) (.slice b1 m1 e1) (.slice b2 m2 e2); have hsa := sizeCont (.int .i64 k3) (.slice b3 m3 e3) (.slice b4 m4 e4); obtain ⟨we, hwe⟩ : ∃ x, wr.alloc (.cells #[.int .i64 p, .int .i64 k1, .slice b1 m1 e1, .slice b2 m2 e2, .int .i64 k3, .slice b3 m3 e3, .slice b4 m4 e4] 62) = x := ⟨_, rfl⟩; have hbk := lh (one_box hwe); have hbr : Hid (RowV 62 we wr.heap.size [.int .i64 p, .int .i64 k1, .slice b1 m1 e1, .slice b2 m2 e2, .int .i64 k3, .slice b3 m3 e3, .slice b4 m4 e4]) := by show RowV _ _ _ _; rw [← hwe]; exact RowV.made wr _
      have hOe := lh (hOk.out.below hbk.out.1); have hwp8 : IntKind.u8.wrap p = p % 256 := rfl; obtain ⟨wp, hwp⟩ : ∃ x, we.alloc (.cells #[.int .u8 (p % 256)] 5) = x := ⟨_, rfl⟩; have hl_wp := lh (lit_made hwp); have hO_wp := lh (Out.below hOe.out hl_wp.out.2); have hbp := lh (hbr.out.below hl_wp.out.2); have d0 := hbr.out.cell 0; have hstp : Hid (Lk ++ encImg d = L4 ++ encL encImg (r.images.take (k + 1))) := by show _ = _; rw [encL_step hdx.out, hLk.out, List.append_assoc]
      have hLkb : Hid ((Lk ++ encImg d).length ≤ 4000) := by have h1 := htot.out; rw [hall.out, List.length_append] at h1; have h2 := encL_take (f := encImg) r.images (k + 1); show _ ≤ _; rw [hstp.out, List.length_append]; omega
      have hlen : Hid (Lk.length + (1 + ((encC d.bef).length + (encC d.aft).length)) ≤ 4000) := by have h1 := hLkb.out; unfold encImg at h1; simp only [List.length_append, length_be] at h1; exact h1
      clear hdx0 hond0 hcA0
      go_wp2_with (first
       | (with_reducible refine wpList_load_at rfl 62 (.tmp 65) rfl Tryz.underlying62 rfl hs rfl hcA.out ?_)
       | (at_builtin
          refine wpList_out rfl (.tmp 67) (.tmp 71) rfl rfl rfl hO_wp.out hl_wp.out.1 (by have := hlen.out; omega) (by decide) ?_; intro q7 c7 w7 L7 hl7 hO7 hg7; have hb7 := lh (Out.box (by decide) hO_wp.out hbp.out hg7); have f0 := (hbv.out.below hO7.1).cell 0; have hcb : Hid (∀ j x, ([.int .i64 k1, .slice b1 m1 e1, .slice b2 m2 e2] : List Value)[j]? = some x → _) := hb7.out.part (pre := [.int .i64 p]) (rest := [.int .i64 k3, .slice b3 m3 e3, .slice b4 m4 e4]) rfl rfl; have hL7 := lh hl7; have hO7 := lh hO7
          clear hl7 hg7)
       | (with_reducible refine wpList_load_at rfl 55 (.tmp 77) rfl Tryz.underlying55 rfl hsb rfl hcb.out ?_))
      clear hwe hwp d0; refine (bytes_doc k1 b1 m1 e1 b2 m2 e2 d.bef w7 (hond.out.bef.below (hbx.out.1.trans (hO7.out.1.mono hbx.out.1.size)) (Nat.le_refl _)) hgd.out.1).mono ?_; rintro e w8 ⟨q8, n8, c8, rfl, ho8, hb8⟩; have hO8 := lh (hO7.out.below hb8); have hho8 := lh ho8.holds.1; have hn8 : Hid ((encC d.bef).length = n8) := (holds_len hho8.out).symm; have hb8r := lh (hb7.out.below hb8)
      have hLl8 : Hid (L7.length + n8 ≤ 4000) := by have h1 := hlen.out; have h2 := hn8.out; show _ ≤ _; rw [← hL7.out]; simp only [List.length_append, length_be]; omega
      clear ho8 hb8
      go_wp2_with (first
       | (at_builtin
          refine wpList_out rfl (.tmp 76) (.tmp 79) rfl rfl rfl hO8.out hho8.out (by have := hLl8.out; omega) (by have := hLl8.out; omega) ?_; intro q9 c9 w9 L9 hl9 hO9 hg9; have hb9 := lh (Out.box (by decide) hO8.out hb8r.out hg9); have hca : Hid (∀ j x, ([.int .i64 k3, .slice b3 m3 e3, .slice b4 m4 e4] : List Value)[j]? = some x → _) := hb9.out.part (pre := [.int .i64 p, .int .i64 k1, .slice b1 m1 e1, .slice b2 m2 e2]) (rest := []) rfl rfl; have hL9 := lh hl9; have hO9 := lh hO9
          clear hl9 hg9)
       | (with_reducible refine wpList_load_at rfl 55 (.tmp 82) rfl Tryz.underlying55 rfl hsa rfl hca.out ?_))
      refine (bytes_doc k3 b3 m3 e3 b4 m4 e4 d.aft w9 (hond.out.aft.below (hbx.out.1.trans (hO9.out.1.mono hbx.out.1.size)) (Nat.le_refl _)) hgd.out.2).mono ?_; rintro e w10 ⟨q10, n10, c10, rfl, ho10, hb10⟩; have hO10 := lh (hO9.out.below hb10); have hho10 := lh ho10.holds.1; have hn10 : Hid ((encC d.aft).length = n10) := (holds_len hho10.out).symm; have hb10r := lh (hb9.out.below hb10)
      have hLl10 : Hid (L9.length + n10 ≤ 4000) := by have h1 := hlen.out; have h2 := hn10.out; show _ ≤ _; rw [← hL9.out, ← hL7.out]; simp only [List.length_append, length_be]; omega
      clear ho10 hb10
      go_wp2_with (first
       | (at_builtin
          refine wpList_out rfl (.tmp 81) (.tmp 84) rfl rfl rfl hO10.out hho10.out (by have := hLl10.out; omega) (by have := hLl10.out; omega) ?_; intro q11 c11 w11 L11 hl11 hO11 hg11
          skip
          have hL11 := lh hl11; have hO11 := lh hO11
          clear hl11 hg11))
      go_roundw
      case rel => refine ⟨k + 1, q11, c11, L11, by omega, by go_num, rfl, ?_, hO11⟩; show _ = _; rw [← hL11.out, ← hL9.out, ← hL7.out, ← hstp.out, encImg, hpg.out]; simp only [List.append_assoc]
      case measure => simp [RowKit.intOf]; omega
    · obtain rfl : im = k := by omega
      have hfin : Hid (encRec r = Lk) := by show _ = _; rw [hall.out, hLk.out, List.take_of_length_le (by rw [hcnt.out]; exact Nat.le_refl _)]
      go_wp2; go_ret; exact hOk.out.done hbx.out.1 hfin.out
 · skip
   go_wp2_with fail
   refine (hhi.out _).mono ?_; rintro e u1 ⟨q1, c1, rfl, ho1, hb1⟩; have hOa := lh (hO.out.below hb1); have hho := lh ho1.holds.1; clear ho1 hb1; have f0' := (hbv.out.below hOa.out.1).cell 0
   go_wp2_with (first
    | (at_builtin
       refine wpList_out rfl (.tmp 43) (.tmp 46) rfl rfl rfl hOa.out hho.out (by have := hln.out; omega) (by decide) ?_; intro q4 c4 w4 L4 hl4 hO4 hg4; have f0 := (hbv.out.below hO4.1).cell 0; have hL4 := lh hl4; have hO4 := lh hO4
       clear hl4 hg4))
   go_ret; exact hO4.out.done hbx.out.1 (by rw [hhd2.out, ← hL4.out, rest3 hk0.out.symm, hnx.out])
 · skip
   have hcnt : Hid (r.steps.length = sn) := hon.out.steps.len
   have hcb : Hid (sn ≤ 16) := by have h1 := hlay.out; unfold LayOk at h1; rw [if_neg (by rw [← hk0.out]; decide), if_pos hk0.out.symm] at h1; have h2 := hcnt.out; show _ ≤ _; omega
   have hwc : IntKind.u8.wrap (sn : Int) = (sn : Int) % 256 := rfl
   go_wp2_with fail
   refine (hhi.out _).mono ?_; rintro e u1 ⟨q1, c1, rfl, ho1, hb1⟩; have hOa := lh (hO.out.below hb1); have hho := lh ho1.holds.1; clear ho1 hb1
   go_wp2_with (first
    | (at_builtin
       refine wpList_out rfl (.tmp 43) (.tmp 46) rfl rfl rfl hOa.out hho.out (by have := hln.out; omega) (by decide) ?_; intro q3 c3 w3 L3 hl3 hO3 hg3; have f0 := (hbv.out.below hO3.1).cell 0; have f6 := (hbv.out.below hO3.1).cell 6; obtain ⟨ua, hua⟩ : ∃ x, w3.alloc (.cells #[.int .u8 ((sn : Int) % 256)] 5) = x := ⟨_, rfl⟩; have hl_ua := lh (lit_made hua); have hO_ua := lh (Out.below hO3 hl_ua.out.2); have hL3 := lh hl3; have hO3 := lh hO3
       clear hl3 hg3)
    | (at_builtin
       refine wpList_out rfl (.tmp 89) (.tmp 94) rfl rfl rfl hO_ua.out hl_ua.out.1 (by have := hln.out; rw [← hL3.out, List.length_append, length_be]; omega) (by decide) ?_; intro q4 c4 w4 L4 hl4 hO4 hg4; have f6 := (hbv.out.below hO4.1).cell 6; have hL4 := lh hl4; have hO4 := lh hO4
       clear hl4 hg4))
   have hpre : Hid (L4 = L ++ be 8 nx ++ be 1 (u64 (sn : Int))) := by show _ = _; rw [← hL4.out, ← hL3.out]
   have hall : Hid (encRec r = L4 ++ encL encStep r.steps) := by show _ = _; rw [hhd2.out, rest4 hk0.out.symm, hpre.out, hcnt.out, hnx.out]; simp only [List.append_assoc]
   have htot := lh (encRec_len hlay.out); clear hua hwk; clear hO_ua hl_ua
   go_loopw [3, 99] (fun v3 v9 wr => ∃ (k : Nat) (q0 : Option Addr) (c0 : Nat) (Lk : List UInt8), k ≤ sn ∧ v9 = .int .i64 k ∧ v3 = .slice q0 Lk.length c0 ∧ Hid (Lk = L4 ++ encL encStep (r.steps.take k)) ∧ Hid (Out W wr q0 c0 Lk)) (fun _ v9 _ => sn - (RowKit.intOf v9).toNat)
   case atStart => exact ⟨0, q4, c4, L4, Nat.zero_le _, rfl, rfl, (by show _ = _; simp [encL]), hO4⟩
   case round =>
    obtain ⟨k, q0, c0, Lk, hk, rfl, rfl, hLk, hOk⟩ := hrel
    by_cases hlt : k < sn
    · have hbW : Hid (Below w.heap.size w wr) := hbx.out.1.trans (hOk.out.1.mono hbx.out.1.size); have i0 : (0 : Int) ≤ k := by omega
      have i1 : (k : Int) < sn := by omega
      have i2 : (k : Int) < 64 := by have := hcb.out; omega
      obtain ⟨A, ⟨kd, ⟨⟨t, id⟩, v, s⟩, by_⟩, hqA, hdx0, hcA0⟩ := (hon.out.steps.below hbW.out (Nat.le_refl _)).at (show k < sn from hlt); subst hqA; have hdx := lh hdx0
      have hgd : Hid (stpB ⟨kd, ⟨⟨t, id⟩, v, s⟩, by_⟩ = true) := by have h1 := hlay.out; unfold LayOk at h1; rw [if_neg (by rw [← hk0.out]; decide), if_pos hk0.out.symm] at h1; exact h1.1 _ (List.mem_of_getElem? hdx0)
      have hrok := lh (hon.out.sok _ (List.mem_of_getElem? hdx0)).row; have hcA : Hid (∀ j x, ([.int .i64 kd, .int .i64 t, .int .u16 id, .int .i64 v, .string s, .int .i64 by_] : List Value)[j]? = some x → wr.cell? ((A.add (k * 6)).add j) = some x) := hcA0; have hs : (Tryz.prog.info? 70).map (·.size) = some ([.int .i64 kd, .int .i64 t, .int .u16 id, .int .i64 v, .string s, .int .i64 by_] : List Value).length := sizeStep ⟨kd, ⟨⟨t, id⟩, v, s⟩, by_⟩; obtain ⟨we, hwe⟩ : ∃ x, wr.alloc (.cells #[.int .i64 kd, .int .i64 t, .int .u16 id, .int .i64 v, .string s, .int .i64 by_] 70) = x := ⟨_, rfl⟩; have hbk := lh (one_box hwe); have hOe := lh (hOk.out.below hbk.out.1); clear hdx0 hcA0
      go_wp2_with (first
       | (with_reducible refine wpList_load_at rfl 70 (.tmp 101) rfl Tryz.underlying70 rfl hs rfl hcA.out ?_)
       | (with_reducible refine wpList_load_at rfl 70 (.tmp 7) rfl Tryz.underlying70 rfl hs rfl hbk.out.2.1.all ?_))
      refine (stepped_doc kd t id v by_ s we hrok.out hgd.out).mono ?_; clear hwe; rintro e w5 ⟨X, rfl, q5, c5, rfl, ho5, hb5⟩; have hO5 := lh (hOe.out.below hb5); have hho5 := lh ho5.holds.1; have hst5 : Hid (Lk ++ encStep ⟨kd, ⟨⟨t, id⟩, v, s⟩, by_⟩ = L4 ++ encL encStep (r.steps.take (k + 1))) := by show _ = _; rw [encL_step hdx.out, hLk.out, List.append_assoc]
      have hes := lh (encStep_len hgd.out)
      have hLkb : Hid (Lk.length ≤ 4000) := by have h1 := htot.out; rw [hall.out, List.length_append] at h1; have h2 := encL_take (f := encStep) r.steps k; show _ ≤ _; rw [hLk.out, List.length_append]; omega
      obtain ⟨N5, hN5⟩ : ∃ n, (encStep ⟨kd, ⟨⟨t, id⟩, v, s⟩, by_⟩).length = n := ⟨_, rfl⟩; rw [hN5] at hho5 hes; rw [hN5]; clear ho5 hb5 hN5
      go_wp2_with (first
       | (at_builtin
          refine wpList_out rfl (.tmp 103) (.tmp 105) rfl rfl rfl hO5.out hho5.out (by have := hLkb.out; omega) (by have := hes.out; omega) ?_; intro q6 c6 w6 L6 hl6 hO6 hg6
          skip
          have hL6 := lh hl6; have hO6 := lh hO6
          clear hl6 hg6))
      go_roundw
      case rel => exact ⟨k + 1, q6, c6, L6, by omega, by go_num, rfl, (by show _ = _; rw [← hL6.out, hst5.out]), hO6⟩
      case measure => simp [RowKit.intOf]; omega
    · obtain rfl : sn = k := by omega
      have hfin : Hid (encRec r = Lk) := by show _ = _; rw [hall.out, hLk.out, List.take_of_length_le (by rw [hcnt.out]; exact Nat.le_refl _)]
      go_wp2; go_ret; exact hOk.out.done hbx.out.1 hfin.out
 · skip
   have hcnt : Hid (r.images.length = im) := by have h1 : V.length = r.images.length := hon.out.images.len; have h2 : V.length = im := hon.out.images.on.len; show r.images.length = im; omega
   have hcb : Hid (im ≤ 16) := by have h1 := hlay.out; unfold LayOk at h1; rw [if_neg (by rw [← hk0.out]; decide), if_neg (by rw [← hk0.out]; decide), if_pos hk0.out.symm] at h1; have h2 := hcnt.out; show _ ≤ _; omega
   have hwc : IntKind.u8.wrap (im : Int) = (im : Int) % 256 := rfl
   go_wp2_with fail
   refine (hhi.out _).mono ?_; rintro e u1 ⟨q1, c1, rfl, ho1, hb1⟩; have hOa := lh (hO.out.below hb1); have hho := lh ho1.holds.1; clear ho1 hb1
   go_wp2_with (first
    | (at_builtin
       refine wpList_out rfl (.tmp 43) (.tmp 46) rfl rfl rfl hOa.out hho.out (by have := hln.out; omega) (by decide) ?_; intro q3 c3 w3 L3 hl3 hO3 hg3; have f0 := (hbv.out.below hO3.1).cell 0; have f5 := (hbv.out.below hO3.1).cell 5; obtain ⟨ua, hua⟩ : ∃ x, w3.alloc (.cells #[.int .u8 ((im : Int) % 256)] 5) = x := ⟨_, rfl⟩; have hl_ua := lh (lit_made hua); have hO_ua := lh (Out.below hO3 hl_ua.out.2); have hL3 := lh hl3; have hO3 := lh hO3
       clear hl3 hg3)
    | (at_builtin
       refine wpList_out rfl (.tmp 53) (.tmp 58) rfl rfl rfl hO_ua.out hl_ua.out.1 (by have := hln.out; rw [← hL3.out, List.length_append, length_be]; omega) (by decide) ?_; intro q4 c4 w4 L4 hl4 hO4 hg4; have f5 := (hbv.out.below hO4.1).cell 5; have hL4 := lh hl4; have hO4 := lh hO4
       clear hl4 hg4))
   have hpre : Hid (L4 = L ++ be 8 nx ++ be 1 (u64 (im : Int))) := by show _ = _; rw [← hL4.out, ← hL3.out]
   have hall : Hid (encRec r = L4 ++ encL encAft r.images) := by show _ = _; rw [hhd2.out, rest5 hk0.out.symm, hpre.out, hcnt.out, hnx.out]; simp only [List.append_assoc]
   have htot := lh (encRec_len hlay.out); clear hua hwk; clear hO_ua hl_ua
   go_loopw [3, 63] (fun v3 v9 wr => ∃ (k : Nat) (q0 : Option Addr) (c0 : Nat) (Lk : List UInt8), k ≤ im ∧ v9 = .int .i64 k ∧ v3 = .slice q0 Lk.length c0 ∧ Hid (Lk = L4 ++ encL encAft (r.images.take k)) ∧ Hid (Out W wr q0 c0 Lk)) (fun _ v9 _ => im - (RowKit.intOf v9).toNat)
   case atStart => exact ⟨0, q4, c4, L4, Nat.zero_le _, rfl, rfl, (by show _ = _; simp [encL]), hO4⟩
   case round =>
    obtain ⟨k, q0, c0, Lk, hk, rfl, rfl, hLk, hOk⟩ := hrel
    by_cases hlt : k < im
    · have hbW : Hid (Below w.heap.size w wr) := hbx.out.1.trans (hOk.out.1.mono hbx.out.1.size); have i0 : (0 : Int) ≤ k := by omega
      have i1 : (k : Int) < im := by omega
      have i2 : (k : Int) < 64 := by have := hcb.out; omega
      obtain ⟨A, ⟨p, ⟨k1, b1, m1, e1, b2, m2, e2⟩, ⟨k3, b3, m3, e3, b4, m4, e4⟩⟩, d, hqA, _, hdx0, hond0, hcA0⟩ := hon.out.images.at (show k < im from hlt); subst hqA; have hdx := lh hdx0; have hpg : Hid (d.page = p) := hond0.page.symm
      have hgd : Hid (GoodC d.aft) := by have h1 := hlay.out; unfold LayOk at h1; rw [if_neg (by rw [← hk0.out]; decide), if_neg (by rw [← hk0.out]; decide), if_pos hk0.out.symm] at h1; exact h1.1 _ (List.mem_of_getElem? hdx0)
      have hond := lh hond0; have hcA : Hid (∀ j x, ([.int .i64 p, .int .i64 k1, .slice b1 m1 e1, .slice b2 m2 e2, .int .i64 k3, .slice b3 m3 e3, .slice b4 m4 e4] : List Value)[j]? = some x → wr.cell? ((A.add (k * 7)).add j) = some x) := fun j x hj => cell_keeps hbW.out (Nat.le_refl _) (hcA0 j x hj)
      have hs : (Tryz.prog.info? 62).map (·.size) = some ([.int .i64 p, .int .i64 k1, .slice b1 m1 e1, .slice b2 m2 e2, .int .i64 k3, .slice b3 m3 e3, .slice b4 m4 e4] : List Value).length := sizeImg ⟨p, ⟨k1, b1, m1, e1, b2, m2, e2⟩, ⟨k3, b3, m3, e3, b4, m4, e4⟩⟩; have hsb := sizeCont (.int .i64 k1) (.slice b1 m1 e1) (.slice b2 m2 e2); have hsa := sizeCont (.int .i64 k3) (.slice b3 m3 e3) (.slice b4 m4 e4); obtain ⟨we, hwe⟩ : ∃ x, wr.alloc (.cells #[.int .i64 p, .int .i64 k1, .slice b1 m1 e1, .slice b2 m2 e2, .int .i64 k3, .slice b3 m3 e3, .slice b4 m4 e4] 62) = x := ⟨_, rfl⟩; have hbk := lh (one_box hwe); have hbr : Hid (RowV 62 we wr.heap.size [.int .i64 p, .int .i64 k1, .slice b1 m1 e1, .slice b2 m2 e2, .int .i64 k3, .slice b3 m3 e3, .slice b4 m4 e4]) := by show RowV _ _ _ _; rw [← hwe]; exact RowV.made wr _
      have hOe := lh (hOk.out.below hbk.out.1); have hwp8 : IntKind.u8.wrap p = p % 256 := rfl; obtain ⟨wp, hwp⟩ : ∃ x, we.alloc (.cells #[.int .u8 (p % 256)] 5) = x := ⟨_, rfl⟩; have hl_wp := lh (lit_made hwp); have hO_wp := lh (Out.below hOe.out hl_wp.out.2); have hbp := lh (hbr.out.below hl_wp.out.2); have d0 := hbr.out.cell 0; have hstp : Hid (Lk ++ encAft d = L4 ++ encL encAft (r.images.take (k + 1))) := by show _ = _; rw [encL_step hdx.out, hLk.out, List.append_assoc]
      have hLkb : Hid ((Lk ++ encAft d).length ≤ 4000) := by have h1 := htot.out; rw [hall.out, List.length_append] at h1; have h2 := encL_take (f := encAft) r.images (k + 1); show _ ≤ _; rw [hstp.out, List.length_append]; omega
      have hlen : Hid (Lk.length + (1 + (encC d.aft).length) ≤ 4000) := by have h1 := hLkb.out; unfold encAft at h1; simp only [List.length_append, length_be] at h1; exact h1
      clear hdx0 hond0 hcA0
      go_wp2_with (first
       | (with_reducible refine wpList_load_at rfl 62 (.tmp 65) rfl Tryz.underlying62 rfl hs rfl hcA.out ?_)
       | (at_builtin
          refine wpList_out rfl (.tmp 67) (.tmp 71) rfl rfl rfl hO_wp.out hl_wp.out.1 (by have := hlen.out; omega) (by decide) ?_; intro q7 c7 w7 L7 hl7 hO7 hg7; have hb7 := lh (Out.box (by decide) hO_wp.out hbp.out hg7); have f0 := (hbv.out.below hO7.1).cell 0; have hca : Hid (∀ j x, ([.int .i64 k3, .slice b3 m3 e3, .slice b4 m4 e4] : List Value)[j]? = some x → _) := hb7.out.part (pre := [.int .i64 p, .int .i64 k1, .slice b1 m1 e1, .slice b2 m2 e2]) (rest := []) rfl rfl; have hL7 := lh hl7; have hO7 := lh hO7
          clear hl7 hg7)
       | (with_reducible refine wpList_load_at rfl 55 (.tmp 82) rfl Tryz.underlying55 rfl hsa rfl hca.out ?_))
      clear hwe hwp d0; refine (bytes_doc k3 b3 m3 e3 b4 m4 e4 d.aft w7 (hond.out.aft.below (hbx.out.1.trans (hO7.out.1.mono hbx.out.1.size)) (Nat.le_refl _)) hgd.out).mono ?_; rintro e w10 ⟨q10, n10, c10, rfl, ho10, hb10⟩; have hO10 := lh (hO7.out.below hb10); have hho10 := lh ho10.holds.1; have hn10 : Hid ((encC d.aft).length = n10) := (holds_len hho10.out).symm; have hb10r := lh (hb7.out.below hb10)
      have hLl10 : Hid (L7.length + n10 ≤ 4000) := by have h1 := hlen.out; have h2 := hn10.out; show _ ≤ _; rw [← hL7.out]; simp only [List.length_append, length_be]; omega
      clear ho10 hb10
      go_wp2_with (first
       | (at_builtin
          refine wpList_out rfl (.tmp 81) (.tmp 84) rfl rfl rfl hO10.out hho10.out (by have := hLl10.out; omega) (by have := hLl10.out; omega) ?_; intro q11 c11 w11 L11 hl11 hO11 hg11
          skip
          have hL11 := lh hl11; have hO11 := lh hO11
          clear hl11 hg11))
      go_roundw
      case rel => refine ⟨k + 1, q11, c11, L11, by omega, by go_num, rfl, ?_, hO11⟩; show _ = _; rw [← hL11.out, ← hL7.out, ← hstp.out, encAft, hpg.out]; simp only [List.append_assoc]
      case measure => simp [RowKit.intOf]; omega
    · obtain rfl : im = k := by omega
      have hfin : Hid (encRec r = Lk) := by show _ = _; rw [hall.out, hLk.out, List.take_of_length_le (by rw [hcnt.out]; exact Nat.le_refl _)]
      go_wp2; go_ret; exact hOk.out.done hbx.out.1 hfin.out
 · go_wp2
   go_ret; exact hO.out.done hbx.out.1 (by rw [hhd2.out, rest1 (by rw [← hk0.out]; simp), List.append_nil])
 · go_wp2
   go_ret; exact hO.out.done hbx.out.1 (by rw [hhd2.out, rest1 (by rw [← hk0.out]; simp), List.append_nil])
 · go_wp2
   go_ret; exact hO.out.done hbx.out.1 (by rw [hhd2.out, rest1 (by rw [← hk0.out]; simp), List.append_nil])
 · skip
   have hct : Hid (r.txns.length = tn) := hon.out.txns.len; have hcd : Hid (r.dirty.length = dn) := hon.out.dirty.len
   have hlk : Hid (tn ≤ 8 ∧ dn ≤ 64) := by have h1 := hlay.out; unfold LayOk at h1; rw [if_neg (by rw [← hk0.out]; decide), if_neg (by rw [← hk0.out]; decide), if_neg (by rw [← hk0.out]; decide), if_pos hk0.out.symm] at h1; rw [hct.out, hcd.out] at h1; exact h1
   have hnt : Hid (r.nextTxn = nextTxn) := hon.out.nextTxn.symm; have hwt : IntKind.u8.wrap (tn : Int) = (tn : Int) % 256 := rfl; have hwd : IntKind.u8.wrap (dn : Int) = (dn : Int) % 256 := rfl; have hbd3 : Hid (L.length ≤ 100) := by have := hln.out; show _ ≤ _; omega
   clear f4; go_wp2; refine wp_region_held (S := BoxS 30 W (w.heap.size) [.int .i64 9, .int .u64 (ln : Int), .int .i64 txn, .int .u64 (pn : Int), .int .u64 (nx : Int), .slice iq im ic, .slice sq sn sc, .int .i64 nextTxn, .slice tq tn tc, .slice dq dn dc]) (by kernel_rfl) ?_; change wpAnyH _ _ _ _ _ _ _ _ (World.drew u); have hS0 : BoxS 30 W (w.heap.size) [.int .i64 9, .int .u64 (ln : Int), .int .i64 txn, .int .u64 (pn : Int), .int .u64 (nx : Int), .slice iq im ic, .slice sq sn sc, .int .i64 nextTxn, .slice tq tn tc, .slice dq dn dc] u.drew := ⟨below_step (below_drew u) hS.out.1, hS.out.2.below (below_drew u)⟩; have hO0 := hO.out.below (below_drew u); refine tg 0 110 (.slice q L.length c) hS0 ?_; go_frame; refine tg 1 111 (.pointer (some ⟨w.heap.size, 7, none⟩)) hS0 ?_; go_frame; refine held_tk (i := 2) (dst := some 112) (v := .int .i64 nextTxn) rfl rfl (.inl ⟨rfl, fun u hu => by have c9 : u.cell? ⟨w.heap.size, 7, none⟩ = some (.int .i64 nextTxn) := hu.2.cell 7; go_simp⟩) hS0 ?_; go_frame
   refine tg 3 113 (.int .u64 (u64 nextTxn : Int)) hS0 ?_; go_frame; refine tg 6 116 (.pointer (some ⟨w.heap.size, 8, none⟩)) hS0 ?_; go_frame; refine held_tk (i := 7) (dst := some 117) (v := .slice tq tn tc) rfl rfl (.inl ⟨rfl, fun u hu => by have c9 : u.cell? ⟨w.heap.size, 8, none⟩ = some (.slice tq tn tc) := hu.2.cell 8; go_simp⟩) hS0 ?_; go_frame; refine tg 8 118 (.int .i64 (tn : Int)) hS0 ?_; go_frame; refine tg 9 119 (.int .u8 ((tn : Int) % 256)) hS0 ?_; go_frame
   refine chain0 (fuel := 1) (keepS_box (by decide) W (w.heap.size) [.int .i64 9, .int .u64 (ln : Int), .int .i64 txn, .int .u64 (pn : Int), .int .u64 (nx : Int), .slice iq im ic, .slice sq sn sc, .int .i64 nextTxn, .slice tq tn tc, .slice dq dn dc]) [(113, .int .u64 (u64 nextTxn : Int)), (119, .int .u8 ((tn : Int) % 256))] [⟨4, 114, 5, 115, be 4 (u64 nextTxn)⟩, ⟨10, 120, 11, 121, be 1 (u64 (tn : Int))⟩] 110 (L := L) ?_ hS0 hO0.2 (by simp only [lenM, length_be]; have := hbd3.out; omega)
    ⟨⟨_, rfl, rfl, fun _ => rfl, fun a u he hS => mk_call rfl he.1 rfl (by decide)⟩, ⟨_, rfl, rfl, fun _ => rfl, rfl⟩, ⟨_, rfl, rfl, fun _ => rfl, fun a u he hS => mk_lit8 rfl he.2.1⟩, ⟨_, rfl, rfl, fun _ => rfl, rfl⟩, trivial⟩ rfl ⟨rfl, rfl, trivial⟩ (by kernel_rfl)
   intro x0 y0 x1 y1 u3 q3 c3 hS hy ho; subst hy
   dsimp only
   obtain ⟨L3, hL3⟩ : ∃ l, L ++ be 4 (u64 nextTxn) ++ be 1 (u64 (tn : Int)) = l := ⟨_, rfl⟩; rw [hL3] at ho; rw [hL3]; have hO3 : Hid (Out W u3 q3 c3 L3) := ⟨hS.1, ho⟩; have hS3 := lh hS; have hL3 := lh hL3; refine tg 12 3 (.slice q3 L3.length c3) hS ?_; go_frame; refine wpAnyH_done (by kernel_rfl) ?_ _; clear hS0 hO0 hS ho
   have hal : Hid (encRec r = L3 ++ (encL encTxn r.txns ++ (be 1 (u64 (dn : Int)) ++ encL encPg r.dirty))) := by show _ = _; rw [hhd2.out, rest9 hk0.out.symm, ← hL3.out, hct.out, hcd.out, hnt.out]; simp only [List.append_assoc]
   have htot := lh (encRec_len hlay.out)
   have hsum : Hid (L3.length + ((encL encTxn r.txns).length + (1 + (encL encPg r.dirty).length)) ≤ 4000) := by have h1 := htot.out; rw [hal.out] at h1; simp only [List.length_append, length_be] at h1; exact h1
   have f8 := hS3.out.2.cell 8; clear hwk f0; go_wp2; clear f8
   go_loopw [3, 125] (fun v3 v9 wr => ∃ (k : Nat) (q0 : Option Addr) (c0 : Nat) (Lk : List UInt8), k ≤ tn ∧ v9 = .int .i64 k ∧ v3 = .slice q0 Lk.length c0 ∧ Hid (Lk = L3 ++ encL encTxn (r.txns.take k)) ∧ Hid (Out W wr q0 c0 Lk)) (fun _ v9 _ => tn - (RowKit.intOf v9).toNat)
   case atStart => exact ⟨0, q3, c3, L3, Nat.zero_le _, rfl, rfl, (by show _ = _; simp [encL]), hO3⟩
   case round =>
    obtain ⟨k, q0, c0, Lk, hk, rfl, rfl, hLk, hOk⟩ := hrel
    have hLkb : Hid (Lk.length ≤ 4000) := by have h1 := hsum.out; have h2 := encL_take (f := encTxn) r.txns k; show _ ≤ _; rw [hLk.out, List.length_append]; omega
    by_cases hlt : k < tn
    · have hbW : Hid (Below w.heap.size w wr) := hbx.out.1.trans (hOk.out.1.mono hbx.out.1.size); have i0 : (0 : Int) ≤ k := by omega
      have i1 : (k : Int) < tn := by omega
      have i2 : (k : Int) < 64 := by have := hlk.out.1; omega
      obtain ⟨A, ⟨t, f, la, un, st⟩, hqA, hdx0, hcA0⟩ := hon.out.txns.at (show k < tn from hlt); subst hqA; have hok := hon.out.tok _ (List.mem_of_getElem? hdx0); obtain ⟨f, rfl⟩ := Int.eq_ofNat_of_zero_le hok.first.1; obtain ⟨la, rfl⟩ := Int.eq_ofNat_of_zero_le hok.last.1; obtain ⟨un, rfl⟩ := Int.eq_ofNat_of_zero_le hok.undo.1; have hdx := lh hdx0; have hcA : Hid (∀ j x, ([.int .i64 t, .int .u64 (f : Int), .int .u64 (la : Int), .int .u64 (un : Int), .int .i64 st] : List Value)[j]? = some x → wr.cell? ((A.add (k * 5)).add j) = some x) := fun j x hj => cell_keeps hbW.out (Nat.le_refl _) (hcA0 j x hj)
      have hs : (Tryz.prog.info? 82).map (·.size) = some ([.int .i64 t, .int .u64 (f : Int), .int .u64 (la : Int), .int .u64 (un : Int), .int .i64 st] : List Value).length := sizeTxn ⟨t, f, la, un, st⟩; obtain ⟨we, hwe⟩ : ∃ x, wr.alloc (.cells #[.int .i64 t, .int .u64 (f : Int), .int .u64 (la : Int), .int .u64 (un : Int), .int .i64 st] 82) = x := ⟨_, rfl⟩; have hbk := lh (one_box hwe); have hbr : Hid (RowV 82 we wr.heap.size [.int .i64 t, .int .u64 (f : Int), .int .u64 (la : Int), .int .u64 (un : Int), .int .i64 st]) := by show RowV _ _ _ _; rw [← hwe]; exact RowV.made wr _
      have hOe := lh (hOk.out.below hbk.out.1); have hut := u64_wrap t; have hwst : IntKind.u8.wrap st = st % 256 := rfl; have hbd5 : Hid (Lk.length ≤ 4000) := hLkb; clear hok hdx0 hcA0
      go_wp2_with (first
       | (with_reducible refine wpList_load_at rfl 82 (.tmp 127) rfl Tryz.underlying82 rfl hs rfl hcA.out ?_))
      try rw [hwe]
      clear hwe; have hSe : Hid (BoxS 82 W wr.heap.size [.int .i64 t, .int .u64 (f : Int), .int .u64 (la : Int), .int .u64 (un : Int), .int .i64 st] we) := ⟨hOe.out.1, hbr.out⟩; refine wp_region_held (S := BoxS 82 W (wr.heap.size) [.int .i64 t, .int .u64 (f : Int), .int .u64 (la : Int), .int .u64 (un : Int), .int .i64 st]) (by kernel_rfl) ?_; change wpAnyH _ _ _ _ _ _ _ _ (World.drew we); have hS0 : BoxS 82 W (wr.heap.size) [.int .i64 t, .int .u64 (f : Int), .int .u64 (la : Int), .int .u64 (un : Int), .int .i64 st] we.drew := ⟨below_step (below_drew we) hSe.out.1, hSe.out.2.below (below_drew we)⟩; have hO0 := hOe.out.below (below_drew we); refine tg 0 129 (.slice q0 Lk.length c0) hS0 ?_; go_frame; refine tg 1 130 (.pointer (some ⟨wr.heap.size, 0, none⟩)) hS0 ?_; go_frame; refine held_tk (i := 2) (dst := some 131) (v := .int .i64 t) rfl rfl (.inl ⟨rfl, fun u hu => by have c9 : u.cell? ⟨wr.heap.size, 0, none⟩ = some (.int .i64 t) := hu.2.cell 0; go_simp⟩) hS0 ?_; go_frame
      refine tg 3 132 (.int .u64 (u64 t : Int)) hS0 ?_; go_frame; refine tg 6 135 (.pointer (some ⟨wr.heap.size, 1, none⟩)) hS0 ?_; go_frame; refine held_tk (i := 7) (dst := some 136) (v := .int .u64 (f : Int)) rfl rfl (.inl ⟨rfl, fun u hu => by have c9 : u.cell? ⟨wr.heap.size, 1, none⟩ = some (.int .u64 (f : Int)) := hu.2.cell 1; go_simp⟩) hS0 ?_; go_frame
      refine chain0 (fuel := 1) (keepS_box (by decide) W (wr.heap.size) [.int .i64 t, .int .u64 (f : Int), .int .u64 (la : Int), .int .u64 (un : Int), .int .i64 st]) [(132, .int .u64 (u64 t : Int)), (136, .int .u64 (f : Int))] [⟨4, 133, 5, 134, be 4 (u64 t)⟩, ⟨8, 137, 9, 138, be 8 f⟩] 129 (L := Lk) ?_ hS0 hO0.2 (by simp only [lenM, length_be]; have := hbd5.out; omega)
       ⟨⟨_, rfl, rfl, fun _ => rfl, fun a u he hS => mk_call rfl he.1 rfl (by decide)⟩, ⟨_, rfl, rfl, fun _ => rfl, rfl⟩, ⟨_, rfl, rfl, fun _ => rfl, fun a u he hS => mk_call rfl he.2.1 rfl (by decide)⟩, ⟨_, rfl, rfl, fun _ => rfl, rfl⟩, trivial⟩ rfl ⟨rfl, rfl, trivial⟩ (by kernel_rfl)
      intro x0 y0 x1 y1 u5 q5 c5 hS hy ho; subst hy
      dsimp only
      obtain ⟨L5, hL5⟩ : ∃ l, Lk ++ be 4 (u64 t) ++ be 8 f = l := ⟨_, rfl⟩; rw [hL5] at ho; rw [hL5]; have hO5 : Hid (Out W u5 q5 c5 L5) := ⟨hS.1, ho⟩; have hS5 := lh hS; have hL5 := lh hL5; refine tg 10 3 (.slice q5 L5.length c5) hS ?_; go_frame; refine wpAnyH_done (by kernel_rfl) ?_ _; clear hS0 hO0 hS ho; have hbd6 : Hid (L5.length ≤ 4100) := by show _ ≤ _; rw [← hL5.out]; simp only [List.length_append, length_be]; have := hLkb.out; omega
      go_wp2; refine wp_region_held (S := BoxS 82 W (wr.heap.size) [.int .i64 t, .int .u64 (f : Int), .int .u64 (la : Int), .int .u64 (un : Int), .int .i64 st]) (by kernel_rfl) ?_; change wpAnyH _ _ _ _ _ _ _ _ (World.drew u5); have hS0 : BoxS 82 W (wr.heap.size) [.int .i64 t, .int .u64 (f : Int), .int .u64 (la : Int), .int .u64 (un : Int), .int .i64 st] u5.drew := ⟨below_step (below_drew u5) hS5.out.1, hS5.out.2.below (below_drew u5)⟩; have hO0 := hO5.out.below (below_drew u5); refine tg 0 139 (.slice q5 L5.length c5) hS0 ?_; go_frame; refine tg 1 140 (.pointer (some ⟨wr.heap.size, 2, none⟩)) hS0 ?_; go_frame; refine held_tk (i := 2) (dst := some 141) (v := .int .u64 (la : Int)) rfl rfl (.inl ⟨rfl, fun u hu => by have c9 : u.cell? ⟨wr.heap.size, 2, none⟩ = some (.int .u64 (la : Int)) := hu.2.cell 2; go_simp⟩) hS0 ?_; go_frame; refine tg 5 144 (.pointer (some ⟨wr.heap.size, 3, none⟩)) hS0 ?_; go_frame
      refine held_tk (i := 6) (dst := some 145) (v := .int .u64 (un : Int)) rfl rfl (.inl ⟨rfl, fun u hu => by have c9 : u.cell? ⟨wr.heap.size, 3, none⟩ = some (.int .u64 (un : Int)) := hu.2.cell 3; go_simp⟩) hS0 ?_; go_frame; refine tg 9 148 (.pointer (some ⟨wr.heap.size, 4, none⟩)) hS0 ?_; go_frame; refine held_tk (i := 10) (dst := some 149) (v := .int .i64 st) rfl rfl (.inl ⟨rfl, fun u hu => by have c9 : u.cell? ⟨wr.heap.size, 4, none⟩ = some (.int .i64 st) := hu.2.cell 4; go_simp⟩) hS0 ?_; go_frame; refine tg 11 150 (.int .u8 (st % 256)) hS0 ?_; go_frame
      refine chain0 (fuel := 1) (keepS_box (by decide) W (wr.heap.size) [.int .i64 t, .int .u64 (f : Int), .int .u64 (la : Int), .int .u64 (un : Int), .int .i64 st]) [(141, .int .u64 (la : Int)), (145, .int .u64 (un : Int)), (150, .int .u8 (st % 256))] [⟨3, 142, 4, 143, be 8 la⟩, ⟨7, 146, 8, 147, be 8 un⟩, ⟨12, 151, 13, 152, be 1 (u64 st)⟩] 139 (L := L5) ?_ hS0 hO0.2 (by simp only [lenM, length_be]; have := hbd6.out; omega)
       ⟨⟨_, rfl, rfl, fun _ => rfl, fun a u he hS => mk_call rfl he.1 rfl (by decide)⟩, ⟨_, rfl, rfl, fun _ => rfl, rfl⟩, ⟨_, rfl, rfl, fun _ => rfl, fun a u he hS => mk_call rfl he.2.1 rfl (by decide)⟩, ⟨_, rfl, rfl, fun _ => rfl, rfl⟩, ⟨_, rfl, rfl, fun _ => rfl, fun a u he hS => mk_lit8 rfl he.2.2.1⟩, ⟨_, rfl, rfl, fun _ => rfl, rfl⟩, trivial⟩ rfl ⟨rfl, rfl, rfl, trivial⟩ (by kernel_rfl)
      intro x0 y0 x1 y1 x2 y2 u6 q6 c6 hS hy ho; subst hy
      dsimp only
      obtain ⟨L6, hL6⟩ : ∃ l, L5 ++ be 8 la ++ be 8 un ++ be 1 (u64 st) = l := ⟨_, rfl⟩; rw [hL6] at ho; rw [hL6]; have hO6 : Hid (Out W u6 q6 c6 L6) := ⟨hS.1, ho⟩; have hS6 := lh hS; have hL6 := lh hL6; refine tg 14 3 (.slice q6 L6.length c6) hS ?_; go_frame; refine wpAnyH_done (by kernel_rfl) ?_ _; clear hS0 hO0 hS ho; go_wp2
      go_roundw
      case rel => refine ⟨k + 1, q6, c6, L6, by omega, by go_num, rfl, ?_, hO6⟩; show _ = _; rw [← hL6.out, ← hL5.out, hLk.out, encL_step hdx.out, encTxn]; simp only [List.append_assoc, Int.toNat_natCast]
      case measure => simp [RowKit.intOf]; omega
    · obtain rfl : tn = k := by omega
      have hLt : Hid (Lk = L3 ++ encL encTxn r.txns) := by show _ = _; rw [hLk.out, List.take_of_length_le (by rw [hct.out]; exact Nat.le_refl _)]
      have f9 := (hbv.out.below hOk.out.1).cell 9; obtain ⟨ud, hud⟩ : ∃ x, wr.alloc (.cells #[.int .u8 ((dn : Int) % 256)] 5) = x := ⟨_, rfl⟩; have hl_ud := lh (lit_made hud); have hO_ud := lh (Out.below hOk.out hl_ud.out.2)
      go_wp2_with (first
       | (at_builtin
          refine wpList_out rfl (.tmp 154) (.tmp 159) rfl rfl rfl hO_ud.out hl_ud.out.1 (by have := hLkb.out; omega) (by decide) ?_; intro q7 c7 w7 L7 hl7 hO7 hg7; have f9 := (hbv.out.below hO7.1).cell 9; have hL7 := lh hl7; have hO7 := lh hO7
          clear hl7 hg7))
      clear hud hO_ud hl_ud
      go_loopw [3, 164] (fun v3 v9 wr => ∃ (k : Nat) (q0 : Option Addr) (c0 : Nat) (Lm : List UInt8), k ≤ dn ∧ v9 = .int .i64 k ∧ v3 = .slice q0 Lm.length c0 ∧ Hid (Lm = L7 ++ encL encPg (r.dirty.take k)) ∧ Hid (Out W wr q0 c0 Lm)) (fun _ v9 _ => dn - (RowKit.intOf v9).toNat)
      case atStart => exact ⟨0, q7, c7, L7, Nat.zero_le _, rfl, rfl, (by show _ = _; simp [encL]), hO7⟩
      case round =>
       obtain ⟨k, q0, c0, Lm, hk, rfl, rfl, hLm, hOm⟩ := hrel
       have hLmb : Hid (Lm.length ≤ 4000) := by have h1 := hsum.out; have h2 := encL_take (f := encPg) r.dirty k; show _ ≤ _; rw [hLm.out, ← hL7.out, hLt.out]; simp only [List.length_append, length_be]; omega
       by_cases hlt : k < dn
       · have hbW : Hid (Below w.heap.size w wr) := hbx.out.1.trans (hOm.out.1.mono hbx.out.1.size); have i0 : (0 : Int) ≤ k := by omega
         have i1 : (k : Int) < dn := by omega
         have i2 : (k : Int) < 64 := by have := hlk.out.2; omega
         obtain ⟨A, ⟨pg, rc⟩, hqA, hdx0, hcA0⟩ := hon.out.dirty.at (show k < dn from hlt); subst hqA; have hok := hon.out.dok _ (List.mem_of_getElem? hdx0); obtain ⟨rc, rfl⟩ := Int.eq_ofNat_of_zero_le hok.rec_.1; have hdx := lh hdx0; have hcA : Hid (∀ j x, ([.int .i64 pg, .int .u64 (rc : Int)] : List Value)[j]? = some x → wr.cell? ((A.add (k * 2)).add j) = some x) := fun j x hj => cell_keeps hbW.out (Nat.le_refl _) (hcA0 j x hj)
         have hs : (Tryz.prog.info? 85).map (·.size) = some ([.int .i64 pg, .int .u64 (rc : Int)] : List Value).length := sizePg ⟨pg, rc⟩; obtain ⟨we, hwe⟩ : ∃ x, wr.alloc (.cells #[.int .i64 pg, .int .u64 (rc : Int)] 85) = x := ⟨_, rfl⟩; have hbk := lh (one_box hwe); have hbr : Hid (RowV 85 we wr.heap.size [.int .i64 pg, .int .u64 (rc : Int)]) := by show RowV _ _ _ _; rw [← hwe]; exact RowV.made wr _
         have hOe := lh (hOm.out.below hbk.out.1); have hwpg : IntKind.u8.wrap pg = pg % 256 := rfl; have hbd8 : Hid (Lm.length ≤ 4000) := hLmb; clear hok hdx0 hcA0
         go_wp2_with (first
          | (with_reducible refine wpList_load_at rfl 85 (.tmp 166) rfl Tryz.underlying85 rfl hs rfl hcA.out ?_))
         try rw [hwe]
         clear hwe; have hSe : Hid (BoxS 85 W wr.heap.size [.int .i64 pg, .int .u64 (rc : Int)] we) := ⟨hOe.out.1, hbr.out⟩; refine wp_region_held (S := BoxS 85 W (wr.heap.size) [.int .i64 pg, .int .u64 (rc : Int)]) (by kernel_rfl) ?_; change wpAnyH _ _ _ _ _ _ _ _ (World.drew we); have hS0 : BoxS 85 W (wr.heap.size) [.int .i64 pg, .int .u64 (rc : Int)] we.drew := ⟨below_step (below_drew we) hSe.out.1, hSe.out.2.below (below_drew we)⟩; have hO0 := hOe.out.below (below_drew we); refine tg 0 168 (.slice q0 Lm.length c0) hS0 ?_; go_frame; refine tg 1 169 (.pointer (some ⟨wr.heap.size, 0, none⟩)) hS0 ?_; go_frame; refine held_tk (i := 2) (dst := some 170) (v := .int .i64 pg) rfl rfl (.inl ⟨rfl, fun u hu => by have c9 : u.cell? ⟨wr.heap.size, 0, none⟩ = some (.int .i64 pg) := hu.2.cell 0; go_simp⟩) hS0 ?_; go_frame; refine tg 3 171 (.int .u8 (pg % 256)) hS0 ?_; go_frame; refine tg 6 174 (.pointer (some ⟨wr.heap.size, 1, none⟩)) hS0 ?_; go_frame
         refine held_tk (i := 7) (dst := some 175) (v := .int .u64 (rc : Int)) rfl rfl (.inl ⟨rfl, fun u hu => by have c9 : u.cell? ⟨wr.heap.size, 1, none⟩ = some (.int .u64 (rc : Int)) := hu.2.cell 1; go_simp⟩) hS0 ?_; go_frame
         refine chain0 (fuel := 1) (keepS_box (by decide) W (wr.heap.size) [.int .i64 pg, .int .u64 (rc : Int)]) [(171, .int .u8 (pg % 256)), (175, .int .u64 (rc : Int))] [⟨4, 172, 5, 173, be 1 (u64 pg)⟩, ⟨8, 176, 9, 177, be 8 rc⟩] 168 (L := Lm) ?_ hS0 hO0.2 (by simp only [lenM, length_be]; have := hbd8.out; omega)
          ⟨⟨_, rfl, rfl, fun _ => rfl, fun a u he hS => mk_lit8 rfl he.1⟩, ⟨_, rfl, rfl, fun _ => rfl, rfl⟩, ⟨_, rfl, rfl, fun _ => rfl, fun a u he hS => mk_call rfl he.2.1 rfl (by decide)⟩, ⟨_, rfl, rfl, fun _ => rfl, rfl⟩, trivial⟩ rfl ⟨rfl, rfl, trivial⟩ (by kernel_rfl)
         intro x0 y0 x1 y1 u8 q8 c8 hS hy ho; subst hy
         dsimp only
         obtain ⟨L8, hL8⟩ : ∃ l, Lm ++ be 1 (u64 pg) ++ be 8 rc = l := ⟨_, rfl⟩; rw [hL8] at ho; rw [hL8]; have hO8 : Hid (Out W u8 q8 c8 L8) := ⟨hS.1, ho⟩; have hS8 := lh hS; have hL8 := lh hL8; refine tg 10 3 (.slice q8 L8.length c8) hS ?_; go_frame; refine wpAnyH_done (by kernel_rfl) ?_ _; clear hS0 hO0 hS ho; go_wp2
         go_roundw
         case rel => refine ⟨k + 1, q8, c8, L8, by omega, by go_num, rfl, ?_, hO8⟩; show _ = _; rw [← hL8.out, hLm.out, encL_step hdx.out, encPg]; simp only [List.append_assoc, Int.toNat_natCast]
         case measure => simp [RowKit.intOf]; omega
       · obtain rfl : dn = k := by omega
         have hfin : Hid (encRec r = Lm) := by show _ = _; rw [hal.out, hLm.out, ← hL7.out, hLt.out, List.take_of_length_le (by rw [hcd.out]; exact Nat.le_refl _)]; simp only [List.append_assoc]
         go_wp2; go_ret; exact hOm.out.done hbx.out.1 hfin.out
end Go.Proofs.YtocekhckmpkbmaaGreat
