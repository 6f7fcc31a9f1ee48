/- Parts of the proof: cloned and Redoes of record; The document's own functions on keys and rows: table, order, RightRow, key -/
import Derived.Test.YtocekhckmpkbmaaGreatQ26
import Derived.Test.YtocekhckmpkbmaaGreatQ09
namespace Go.Proofs.YtocekhckmpkbmaaGreat
open Go.RowKit
set_option maxRecDepth 100000 in
set_option maxHeartbeats 1000000 in
theorem cloneK_any (q : Option Addr) (n c : Nat) (l : List KidD) (w : World) (hr : KidsOn w q n c l) (hn : n ≤ 1000000) :
 Calls Tryz.prog 82 #[.slice q n c] w (fun e w' => ∃ q' c', e = .returned (.slice q' n c') ∧ OwnK w' w.heap.size (.slice q' n c') l ∧ Below w.heap.size w w') := by
 cases q with
 | none =>
   have h0 := hr.nil rfl
   have h1 := hr.le
   have h2 := hr.len
   obtain rfl : n = 0 := by omega
   obtain rfl := List.eq_nil_of_length_eq_zero h2
   subst h0
   clear h1 hr
   have heq : ∀ u, (binOp .eql 53 (.slice none 0 0) (.slice none 0 0)).run Tryz.prog u = .ok (.bool true) u := fun u => Lib.run_eql_slice_nil u _ _ _ _ _ _ _ Tryz.underlying53
   go_enter Tryz.func82, Tryz.ntmps82
   go_wp2
   go_ret
   exact ⟨none, 0, rfl, OwnK.nil _ _, Below.refl _ _⟩
 | some ad =>
   have hrr := Lib.hid hr
   have hl := Lib.hid hr.len
   clear hr
   have heq : ∀ u, (binOp .eql 53 (.slice (some ad) n c) (.slice none 0 0)).run Tryz.prog u = .ok (.bool false) u := fun u => Lib.run_eql_slice_nil u _ _ _ _ _ _ _ Tryz.underlying53
   have ho : Hid (OwnK (w.alloc (.cells #[] 100)) w.heap.size (.slice (some ⟨w.heap.size, 0, none⟩) 0 0) []) := World.ownsRow_made w #[] 0 (Nat.le_refl _) (Nat.zero_le _) rfl
   go_enter Tryz.func82, Tryz.ntmps82
   go_wp2_with (first
    | (at_builtin
       refine wpList_append_k Tryz.underlying53 infoKid rfl rfl (.tmp 5) (.tmp 6) rfl rfl rfl ho.out (hrr.out.below ((Below.refl _ _).alloc (Nat.le_refl _) _) (Nat.le_refl _)) (by omega) (by omega) (by simp) ?_
       intro q' c' w' h1 h2 h3
       have hh := Lib.hid h1
       have hg := Lib.hid h2
       clear h1 h2 h3))
   go_ret
   refine ⟨q', c', rfl, by have := hh.out; rwa [Nat.zero_add] at this, ((Below.refl w.heap.size w).alloc (Nat.le_refl _) _).trans (grown_belowN hg.out (by simp) (fun k hk => by cases hk; exact Nat.le_refl _))⟩
theorem good_len {c : ContD} (h : GoodC c) : c.rows.length ≤ 4 ∧ c.kids.length ≤ 4 := by
 rcases h with ⟨_, h1, h2⟩ | ⟨_, h1, h2⟩ | ⟨_, h1, h2⟩
 · rw [h1, h2]; exact ⟨by decide, by decide⟩
 · rw [h2]; exact ⟨h1.len, by decide⟩
 · rw [h2]; exact ⟨by decide, h1.len⟩
theorem may_imgs {r : RecD} (hm : mayB r = true) : ImagesOk r.images := by
 obtain ⟨_, _, h3, h4⟩ := may_parts hm
 by_cases h2 : r.kind = 2
 · rw [kindB2 h2] at h4
   simp only [Bool.and_eq_true] at h4
   exact (pB_iff _).1 h4.2.2
 by_cases h5 : r.kind = 5
 · rw [kindB5 h5] at h4
   simp only [Bool.and_eq_true] at h4
   exact (pB_iff _).1 h4.2.2.1
 have hn : r.images = [] := by
  have e : (othersD r).images = r.images := by
   unfold othersD
   rw [if_neg h2]
   by_cases k3 : r.kind = 3
   · rw [if_pos k3]
   rw [if_neg k3]
   by_cases k4 : r.kind = 4
   · rw [if_pos k4]
   rw [if_neg k4, if_neg h5]
   by_cases k9 : r.kind = 9
   · rw [if_pos k9]
   · rw [if_neg k9]
  rw [← e, h3]
  rfl
 rw [hn]
 exact ⟨⟨by decide, rfl⟩, fun d hd => by cases hd⟩
def ClnP (c : ContD) (w : World) (e : Ending) (w' : World) : Prop := ∃ k rq rn rc kq kn kc, e = .returned (.agg #[.int .i64 k, .slice rq rn rc, .slice kq kn kc]) ∧ ContOn w' k rq rn rc kq kn kc c ∧ Far w.heap.size rq ∧ Far w.heap.size kq ∧ Below w.heap.size w w'
set_option maxRecDepth 100000 in
set_option maxHeartbeats 4000000 in
theorem cloned_any (k : Int) (rq : Option Addr) (rn rc : Nat) (kq : Option Addr) (kn kc : Nat) (c : ContD) (w : World) (h : ContOn w k rq rn rc kq kn kc c) (hr : rn ≤ 1000000) (hk : kn ≤ 1000000) :
 Calls Tryz.prog 54 #[.agg #[.int .i64 k, .slice rq rn rc, .slice kq kn kc]] w (ClnP c w) := by
 obtain ⟨W, hW⟩ : ∃ W, (w.alloc (.cells #[.int .i64 k, .slice rq rn rc, .slice kq kn kc] 55)).alloc (.cells #[.int .i64 0, .slice none 0 0, .slice none 0 0] 55) = W := ⟨_, rfl⟩
 have hbx := Lib.hid (two_boxes (xs := [.int .i64 k, .slice rq rn rc, .slice kq kn kc]) (ys := [.int .i64 0, .slice none 0 0, .slice none 0 0]) hW)
 have p0 : Hid (RowV 55 W (w.heap.size + 1) [.int .i64 0, .slice none 0 0, .slice none 0 0]) := by
  have h1 := RowV.made (T := 55) (w.alloc (.cells #[.int .i64 k, .slice rq rn rc, .slice kq kn kc] 55)) [.int .i64 0, .slice none 0 0, .slice none 0 0]
  show RowV _ _ _ _
  rw [← hW]; simpa using h1
 have hon := Lib.hid (h.below hbx.out.1 (Nat.le_refl _))
 have hokr := Lib.hid h.rows.ok
 have hokk := Lib.hid h.kids.ok
 have hkk : Hid (k = c.kind) := h.kind
 have hsz : Hid (w.heap.size + 2 ≤ W.heap.size) := by have h1 := p0.out.lt; show _ ≤ _; omega
 clear h
 go_enter Tryz.func54, Tryz.ntmps54
 go_wp2_with fail
 refine wp_region_held (S := fun u => Boxed u w.heap.size [.int .i64 k, .slice rq rn rc, .slice kq kn kc]) (by kernel_rfl) ?_
 try rw [hW]
 change wpAnyH _ _ _ _ _ _ _ _ (World.drew W)
 have hdr := below_drew W
 have hS : Boxed (World.drew W) w.heap.size [.int .i64 k, .slice rq rn rc, .slice kq kn kc] := hbx.out.2.1.below hdr (Nat.le_refl _)
 have hon0 := hon.out.below hdr (Nat.le_refl _)
 have pr0 := p0.out.below hdr
 have hd0 := hbx.out.1.trans (hdr.mono hbx.out.1.size)
 have hz0 := Nat.le_trans hsz.out hdr.size
 clear hW hdr
 generalize World.drew W = u0 at hS hon0 pr0 hd0 hz0 ⊢
 refine tg 0 3 (.pointer (some ⟨w.heap.size, 0, none⟩)) hS ?_; go_frame
 refine held_tk (i := 1) (dst := some 4) (v := .int .i64 k) rfl rfl (.inl ⟨rfl, fun u hu => by have c0 := hu.cell 0 rfl; go_simp⟩) hS ?_; go_frame
 refine tg 2 5 (.pointer (some ⟨w.heap.size, 1, none⟩)) hS ?_; go_frame
 refine held_tk (i := 3) (dst := some 6) (v := .slice rq rn rc) rfl rfl (.inl ⟨rfl, fun u hu => by have c0 := hu.cell 1 rfl; go_simp⟩) hS ?_; go_frame
 refine tg 5 8 (.pointer (some ⟨w.heap.size, 2, none⟩)) hS ?_; go_frame
 refine held_tk (i := 6) (dst := some 9) (v := .slice kq kn kc) rfl rfl (.inl ⟨rfl, fun u hu => by have c0 := hu.cell 2 rfl; go_simp⟩) hS ?_; go_frame
 refine held_call (i := 4) (dst := some 7) rfl rfl (by kernel_rfl) rfl (by go_simp) (clone_any rq rn rc c.rows u0 hon0.rows hr) ?_
 rintro e u4 ⟨q1, c1, rfl, ho1, hb4⟩
 have hS4 := hS.below hb4 (by omega)
 refine ⟨_, rfl, hS4, ?_⟩; go_frame
 refine held_call (i := 7) (dst := some 10) rfl rfl (by kernel_rfl) rfl (by go_simp) (cloneK_any kq kn kc c.kids u4 (hon0.kids.below hb4 (Nat.le_refl _)) hk) ?_
 rintro e u7 ⟨q2, c2, rfl, ho2, hb7⟩
 have hs4 := hb4.size
 have hS7 := hS4.below hb7 (by omega)
 refine ⟨_, rfl, hS7, ?_⟩; go_frame
 have ho1' := ho1.below hb7
 have pr7 := (pr0.below hb4).below hb7
 have hd7 := below_step hb7 (below_step hb4 hd0)
 refine held_value (i := 8) (dst := some 11) (v := .agg #[.int .i64 k, .slice q1 rn c1, .slice q2 kn c2]) (w' := u7) rfl rfl (by kernel_rfl) rfl (by go_simp) hS7 ?_; go_frame
 obtain ⟨u9, st9, rr9, gr9⟩ := run_storeVar_at (o := 0) (vs := [.int .i64 k, .slice q1 rn c1, .slice q2 kn c2]) pr7 (sizeCont (.int .i64 k) (.slice q1 rn c1) (.slice q2 kn c2)) (Nat.le_refl _) (one_all rfl)
 have r9 : RowV 55 u9 (w.heap.size + 1) [.int .i64 k, .slice q1 rn c1, .slice q2 kn c2] := rr9
 have hS9 := hS7.gr gr9 (by omega)
 refine held_skip (i := 9) (dst := none) rfl rfl (by kernel_rfl) rfl (run_store_op (x := .tmp 2) (y := .tmp 11) rfl rfl rfl st9) hS9 ?_; go_frame
 refine wpAnyH_done (by kernel_rfl) ?_ _
 have h1f : ∀ a, q1 = some a → u9.heap[a.block]? = u7.heap[a.block]? := fun a ha => gr9.block _ (ho1'.far a ha).2 (fun e => by have h1 := (ho1.far a ha).1; simp only [Option.some.injEq] at e; omega)
 have h2f : ∀ a, q2 = some a → u9.heap[a.block]? = u7.heap[a.block]? := fun a ha => gr9.block _ (ho2.far a ha).2 (fun e => by have h1 := (ho2.far a ha).1; simp only [Option.some.injEq] at e; omega)
 have hend : Hid (ContOn u9 k q1 rn c1 q2 kn c2 c) := ⟨hkk.out, (ho1'.kept h1f).reads hokr.out, (ho2.kept h2f).reads hokk.out⟩
 have hdE := Lib.hid (Gr.below gr9 hd7 (by omega))
 have hfar1 : Hid (Far w.heap.size q1) := fun a ha => by have := (ho1.far a ha).1; omega
 have hfar2 : Hid (Far w.heap.size q2) := fun a ha => by have := (ho2.far a ha).1; omega
 have y0 : u9.cell? ⟨w.heap.size + 1, 0, none⟩ = some (.int .i64 k) := r9.cell 0
 have y1 : u9.cell? ⟨w.heap.size + 1, 1, none⟩ = some (.slice q1 rn c1) := r9.cell 1
 have y2 : u9.cell? ⟨w.heap.size + 1, 2, none⟩ = some (.slice q2 kn c2) := r9.cell 2
 clear ho1 ho2 ho1' pr7 hd7 st9 rr9 gr9 hS9 hS7 hS4 hS h1f h2f hb4 hb7 pr0 hd0 hon0 r9
 go_wp2_with fail
 refine bodyPost_ret (v := .agg #[.int .i64 k, .slice q1 rn c1, .slice q2 kn c2]) (by simp [results, Tryz.results54, go_sem, y0, y1, y2]) rfl ?_
 exact ⟨k, q1, rn, c1, q2, kn, c2, rfl, hend.out, hfar1.out, hfar2.out, hdE.out⟩
/-- what Redoes answers -/
def RedP (r : RecD) (p : Int) (w : World) (e : Ending) (w' : World) : Prop := ∃ k rq rn rc kq kn kc ok, e = .returned (.tuple #[.agg #[.int .i64 k, .slice rq rn rc, .slice kq kn kc], .bool ok]) ∧ ((redD r p = none ∧ ok = false ∧ ContOn w' k rq rn rc kq kn kc zeroC) ∨ (∃ d, redD r p = some d ∧ ok = true ∧ ContOn w' k rq rn rc kq kn kc d.aft)) ∧ Below w.heap.size w w'
set_option maxRecDepth 100000 in
set_option maxHeartbeats 8000000 in
theorem redoes_any (v : RecV) (V : List ImgV) (r : RecD) (pg : Int) (w : World) (h : v.On w V r) :
 Calls Tryz.prog 26 #[v.val, .int .i64 pg] w (RedP r pg w) := by
 obtain ⟨kind, lsn, txn, prev, next, iq, im, ic, sq, sn, sc, nextTxn, tq, tn, tc, dq, dn, dc⟩ := v
 obtain ⟨W, hW⟩ : ∃ W, (w.alloc (.cells #[.int .i64 kind, .int .u64 lsn, .int .i64 txn, .int .u64 prev, .int .u64 next, .slice iq im ic, .slice sq sn sc, .int .i64 nextTxn, .slice tq tn tc, .slice dq dn dc] 30)).alloc (.cells #[.int .i64 0, .slice none 0 0, .slice none 0 0] 55) = W := ⟨_, rfl⟩
 have hbx := Lib.hid (two_boxes (xs := [.int .i64 kind, .int .u64 lsn, .int .i64 txn, .int .u64 prev, .int .u64 next, .slice iq im ic, .slice sq sn sc, .int .i64 nextTxn, .slice tq tn tc, .slice dq dn dc]) (ys := [.int .i64 0, .slice none 0 0, .slice none 0 0]) hW)
 have p0 : Hid (RowV 55 W (w.heap.size + 1) [.int .i64 0, .slice none 0 0, .slice none 0 0]) := by
  have h1 := RowV.made (T := 55) (w.alloc (.cells #[.int .i64 kind, .int .u64 lsn, .int .i64 txn, .int .u64 prev, .int .u64 next, .slice iq im ic, .slice sq sn sc, .int .i64 nextTxn, .slice tq tn tc, .slice dq dn dc] 30)) [.int .i64 0, .slice none 0 0, .slice none 0 0]
  show RowV _ _ _ _
  rw [← hW]; simpa using h1
 have hszv : (Tryz.prog.info? 30).map (·.size) = some ([.int .i64 kind, .int .u64 lsn, .int .i64 txn, .int .u64 prev, .int .u64 next, .slice iq im ic, .slice sq sn sc, .int .i64 nextTxn, .slice tq tn tc, .slice dq dn dc] : List Value).length := sizeRec ⟨kind, lsn, txn, prev, next, iq, im, ic, sq, sn, sc, nextTxn, tq, tn, tc, dq, dn, dc⟩
 have zcs : (Tryz.prog.info? 55).map (·.size) = some ([.int .i64 0, .slice none 0 0, .slice none 0 0] : List Value).length := sizeCont (.int .i64 0) (.slice none 0 0) (.slice none 0 0)
 have zcone : ∀ x ∈ ([.int .i64 0, .slice none 0 0, .slice none 0 0] : List Value), x.oneCell' = true := one_all rfl
 have hon := Lib.hid (h.below hbx.out.1 (Nat.le_refl _))
 have hLl : Hid (r.images.length = im) := by have h1 := h.images.len; have h2 := h.images.on.len; show _ = im; simp only at h2; omega
 have hmax : im ≤ maxLen := Nat.le_trans h.images.on.le h.images.on.cap
 unfold maxLen at hmax
 have hsz : Hid (w.heap.size + 2 ≤ W.heap.size) := by have h1 := p0.out.lt; show _ ≤ _; omega
 have hmb := mayBe_any ⟨kind, lsn, txn, prev, next, iq, im, ic, sq, sn, sc, nextTxn, tq, tn, tc, dq, dn, dc⟩ V r W hon.out
 obtain ⟨B, hB⟩ : ∃ B, mayB r = B := ⟨_, rfl⟩
 rw [hB] at hmb
 have hmb := Lib.hid hmb
 have hB := Lib.hid hB
 clear h
 show Calls _ _ #[.agg #[.int .i64 kind, .int .u64 lsn, .int .i64 txn, .int .u64 prev, .int .u64 next, .slice iq im ic, .slice sq sn sc, .int .i64 nextTxn, .slice tq tn tc, .slice dq dn dc], .int .i64 pg] _ _
 go_enter Tryz.func26, Tryz.ntmps26
 go_wp2_with (first
  | (with_reducible refine wpList_load_at rfl 30 (.tmp 2) rfl Tryz.underlying30 rfl hszv rfl hbx.out.2.1.all ?_))
 clear hW
 refine hmb.out.mono ?_
 clear hmb
 rintro e w1 ⟨rfl, hb1⟩
 have p1 := Lib.hid (p0.out.below hb1)
 have hd1 := Lib.hid (hbx.out.1.trans (hb1.mono hbx.out.1.size))
 have hx1 := Lib.hid (hbx.out.2.1.below hb1 (Nat.le_refl _))
 have hon1 := Lib.hid (hon.out.below hb1 (Nat.le_refl _))
 have hs1 : Hid (w.heap.size + 2 ≤ w1.heap.size) := Nat.le_trans hsz.out hb1.size
 clear hb1
 cases B with
 | false =>
   go_wp2_with (first
    | ((with_reducible refine wpList_store_at rfl 55 (.tmp 4) (.tmp 11) rfl (o := 0) (vs := [.int .i64 0, .slice none 0 0, .slice none 0 0]) rfl rfl p1.out zcs (Nat.le_refl _) zcone ?_)
       intro wz h9 hg9
       have rz : Hid (RowV 55 wz (w.heap.size + 1) [.int .i64 0, .slice none 0 0, .slice none 0 0]) := h9
       have gz := Lib.hid hg9
       clear h9 hg9))
   have y0 : wz.cell? ⟨w.heap.size + 1, 0, none⟩ = some (.int .i64 0) := rz.out.cell 0
   have y1 : wz.cell? ⟨w.heap.size + 1, 1, none⟩ = some (.slice none 0 0) := rz.out.cell 1
   have y2 : wz.cell? ⟨w.heap.size + 1, 2, none⟩ = some (.slice none 0 0) := rz.out.cell 2
   refine bodyPost_ret (v := .tuple #[.agg #[.int .i64 0, .slice none 0 0, .slice none 0 0], .bool false]) (by simp [results, Tryz.results26, go_sem, y0, y1, y2]) rfl ?_
   exact ⟨0, none, 0, 0, none, 0, 0, false, rfl, .inl ⟨(by unfold redD; rw [hB.out]; rfl), rfl, ⟨rfl, RowsOn.none_ _, KidsOn.none_ _⟩⟩, Gr.below gz.out hd1.out (by omega)⟩
 | true =>
   have hig := Lib.hid (may_imgs hB.out)
   have z5 : w1.cell? ⟨w.heap.size, 5, none⟩ = some (.slice iq im ic) := hx1.out.cell 5 rfl
   go_wp2_with fail
   clear z5
   have h0 : Hid (findI r.images pg = findI (r.images.drop 0) pg ∧ Below w1.heap.size w1 w1) := ⟨rfl, Below.refl _ _⟩
   go_loopw [15] (fun v wr => ∃ j : Nat, j ≤ im ∧ v = .int .i64 j ∧ Hid (findI r.images pg = findI (r.images.drop j) pg ∧ Below w1.heap.size w1 wr)) (fun v _ => im - (RowKit.intOf v).toNat)
   case atStart => exact ⟨0, Nat.zero_le _, rfl, h0⟩
   case round =>
    obtain ⟨j, hj, rfl, hst⟩ := hrel
    clear h0
    by_cases hlt : j < im
    · obtain ⟨A, ⟨p, ⟨k1, q1, n1, c1, q2, n2, c2⟩, ⟨k3, q3, n3, c3, q4, n4, c4⟩⟩, d, hqA, hx, hdx, hond, hcA⟩ := (hon1.out.images.below hst.out.2 (Nat.le_refl _)).at (show j < im from hlt)
      subst hqA
      have hcA : Hid (∀ j' x, ([.int .i64 p, .int .i64 k1, .slice q1 n1 c1, .slice q2 n2 c2, .int .i64 k3, .slice q3 n3 c3, .slice q4 n4 c4] : List Value)[j']? = some x → wr.cell? ((A.add (j * 7)).add j') = some x) := hcA
      have hs : (Tryz.prog.info? 62).map (·.size) = some ([.int .i64 p, .int .i64 k1, .slice q1 n1 c1, .slice q2 n2 c2, .int .i64 k3, .slice q3 n3 c3, .slice q4 n4 c4] : List Value).length := sizeImg ⟨p, ⟨k1, q1, n1, c1, q2, n2, c2⟩, ⟨k3, q3, n3, c3, q4, n4, c4⟩⟩
      have hdx := Lib.hid hdx
      have hond := Lib.hid hond
      have i0 : (0 : Int) ≤ j := by omega
      have i1 : (j : Int) < im := by omega
      clear hx
      obtain ⟨we, hwe⟩ : ∃ x, wr.alloc (.cells #[.int .i64 p, .int .i64 k1, .slice q1 n1 c1, .slice q2 n2 c2, .int .i64 k3, .slice q3 n3 c3, .slice q4 n4 c4] 62) = x := ⟨_, rfl⟩
      have hbk := Lib.hid (one_box (xs := [.int .i64 p, .int .i64 k1, .slice q1 n1 c1, .slice q2 n2 c2, .int .i64 k3, .slice q3 n3 c3, .slice q4 n4 c4]) hwe)
      have d0 : we.cell? ⟨wr.heap.size, 0, none⟩ = some (.int .i64 p) := hbk.out.2.1.cell 0 rfl
      have hd2 := Lib.hid (below_step hbk.out.1 hst.out.2)
      by_cases hpg : p = pg
      · subst hpg
        have hfd : Hid (redD r p = some d) := by
         show _ = _
         unfold redD
         rw [if_pos hB.out, hst.out.1, findI_at hdx.out, if_pos hond.out.page.symm]
        have hgd := good_len (hig.out.2 d (List.mem_of_getElem? hdx.out)).2
        have hona := hond.out.aft.below hbk.out.1 (Nat.le_refl _)
        have hrl := hona.rl
        have hkl := hona.kl
        simp only at hrl hkl
        have hcl := Lib.hid (cloned_any k3 q3 n3 c3 q4 n4 c4 d.aft we hona (by omega) (by omega))
        have f4 := Lib.hid (Boxed.part hbk.out.2.1 (o := 4) (ys := [.int .i64 k3, .slice q3 n3 c3, .slice q4 n4 c4]) (fun j' x hj => by
         match j', hj with
         | 0, hj => exact hj
         | 1, hj => exact hj
         | 2, hj => exact hj
         | j' + 3, hj => simp at hj))
        have z1 := sizeCont (.int .i64 k3) (.slice q3 n3 c3) (.slice q4 n4 c4)
        clear hgd hona hrl hkl
        go_wp2_with (first
         | (with_reducible refine wpList_load_at rfl 62 (.tmp 17) rfl Tryz.underlying62 rfl hs rfl hcA.out ?_)
         | (with_reducible refine wpList_load_at rfl 55 (.tmp 23) rfl Tryz.underlying55 rfl z1 rfl f4.out ?_))
        clear hwe
        refine hcl.out.mono ?_
        clear hcl
        rintro e w3 ⟨k5, q5, n5, c5, q6, n6, c6, rfl, hon5, hfa, hfb, hb3⟩
        have p3 := Lib.hid ((p1.out.below hd2.out).below hb3)
        have hd3 := Lib.hid (hd1.out.trans ((below_step hb3 hd2.out).mono hd1.out.size))
        have hon5 := Lib.hid hon5
        have hfa := Lib.hid hfa
        have hfb := Lib.hid hfb
        have hs5 := sizeCont (.int .i64 k5) (.slice q5 n5 c5) (.slice q6 n6 c6)
        have ho5 : ∀ x ∈ ([.int .i64 k5, .slice q5 n5 c5, .slice q6 n6 c6] : List Value), x.oneCell' = true := one_all rfl
        clear hb3
        go_wp2_with (first
         | ((with_reducible refine wpList_store_at rfl 55 (.tmp 4) (.tmp 25) rfl (o := 0) (vs := [.int .i64 k5, .slice q5 n5 c5, .slice q6 n6 c6]) rfl rfl p3.out hs5 (Nat.le_refl _) ho5 ?_)
            intro wz h9 hg9
            have rz : Hid (RowV 55 wz (w.heap.size + 1) [.int .i64 k5, .slice q5 n5 c5, .slice q6 n6 c6]) := h9
            have gz := Lib.hid hg9
            clear h9 hg9))
        have y0 : wz.cell? ⟨w.heap.size + 1, 0, none⟩ = some (.int .i64 k5) := rz.out.cell 0
        have y1 : wz.cell? ⟨w.heap.size + 1, 1, none⟩ = some (.slice q5 n5 c5) := rz.out.cell 1
        have y2 : wz.cell? ⟨w.heap.size + 1, 2, none⟩ = some (.slice q6 n6 c6) := rz.out.cell 2
        refine bodyPost_ret (v := .tuple #[.agg #[.int .i64 k5, .slice q5 n5 c5, .slice q6 n6 c6], .bool true]) (by simp [results, Tryz.results26, go_sem, y0, y1, y2]) rfl ?_
        exact ⟨k5, q5, n5, c5, q6, n6, c6, true, rfl, .inr ⟨d, hfd.out, rfl, hon5.out.gr gz.out (fun a ha => by have h1 := hfa.out a ha; have h2 := hs1.out; have h3 := hd2.out.size; omega) (fun a ha => by have h1 := hfb.out a ha; have h2 := hs1.out; have h3 := hd2.out.size; omega)⟩, Gr.below gz.out hd3.out (by omega)⟩
      · have hq : (p == pg) = false := by simpa using hpg
        replace hpg := Lib.hid hpg
        have hnew : Hid (findI r.images pg = findI (r.images.drop (j + 1)) pg ∧ Below w1.heap.size w1 we) := ⟨by rw [hst.out.1, findI_at hdx.out, if_neg (by rw [← hond.out.page]; exact hpg.out)], hd2.out⟩
        go_wp2_with (first
         | (with_reducible refine wpList_load_at rfl 62 (.tmp 17) rfl Tryz.underlying62 rfl hs rfl hcA.out ?_))
        clear hwe
        go_roundw
        case rel => exact ⟨j + 1, by omega, by go_num, hnew⟩
        case measure => simp [RowKit.intOf]; omega
    · obtain rfl : im = j := by omega
      have pE := Lib.hid (p1.out.below hst.out.2)
      have hdE := Lib.hid (hd1.out.trans (hst.out.2.mono hd1.out.size))
      have hno : Hid (redD r pg = none) := by
       show _ = _
       unfold redD
       rw [if_pos hB.out, hst.out.1, ← hLl.out, findI_end]
      go_wp2_with (first
       | ((with_reducible refine wpList_store_at rfl 55 (.tmp 4) (.tmp 27) rfl (o := 0) (vs := [.int .i64 0, .slice none 0 0, .slice none 0 0]) rfl rfl pE.out zcs (Nat.le_refl _) zcone ?_)
          intro wz h9 hg9
          have rz : Hid (RowV 55 wz (w.heap.size + 1) [.int .i64 0, .slice none 0 0, .slice none 0 0]) := h9
          have gz := Lib.hid hg9
          clear h9 hg9))
      have y0 : wz.cell? ⟨w.heap.size + 1, 0, none⟩ = some (.int .i64 0) := rz.out.cell 0
      have y1 : wz.cell? ⟨w.heap.size + 1, 1, none⟩ = some (.slice none 0 0) := rz.out.cell 1
      have y2 : wz.cell? ⟨w.heap.size + 1, 2, none⟩ = some (.slice none 0 0) := rz.out.cell 2
      refine bodyPost_ret (v := .tuple #[.agg #[.int .i64 0, .slice none 0 0, .slice none 0 0], .bool false]) (by simp [results, Tryz.results26, go_sem, y0, y1, y2]) rfl ?_
      exact ⟨0, none, 0, 0, none, 0, 0, false, rfl, .inl ⟨hno.out, rfl, ⟨rfl, RowsOn.none_ _, KidsOn.none_ _⟩⟩, Gr.below gz.out hdE.out (by omega)⟩
end Go.Proofs.YtocekhckmpkbmaaGreat
namespace Go.Proofs.YtocekhckmpkbmaaGreat
open Go.RowKit
theorem table_any (n : Int) (w : World) : Calls Tryz.prog 109 #[.int .i64 n] w (fun e w' => e = .returned (.bool (tabB n)) ∧ w = w') := by
 by_cases h0 : 0 ≤ n
 · have d0 : decide (0 ≤ n) = true := decide_eq_true h0
   by_cases h3 : n < 3
   · have d1 : decide (n < 3) = true := decide_eq_true h3
     have e : tabB n = true := by unfold tabB; rw [d0, d1]; rfl
     rw [e]
     clear e h0 h3
     go_enter Tryz.func109, Tryz.ntmps109
     go_wp2
     go_ret
     exact ⟨rfl, rfl⟩
   · have d1 : decide (n < 3) = false := decide_eq_false h3
     have e : tabB n = false := by unfold tabB; rw [d0, d1]; rfl
     rw [e]
     clear e h0 h3
     go_enter Tryz.func109, Tryz.ntmps109
     go_wp2
     go_ret
     exact ⟨rfl, rfl⟩
 · have d0 : decide (0 ≤ n) = false := decide_eq_false h0
   have e : tabB n = false := by unfold tabB; rw [d0]; rfl
   rw [e]
   clear e h0
   go_enter Tryz.func109, Tryz.ntmps109
   go_wp2
   go_ret
   exact ⟨rfl, rfl⟩
def ordK (k : KeyD) : Int := k.t * 65536 + k.id
theorem order_any (t id : Int) (w : World) (h0 : 0 ≤ t) (h3 : t < 3) (i0 : 0 ≤ id) (i1 : id < 65536) :
 Calls Tryz.prog 111 #[.agg #[.int .i64 t, .int .u16 id]] w (fun e w' => e = .returned (.int .i64 (ordK ⟨t, id⟩)) ∧ Below w.heap.size w w') := by
 obtain ⟨W, hW⟩ : ∃ W, w.alloc (.cells #[.int .i64 t, .int .u16 id] 66) = W := ⟨_, rfl⟩
 have hbx := Lib.hid (one_box (xs := [.int .i64 t, .int .u16 id]) hW)
 have c0 := hbx.out.2.1.cell 0 rfl
 have c1 := hbx.out.2.1.cell 1 rfl
 go_enter Tryz.func111, Tryz.ntmps111
 go_wp2
 clear hW
 go_ret
 exact ⟨rfl, hbx.out.1⟩
def okRow (r : RowD) : Bool := tabB r.key.t && decide (r.note.size ≤ 8)
theorem okRow_iff {r : RowD} : okRow r = true ↔ chkRowC r = 0 := by
 unfold okRow chkRowC
 rw [Bool.and_eq_true, decide_eq_true_eq]
 constructor
 · intro h; rw [if_pos h]
 · intro h
   by_cases hh : tabB r.key.t = true ∧ r.note.size ≤ 8
   · exact hh
   · rw [if_neg hh] at h; cases h
theorem rightRow_any (t id v : Int) (s : ByteArray) (w : World) :
 Calls Tryz.prog 86 #[.agg #[.int .i64 t, .int .u16 id, .int .i64 v, .string s]] w (fun e w' => e = .returned (.bool (okRow ⟨⟨t, id⟩, v, s⟩)) ∧ Below w.heap.size w w') := by
 obtain ⟨W, hW⟩ : ∃ W, w.alloc (.cells #[.int .i64 t, .int .u16 id, .int .i64 v, .string s] 68) = W := ⟨_, rfl⟩
 have hbx := Lib.hid (one_box (xs := [.int .i64 t, .int .u16 id, .int .i64 v, .string s]) hW)
 have c0 := hbx.out.2.1.cell 0 rfl
 have c2 := hbx.out.2.1.cell 3 rfl
 have htb := Lib.hid (fun u => table_any t u)
 obtain ⟨b, hb⟩ : ∃ b, tabB t = b := ⟨_, rfl⟩
 rw [hb] at htb
 have e : okRow ⟨⟨t, id⟩, v, s⟩ = (b && decide (s.size ≤ 8)) := by unfold okRow; rw [hb]
 rw [e]
 clear e hb
 cases b with
 | true =>
   by_cases h8 : s.size ≤ 8
   · have d : decide (s.size ≤ 8) = true := decide_eq_true h8
     have d2 : decide ((s.size : Int) ≤ 8) = true := decide_eq_true (by omega)
     rw [d]
     go_enter Tryz.func86, Tryz.ntmps86
     go_wp2_with fail
     clear hW
     refine (htb.out _).mono ?_
     rintro e w1 ⟨rfl, rfl⟩
     go_wp2
     go_ret
     exact ⟨rfl, hbx.out.1⟩
   · have d : decide (s.size ≤ 8) = false := decide_eq_false h8
     have d2 : decide ((s.size : Int) ≤ 8) = false := decide_eq_false (by omega)
     rw [d]
     go_enter Tryz.func86, Tryz.ntmps86
     go_wp2_with fail
     clear hW
     refine (htb.out _).mono ?_
     rintro e w1 ⟨rfl, rfl⟩
     go_wp2
     go_ret
     exact ⟨rfl, hbx.out.1⟩
 | false =>
   go_enter Tryz.func86, Tryz.ntmps86
   go_wp2_with fail
   clear hW
   refine (htb.out _).mono ?_
   rintro e w1 ⟨rfl, rfl⟩
   go_wp2
   go_ret
   exact ⟨rfl, hbx.out.1⟩
def RowRel (W wr : World) (k : KeyD) (u j : Nat) (q : Option Addr) (c : Nat) : Prop := Below W.heap.size W wr ∧ Own wr W.heap.size (.slice q (3 + j) c) (encKey k ++ be j (u / 256 ^ (8 - j)))
theorem RowRel.next {W wr w1 w2 : World} {k : KeyD} {u j : Nat} {q q' : Option Addr} {c c' x : Nat} (h : RowRel W wr k u j q c) (hj : j < 8) (hx : x = u / 256 ^ (7 - j)) (hb : Below wr.heap.size wr w1)
 (ho : Own w2 W.heap.size (.slice q' (3 + j + 1) c') ((encKey k ++ be j (u / 256 ^ (8 - j))) ++ [UInt8.ofNat x])) (hg : w1.grownBy w2 (blockOf q)) : RowRel W w2 k u (j + 1) q' c' := by
 subst hx
 refine ⟨(h.2.below hb).up hg (below_step hb h.1) (Nat.le_refl _), ?_⟩
 have e : u / 256 ^ (8 - j) = u / 256 ^ (7 - j) / 256 := by
  rw [Nat.div_div_eq_div_mul, show 8 - j = (7 - j) + 1 by omega, Nat.pow_succ]
 rw [e, List.append_assoc] at ho
 rw [show 8 - (j + 1) = 7 - j by omega]
 exact ho
end Go.Proofs.YtocekhckmpkbmaaGreat
