/- insert, commit, abort, remove and move of ideal. -/
import Derived.Test.YtkdkncbccofpdaaQ12
namespace Go.Proofs.Ytkdkncbccofpdaa
open Go.RowKit
set_option maxRecDepth 100000
def insW (x : SerD) (k : KeyD) (v : Int) (s : ByteArray) : SerD × AnsD :=
 if chkRow x.bs ⟨k, v, s⟩ = 0 then (if findB x.rows k = true then (x, errA 5) else layW x (putE x.bs x.rows ⟨k, v, s⟩, putR x.bs x.rows ⟨k, v, s⟩)) else (x, errA (chkRow x.bs ⟨k, v, s⟩))
set_option maxHeartbeats 4000000 in
theorem ins_any (g : Nat) (tq : Option Addr) (tn tc : Nat) (rq : Option Addr) (rn rc : Nat) (bq : Option Addr) (bn bc : Nat) (mq : Option Addr) (mn mc : Nat) (o : Bool) (qk kt ki tt ti qv : Int) (qs : ByteArray) (qn : Int) (x : SerD) (w : World) (hg : RowV 94 w g [.slice tq tn tc, .slice rq rn rc, .slice bq bn bc, .slice mq mn mc, .bool o, .int .i64 qk, .int .i64 kt, .int .u16 ki, .int .i64 tt, .int .u16 ti, .int .i64 qv, .string qs, .int .i64 qn]) (hx : (⟨tq, tn, tc, rq, rn, rc, bq, bn, bc, mq, mn, mc, o⟩ : SV).Own w x) (hf : Few x) (hq : ReqOk ⟨qk, ⟨kt, ki⟩, ⟨tt, ti⟩, qv, qs, qn⟩) :
 Calls Try.prog 72 #[.pointer (some ⟨g, 0, none⟩)] w (WkPost g ⟨qk, ⟨kt, ki⟩, ⟨tt, ti⟩, qv, qs, qn⟩ (insW x ⟨kt, ki⟩ qv qs) w) := by
 obtain ⟨W, hW⟩ : ∃ W, w.alloc (.cells #[.int .i64 0, .slice none 0 0, .int .i64 0] 35) = W := ⟨_, rfl⟩
 have hbx := Lib.hid (one_rowI (xs := [.int .i64 0, .slice none 0 0, .int .i64 0]) hW)
 have hlt := hg.lt
 have g0 := Lib.hid (hg.below hbx.out.1)
 have o0 := Lib.hid (hx.below hbx.out.1)
 have x0 := Lib.hid hbx.out.2.1
 have b0 := Lib.hid hbx.out.1
 have hsz := Lib.hid hbx.out.2.2
 have hrn : rn ≤ 1000000 := by have h1 : x.rows.length = rn := hx.rows.reads.len; have := hf.rows; omega
 have y0 : W.cell? ⟨g, 6, none⟩ = some (.int .i64 kt) := g0.out.cell 6
 have y1 : W.cell? ⟨g, 7, none⟩ = some (.int .u16 ki) := g0.out.cell 7
 have y2 : W.cell? ⟨g, 10, none⟩ = some (.int .i64 qv) := g0.out.cell 10
 have y3 : W.cell? ⟨g, 11, none⟩ = some (.string qs) := g0.out.cell 11
 have hqr : Hid (RowOk ⟨⟨kt, ki⟩, qv, qs⟩) := ⟨hq.key, hq.val, hq.note⟩
 have hs2 := sizeKey kt ki
 have hs3 := sizeRow kt ki qv qs
 clear hg hx hf hq hbx
 go_enter Try.func72, Try.ntmps72
 go_wp2
 refine wp_region_held (S := fun u => u.cell? ⟨g, 6, none⟩ = some (.int .i64 kt) ∧ u.cell? ⟨g, 7, none⟩ = some (.int .u16 ki) ∧ u.cell? ⟨g, 10, none⟩ = some (.int .i64 qv) ∧ u.cell? ⟨g, 11, none⟩ = some (.string qs)) (by kernel_rfl) ?_
 change wpAnyH _ _ _ _ _ _ _ _ (World.drew W)
 have hX0 : Hid ((fun u : World => u.cell? ⟨g, 6, none⟩ = some (.int .i64 kt) ∧ u.cell? ⟨g, 7, none⟩ = some (.int .u16 ki) ∧ u.cell? ⟨g, 10, none⟩ = some (.int .i64 qv) ∧ u.cell? ⟨g, 11, none⟩ = some (.string qs)) W.drew) := ⟨y0, y1, y2, y3⟩
 refine held_tk (i := 0) (dst := some 5) (v := .pointer (some ⟨g, 0, none⟩)) rfl rfl (y_move (.tmp 0) rfl rfl rfl) hX0.out ?_
 go_frame
 refine held_tk (i := 1) (dst := some 6) (v := .pointer (some ⟨g, 0, none⟩)) rfl rfl (.inl ⟨rfl, fun u _ => by go_simp⟩) hX0.out ?_
 go_frame
 refine held_tk (i := 2) (dst := some 7) (v := .pointer (some ⟨g, 5, none⟩)) rfl rfl (.inl ⟨rfl, fun u _ => by go_simp⟩) hX0.out ?_
 go_frame
 refine held_tk (i := 3) (dst := some 8) (v := .pointer (some ⟨g, 6, none⟩)) rfl rfl (.inl ⟨rfl, fun u _ => by go_simp⟩) hX0.out ?_
 go_frame
 refine held_tk (i := 4) (dst := some 9) (v := .agg #[.int .i64 kt, .int .u16 ki]) rfl rfl (.inl ⟨rfl, fun u hu => by have y0 := hu.1; have y1 := hu.2.1; go_simp⟩) hX0.out ?_
 go_frame
 refine held_tk (i := 5) (dst := some 10) (v := .pointer (some ⟨g, 0, none⟩)) rfl rfl (y_move (.tmp 0) rfl rfl rfl) hX0.out ?_
 go_frame
 refine held_tk (i := 6) (dst := some 11) (v := .pointer (some ⟨g, 0, none⟩)) rfl rfl (.inl ⟨rfl, fun u _ => by go_simp⟩) hX0.out ?_
 go_frame
 refine held_tk (i := 7) (dst := some 12) (v := .pointer (some ⟨g, 5, none⟩)) rfl rfl (.inl ⟨rfl, fun u _ => by go_simp⟩) hX0.out ?_
 go_frame
 refine held_tk (i := 8) (dst := some 13) (v := .pointer (some ⟨g, 10, none⟩)) rfl rfl (.inl ⟨rfl, fun u _ => by go_simp⟩) hX0.out ?_
 go_frame
 refine held_tk (i := 9) (dst := some 14) (v := .int .i64 qv) rfl rfl (.inl ⟨rfl, fun u hu => by have y0 := hu.2.2.1; go_simp⟩) hX0.out ?_
 go_frame
 refine held_tk (i := 10) (dst := some 15) (v := .pointer (some ⟨g, 0, none⟩)) rfl rfl (y_move (.tmp 0) rfl rfl rfl) hX0.out ?_
 go_frame
 refine held_tk (i := 11) (dst := some 16) (v := .pointer (some ⟨g, 0, none⟩)) rfl rfl (.inl ⟨rfl, fun u _ => by go_simp⟩) hX0.out ?_
 go_frame
 refine held_tk (i := 12) (dst := some 17) (v := .pointer (some ⟨g, 5, none⟩)) rfl rfl (.inl ⟨rfl, fun u _ => by go_simp⟩) hX0.out ?_
 go_frame
 refine held_tk (i := 13) (dst := some 18) (v := .pointer (some ⟨g, 11, none⟩)) rfl rfl (.inl ⟨rfl, fun u _ => by go_simp⟩) hX0.out ?_
 go_frame
 refine held_tk (i := 14) (dst := some 19) (v := .string qs) rfl rfl (.inl ⟨rfl, fun u hu => by have y0 := hu.2.2.2; go_simp⟩) hX0.out ?_
 go_frame
 refine held_tk (i := 15) (dst := some 20) (v := .agg #[.int .i64 kt, .int .u16 ki, .int .i64 qv, .string qs]) rfl rfl (.inl ⟨rfl, fun u _ => by go_simp⟩) hX0.out ?_
 go_frame
 obtain ⟨V3, hV3⟩ : ∃ V3, W.drew.alloc (.cells #[.int .i64 0, .int .u16 0, .int .i64 0, .string ⟨#[]⟩] 68) = V3 := ⟨_, rfl⟩
 have hbx3 := one_rowI (xs := [.int .i64 0, .int .u16 0, .int .i64 0, .string ⟨#[]⟩]) hV3
 have hb3 : Below W.heap.size W V3 := (below_drew W).trans hbx3.1
 have hX3 : Hid ((fun u : World => u.cell? ⟨g, 6, none⟩ = some (.int .i64 kt) ∧ u.cell? ⟨g, 7, none⟩ = some (.int .u16 ki) ∧ u.cell? ⟨g, 10, none⟩ = some (.int .i64 qv) ∧ u.cell? ⟨g, 11, none⟩ = some (.string qs)) V3) := ⟨cell_keeps hb3 (Nat.le_refl _) y0, cell_keeps hb3 (Nat.le_refl _) y1, cell_keeps hb3 (Nat.le_refl _) y2, cell_keeps hb3 (Nat.le_refl _) y3⟩
 refine held_value (i := 16) (dst := some 3) (w' := V3) (v := .pointer (some ⟨W.heap.size, 0, none⟩)) rfl rfl (by kernel_rfl) rfl (by rw [← hV3]; go_simp) hX3.out ?_
 go_frame
 obtain ⟨z0, hst, h4, hg4⟩ := run_storeVar_at (P := Try.prog) (ty := 68) (o := 0) (vs := [.int .i64 kt, .int .u16 ki, .int .i64 qv, .string qs]) hbx3.2.1 hs3 (Nat.le_refl _) (RowD.one ⟨⟨kt, ki⟩, qv, qs⟩)
 have hb4 : Below W.heap.size W z0 := hb3.grown hg4 hb3.size (fun k hk => by cases hk; exact Nat.le_refl _)
 have hX4 : Hid ((fun u : World => u.cell? ⟨g, 6, none⟩ = some (.int .i64 kt) ∧ u.cell? ⟨g, 7, none⟩ = some (.int .u16 ki) ∧ u.cell? ⟨g, 10, none⟩ = some (.int .i64 qv) ∧ u.cell? ⟨g, 11, none⟩ = some (.string qs)) z0) := ⟨cell_keeps hb4 (Nat.le_refl _) y0, cell_keeps hb4 (Nat.le_refl _) y1, cell_keeps hb4 (Nat.le_refl _) y2, cell_keeps hb4 (Nat.le_refl _) y3⟩
 refine held_skip (i := 17) (dst := none) (w' := z0) rfl rfl (by kernel_rfl) rfl (run_store_op rfl rfl rfl hst) hX4.out ?_
 go_frame
 have hv := Lib.hid hb4
 have q1 : Hid (RowV 68 z0 W.heap.size [.int .i64 kt, .int .u16 ki, .int .i64 qv, .string qs]) := h4
 have hlow : Hid (W.heap.size < z0.heap.size) := q1.out.lt
 clear hst h4 hg4 hX3 hX4 hb3 hb4 hbx3 hV3 hX0 y0 y1 y2 y3 hW
 refine wpAnyH_done (by kernel_rfl) ?_ _
 have g1 := Lib.hid (g0.out.below hv.out)
 have o1 := Lib.hid (o0.out.below hv.out)
 have x1 := Lib.hid (x0.out.below hv.out)
 have b1 := Lib.hid (b0.out.trans (hv.out.mono b0.out.size))
 clear g0 o0 x0 b0
 have y0 : z0.cell? ⟨g, 0, none⟩ = some (.slice tq tn tc) := g1.out.cell 0
 have y1 : z0.cell? ⟨W.heap.size, 0, none⟩ = some (.int .i64 kt) := q1.out.cell 0
 have y2 : z0.cell? ⟨W.heap.size, 1, none⟩ = some (.int .u16 ki) := q1.out.cell 1
 have y3 : z0.cell? ⟨W.heap.size, 2, none⟩ = some (.int .i64 qv) := q1.out.cell 2
 have y4 : z0.cell? ⟨W.heap.size, 3, none⟩ = some (.string qs) := q1.out.cell 3
 have hcr := Lib.hid (fun u (hu : Below z0.heap.size z0 u) => checkRow_any tq tn tc x.bs kt ki qv qs u ((o1.out.sch.1.reads.sch o1.out.sch.2).below hu (Nat.le_refl _)) hqr.out.note)
 go_wp2
 go_region_held3 (fun u => u.cell? ⟨g, 0, none⟩ = some (.slice tq tn tc) ∧ u.cell? ⟨W.heap.size, 0, none⟩ = some (.int .i64 kt) ∧ u.cell? ⟨W.heap.size, 1, none⟩ = some (.int .u16 ki) ∧ u.cell? ⟨W.heap.size, 2, none⟩ = some (.int .i64 qv) ∧ u.cell? ⟨W.heap.size, 3, none⟩ = some (.string qs) ∧ Below z0.heap.size z0 u)
  (first | exact ⟨y0, y1, y2, y3, y4, below_drew _⟩ | (go_split_ands; exact ⟨cell_keeps hq0.out (Nat.le_refl _) (by assumption), cell_keeps hq0.out (Nat.le_refl _) (by assumption), cell_keeps hq0.out (Nat.le_refl _) (by assumption), cell_keeps hq0.out (Nat.le_refl _) (by assumption), cell_keeps hq0.out (Nat.le_refl _) (by assumption), below_step hq0.out (by assumption)⟩) | go_keep)
  (first | (go_at_call 85; refine (hcr.out _ (by go_split_ands; first | assumption | exact below_drew _)).mono ?_; rintro e z1 ⟨rfl, hb⟩; have hq0 := Lib.hid hb; clear hb))
 have hv2 : Hid (Below z0.heap.size z0 z1) := by
  show Below _ _ _
  go_split_ands
  assumption
 clear y0 y1 y2 y3 y4
 have g0 := Lib.hid (g1.out.below hv2.out)
 have o0 := Lib.hid (o1.out.below hv2.out)
 have x0 := Lib.hid (x1.out.below hv2.out)
 have q0 := Lib.hid (q1.out.below hv2.out)
 have b0 := Lib.hid (b1.out.trans (hv2.out.mono b1.out.size))
 obtain ⟨er, her⟩ : ∃ er, chkRow x.bs ⟨⟨kt, ki⟩, qv, qs⟩ = er := ⟨_, rfl⟩
 rw [her]
 have her' := Lib.hid her
 clear her g1 o1 x1 b1 q1
 by_cases he : er = 0
 · subst he
   go_wp2_with (first
    | (with_reducible refine wpList_load_at rfl 28 (.tmp 33) rfl Try.underlying28 rfl hs2 rfl (q0.out.part (pre := []) (vs := [.int .i64 kt, .int .u16 ki]) (rest := [.int .i64 qv, .string qs]) rfl rfl) ?_))
   refine (has_any g tq tn tc rq rn rc bq bn bc mq mn mc o qk kt ki tt ti qv qs qn x.rows kt ki z1 g0.out o0.out.rows.reads hrn).mono ?_
   rintro e z2 ⟨rfl, hb⟩
   have g1 := Lib.hid (g0.out.below hb)
   have o1 := Lib.hid (o0.out.below hb)
   have x1 := Lib.hid (x0.out.below hb)
   have q1 := Lib.hid (q0.out.below hb)
   have b1 := Lib.hid (b0.out.trans (hb.mono b0.out.size))
   clear hb g0 o0 x0 b0 q0
   obtain ⟨B, hB⟩ : ∃ B, findB x.rows ⟨kt, ki⟩ = B := ⟨_, rfl⟩
   rw [hB]
   have hB' := Lib.hid hB
   clear hB
   cases B with
   | true =>
     have hres : Hid (insW x ⟨kt, ki⟩ qv qs = (x, errA 5)) := by show _ = _; unfold insW; rw [if_pos her'.out, if_pos hB'.out]
     go_wp2_with fail
     refine (told_any 5 z2).mono ?_
     rintro e w4 ⟨rfl, hb⟩
     have gq := Lib.hid (g1.out.below hb)
     have oq := Lib.hid (o1.out.below hb)
     have xq := Lib.hid (x1.out.below hb)
     have bq_ := Lib.hid (b1.out.trans (hb.mono b1.out.size))
     clear hb
     go_wp2_with (first
      | ((with_reducible refine wpList_store_at rfl 35 (.tmp 2) (.tmp 36) rfl (o := 0) (vs := [.int .i64 5, .slice none 0 0, .int .i64 0]) rfl rfl xq.out (sizeAns _ _ _) (Nat.le_refl _) (ans_one _ _ _ _ _) ?_)
         intro w9 h9 hg9
         have h9' := Lib.hid h9
         have hg9' := Lib.hid hg9
         clear h9 hg9))
     have s1 : RowV 35 w9 (w.heap.size) [.int .i64 5, .slice none 0 0, .int .i64 0] := h9'.out
     have m0 := s1.cell 0
     have m1 := s1.cell 1
     have m2 := s1.cell 2
     simp only [List.getElem?_cons_zero, List.getElem?_cons_succ] at m0 m1 m2
     refine bodyPost_ret (v := .agg #[.int .i64 5, .slice none 0 0, .int .i64 0]) (by simp [results, Try.results72, go_sem, m0, m1, m2]) rfl ?_
     rw [hres.out]
     exact ⟨⟨tq, tn, tc, rq, rn, rc, bq, bn, bc, mq, mn, mc, o⟩, ⟨5, none, 0, 0, 0⟩, rfl, gq.out.kept hg9'.out (by omega), oq.out.ga hg9'.out xq.out, AV.Own.err _ _, Gr.own3 (below_grown bq_.out (some g)) hg9'.out (by omega)⟩
   | false =>
     have hres : Hid (insW x ⟨kt, ki⟩ qv qs = layW x (putE x.bs x.rows ⟨⟨kt, ki⟩, qv, qs⟩, putR x.bs x.rows ⟨⟨kt, ki⟩, qv, qs⟩)) := by show _ = _; unfold insW; rw [if_pos her'.out, if_neg (by rw [hB'.out]; simp)]
     have g0 := g1
     have o0 := o1
     have x0 := x1
     have b0 := b1
     have y0 : z2.cell? ⟨g, 0, none⟩ = some (.slice tq tn tc) := g1.out.cell 0
     have y1 : z2.cell? ⟨g, 1, none⟩ = some (.slice rq rn rc) := g1.out.cell 1
     have y2 : z2.cell? ⟨W.heap.size, 0, none⟩ = some (.int .i64 kt) := q1.out.cell 0
     have y3 : z2.cell? ⟨W.heap.size, 1, none⟩ = some (.int .u16 ki) := q1.out.cell 1
     have y4 : z2.cell? ⟨W.heap.size, 2, none⟩ = some (.int .i64 qv) := q1.out.cell 2
     have y5 : z2.cell? ⟨W.heap.size, 3, none⟩ = some (.string qs) := q1.out.cell 3
     go_wp2
     refine wp_region_x (by kernel_rfl) 15 (fun u => u.cell? ⟨g, 0, none⟩ = some (.slice tq tn tc) ∧ u.cell? ⟨g, 1, none⟩ = some (.slice rq rn rc) ∧ u.cell? ⟨W.heap.size, 0, none⟩ = some (.int .i64 kt) ∧ u.cell? ⟨W.heap.size, 1, none⟩ = some (.int .u16 ki) ∧ u.cell? ⟨W.heap.size, 2, none⟩ = some (.int .i64 qv) ∧ u.cell? ⟨W.heap.size, 3, none⟩ = some (.string qs)) ?_
     change wpAnyX _ _ _ _ _ _ _ _ _ (World.drew z2)
     have hX0 : Hid ((fun u : World => u.cell? ⟨g, 0, none⟩ = some (.slice tq tn tc) ∧ u.cell? ⟨g, 1, none⟩ = some (.slice rq rn rc) ∧ u.cell? ⟨W.heap.size, 0, none⟩ = some (.int .i64 kt) ∧ u.cell? ⟨W.heap.size, 1, none⟩ = some (.int .u16 ki) ∧ u.cell? ⟨W.heap.size, 2, none⟩ = some (.int .i64 qv) ∧ u.cell? ⟨W.heap.size, 3, none⟩ = some (.string qs)) (z2.drew)) := ⟨y0, y1, y2, y3, y4, y5⟩
     refine x_pu (i := 0) (dst := some 37) (v := .pointer (some ⟨g, 0, none⟩)) rfl rfl (y_move (.tmp 0) rfl rfl rfl) (fun _ => hX0.out) ?_
     go_frame
     refine x_pu (i := 1) (dst := some 38) (v := .pointer (some ⟨g, 0, none⟩)) rfl rfl (y_move (.tmp 0) rfl rfl rfl) (fun _ => hX0.out) ?_
     go_frame
     refine x_pu (i := 2) (dst := some 39) (v := .pointer (some ⟨g, 0, none⟩)) rfl rfl (.inl ⟨rfl, fun u _ => by go_simp⟩) (fun _ => hX0.out) ?_
     go_frame
     refine x_pu (i := 3) (dst := some 40) (v := .pointer (some ⟨g, 0, none⟩)) rfl rfl (.inl ⟨rfl, fun u _ => by go_simp⟩) (fun _ => hX0.out) ?_
     go_frame
     refine x_pu (i := 4) (dst := some 41) (v := .pointer (some ⟨g, 0, none⟩)) rfl rfl (.inl ⟨rfl, fun u _ => by go_simp⟩) (fun _ => hX0.out) ?_
     go_frame
     refine x_tk (i := 5) (dst := some 42) (v := .agg #[.slice tq tn tc]) rfl rfl (.inl ⟨rfl, fun u hu => by have y0 := hu.1; go_simp⟩) hX0.out ?_
     go_frame
     refine x_pu (i := 6) (dst := some 43) (v := .pointer (some ⟨g, 0, none⟩)) rfl rfl (y_move (.tmp 0) rfl rfl rfl) (fun _ => hX0.out) ?_
     go_frame
     refine x_pu (i := 7) (dst := some 44) (v := .pointer (some ⟨g, 0, none⟩)) rfl rfl (.inl ⟨rfl, fun u _ => by go_simp⟩) (fun _ => hX0.out) ?_
     go_frame
     refine x_pu (i := 8) (dst := some 45) (v := .pointer (some ⟨g, 0, none⟩)) rfl rfl (.inl ⟨rfl, fun u _ => by go_simp⟩) (fun _ => hX0.out) ?_
     go_frame
     refine x_pu (i := 9) (dst := some 46) (v := .pointer (some ⟨g, 1, none⟩)) rfl rfl (.inl ⟨rfl, fun u _ => by go_simp⟩) (fun _ => hX0.out) ?_
     go_frame
     refine x_tk (i := 10) (dst := some 47) (v := .slice rq rn rc) rfl rfl (.inl ⟨rfl, fun u hu => by have y0 := hu.2.1; go_simp⟩) hX0.out ?_
     go_frame
     refine x_tk (i := 11) (dst := some 48) (v := .agg #[.int .i64 kt, .int .u16 ki, .int .i64 qv, .string qs]) rfl rfl (.inl ⟨rfl, fun u hu => by have y0 := hu.2.2.1; have y1 := hu.2.2.2.1; have y2 := hu.2.2.2.2.1; have y3 := hu.2.2.2.2.2; go_simp⟩) hX0.out ?_
     go_frame
     refine x_call (i := 12) (dst := some 49) rfl rfl (by kernel_rfl) rfl (by go_simp) (put_any tq tn tc x.bs rq rn rc x.rows kt ki qv qs z2.drew ((o0.out.sch.1.reads.sch o0.out.sch.2).below (below_drew _) (Nat.le_refl _)) (o0.out.rows.reads.below (below_drew _) (Nat.le_refl _)) hqr.out) ?_
     rintro e u1 ⟨lq, ln, lc, rfl, hl, hb, ho⟩
     have hb' : Below z2.heap.size z2 u1 := (below_drew z2).trans hb
     have hv1 := Lib.hid hb'
     have hX1 : Hid ((fun u : World => u.cell? ⟨g, 0, none⟩ = some (.slice tq tn tc) ∧ u.cell? ⟨g, 1, none⟩ = some (.slice rq rn rc) ∧ u.cell? ⟨W.heap.size, 0, none⟩ = some (.int .i64 kt) ∧ u.cell? ⟨W.heap.size, 1, none⟩ = some (.int .u16 ki) ∧ u.cell? ⟨W.heap.size, 2, none⟩ = some (.int .i64 qv) ∧ u.cell? ⟨W.heap.size, 3, none⟩ = some (.string qs)) u1) := ⟨cell_keeps hb' (Nat.le_refl _) y0, cell_keeps hb' (Nat.le_refl _) y1, cell_keeps hb' (Nat.le_refl _) y2, cell_keeps hb' (Nat.le_refl _) y3, cell_keeps hb' (Nat.le_refl _) y4, cell_keeps hb' (Nat.le_refl _) y5⟩
     have l1 : Hid (OwnL u1 lq ln lc (putR x.bs x.rows ⟨⟨kt, ki⟩, qv, qs⟩)) := ⟨ho, hl.ok⟩
     have g2 := Lib.hid (g0.out.below hv1.out)
     have o2 := Lib.hid (o0.out.below hv1.out)
     have x2 := Lib.hid (x0.out.below hv1.out)
     have b2 := Lib.hid (b0.out.trans (hv1.out.mono b0.out.size))
     clear hb hb' y0 y1 y2 y3 y4 y5
     refine ⟨_, rfl, fun _ => hX1.out, ?_⟩
     go_frame
     refine x_pu (i := 13) (dst := some 50) (v := .slice lq ln lc) rfl rfl (.inl ⟨rfl, fun u _ => by go_simp⟩) (fun _ => hX1.out) ?_
     go_frame
     refine x_pu (i := 14) (dst := some 51) (v := .int .i64 (putE x.bs x.rows ⟨⟨kt, ki⟩, qv, qs⟩)) rfl rfl (.inl ⟨rfl, fun u _ => by go_simp⟩) (fun _ => hX1.out) ?_
     go_frame
     refine x_call (i := 15) (dst := some 52) rfl rfl (by kernel_rfl) rfl (by go_simp) (lay_any g ⟨tq, tn, tc, rq, rn, rc, bq, bn, bc, mq, mn, mc, o⟩ ⟨qk, ⟨kt, ki⟩, ⟨tt, ti⟩, qv, qs, qn⟩ x lq ln lc (putE x.bs x.rows ⟨⟨kt, ki⟩, qv, qs⟩) (putR x.bs x.rows ⟨⟨kt, ki⟩, qv, qs⟩) u1 g2.out o2.out l1.out) ?_
     rintro e u3 ⟨v3, ⟨ae, aq, an, ac, ak⟩, rfl, h1, h2, h3, h4⟩
     have g3 := Lib.hid h1
     have o3 := Lib.hid h2
     have a3 := Lib.hid h3
     have x3 := Lib.hid (x2.out.kept h4 (by omega))
     have r3 := Lib.hid (grown_trans (below_grown b2.out (some g)) h4)
     clear h1 h2 h3 h4
     refine ⟨_, rfl, x_gone (by kernel_rfl), ?_⟩
     go_frame
     obtain ⟨u9, hst, h9, hg9⟩ := run_storeVar_at (P := Try.prog) (ty := 35) (o := 0) (vs := [.int .i64 ae, .slice aq an ac, .int .i64 ak]) x3.out (sizeAns _ _ _) (Nat.le_refl _) (ans_one _ _ _ _ _)
     refine x_skip (i := 16) (dst := none) (w' := u9) rfl rfl (by kernel_rfl) rfl (run_store_op rfl rfl rfl hst) (x_gone (by kernel_rfl)) ?_
     go_frame
     refine x_done (by kernel_rfl) ?_
     have h9' := Lib.hid h9
     have hg9' := Lib.hid hg9
     clear hst h9 hg9 hX0 hX1
     go_wp2
     have s1 : RowV 35 u9 (w.heap.size) [.int .i64 ae, .slice aq an ac, .int .i64 ak] := h9'.out
     have m0 := s1.cell 0
     have m1 := s1.cell 1
     have m2 := s1.cell 2
     simp only [List.getElem?_cons_zero, List.getElem?_cons_succ] at m0 m1 m2
     refine bodyPost_ret (v := .agg #[.int .i64 ae, .slice aq an ac, .int .i64 ak]) (by simp [results, Try.results72, go_sem, m0, m1, m2]) rfl ?_
     rw [hres.out]
     exact ⟨v3, ⟨ae, aq, an, ac, ak⟩, rfl, g3.out.kept hg9'.out (by omega), o3.out.ga hg9'.out x3.out, a3.out.ga hg9'.out x3.out, Gr.own3 r3.out hg9'.out (by omega)⟩
 · have he1 : (er != 0) = true := by simpa using he
   have hres : Hid (insW x ⟨kt, ki⟩ qv qs = (x, errA er)) := by show _ = _; unfold insW; rw [her'.out, if_neg he]
   have g1 := g0
   have o1 := o0
   have x1 := x0
   have b1 := b0
   go_wp2_with fail
   clear he he1
   refine (told_any er z1).mono ?_
   rintro e w4 ⟨rfl, hb⟩
   have gq := Lib.hid (g1.out.below hb)
   have oq := Lib.hid (o1.out.below hb)
   have xq := Lib.hid (x1.out.below hb)
   have bq_ := Lib.hid (b1.out.trans (hb.mono b1.out.size))
   clear hb
   go_wp2_with (first
    | ((with_reducible refine wpList_store_at rfl 35 (.tmp 2) (.tmp 31) rfl (o := 0) (vs := [.int .i64 er, .slice none 0 0, .int .i64 0]) rfl rfl xq.out (sizeAns _ _ _) (Nat.le_refl _) (ans_one _ _ _ _ _) ?_)
       intro w9 h9 hg9
       have h9' := Lib.hid h9
       have hg9' := Lib.hid hg9
       clear h9 hg9))
   have s1 : RowV 35 w9 (w.heap.size) [.int .i64 er, .slice none 0 0, .int .i64 0] := h9'.out
   have m0 := s1.cell 0
   have m1 := s1.cell 1
   have m2 := s1.cell 2
   simp only [List.getElem?_cons_zero, List.getElem?_cons_succ] at m0 m1 m2
   refine bodyPost_ret (v := .agg #[.int .i64 er, .slice none 0 0, .int .i64 0]) (by simp [results, Try.results72, go_sem, m0, m1, m2]) rfl ?_
   rw [hres.out]
   exact ⟨⟨tq, tn, tc, rq, rn, rc, bq, bn, bc, mq, mn, mc, o⟩, ⟨er, none, 0, 0, 0⟩, rfl, gq.out.kept hg9'.out (by omega), oq.out.ga hg9'.out xq.out, AV.Own.err _ _, Gr.own3 (below_grown bq_.out (some g)) hg9'.out (by omega)⟩
end Go.Proofs.Ytkdkncbccofpdaa
/-! commit, abort and remove of ideal. -/
namespace Go.Proofs.Ytkdkncbccofpdaa
open Go.RowKit
set_option maxRecDepth 100000
def comW (x : SerD) : SerD × AnsD := ({ x with marks := [], over := true }, ⟨0, [], 0⟩)
def aboW (x : SerD) : SerD × AnsD := ({ x with rows := x.begun, marks := [], over := true }, ⟨0, [], 0⟩)
set_option maxHeartbeats 4000000 in
theorem com_any (g : Nat) (tq : Option Addr) (tn tc : Nat) (rq : Option Addr) (rn rc : Nat) (bq : Option Addr) (bn bc : Nat) (mq : Option Addr) (mn mc : Nat) (o : Bool) (qk kt ki tt ti qv : Int) (qs : ByteArray) (qn : Int) (x : SerD) (w : World) (hg : RowV 94 w g [.slice tq tn tc, .slice rq rn rc, .slice bq bn bc, .slice mq mn mc, .bool o, .int .i64 qk, .int .i64 kt, .int .u16 ki, .int .i64 tt, .int .u16 ti, .int .i64 qv, .string qs, .int .i64 qn]) (hx : (⟨tq, tn, tc, rq, rn, rc, bq, bn, bc, mq, mn, mc, o⟩ : SV).Own w x) :
 Calls Try.prog 80 #[.pointer (some ⟨g, 0, none⟩)] w (WkPost g ⟨qk, ⟨kt, ki⟩, ⟨tt, ti⟩, qv, qs, qn⟩ (comW x) w) := by
 obtain ⟨W, hW⟩ : ∃ W, w.alloc (.cells #[.int .i64 0, .slice none 0 0, .int .i64 0] 35) = W := ⟨_, rfl⟩
 have hbx := Lib.hid (one_rowI (xs := [.int .i64 0, .slice none 0 0, .int .i64 0]) hW)
 have hlt := hg.lt
 have g0 := Lib.hid (hg.below hbx.out.1)
 have o0 := Lib.hid (hx.below hbx.out.1)
 have x0 := Lib.hid hbx.out.2.1
 have b0 := Lib.hid hbx.out.1
 have hsz := Lib.hid hbx.out.2.2
 have c0 : W.cell? ⟨g, 3, none⟩ = some (.slice mq mn mc) := g0.out.cell 3
 have f0 : W.frozen? ⟨g, 3, none⟩ = false := g0.out.free 3
 obtain ⟨V1, hV1⟩ : ∃ u, W.setCell ⟨g, 3, none⟩ (.slice none 0 0) = u := ⟨_, rfl⟩
 have h1 : W.grownBy V1 (some g) := by rw [← hV1]; exact setCell_grown _ _ _ _
 have g1 : Hid (RowV 94 V1 g [.slice tq tn tc, .slice rq rn rc, .slice bq bn bc, .slice none 0 0, .bool o, .int .i64 qk, .int .i64 kt, .int .u16 ki, .int .i64 tt, .int .u16 ti, .int .i64 qv, .string qs, .int .i64 qn]) := by rw [← hV1]; exact g0.out.set 3 _
 have c1 : V1.cell? ⟨g, 4, none⟩ = some (.bool o) := g1.out.cell 4
 have f1 : V1.frozen? ⟨g, 4, none⟩ = false := g1.out.free 4
 obtain ⟨V2, hV2⟩ : ∃ u, V1.setCell ⟨g, 4, none⟩ (.bool true) = u := ⟨_, rfl⟩
 have h2 : V1.grownBy V2 (some g) := by rw [← hV2]; exact setCell_grown _ _ _ _
 have g2 : Hid (RowV 94 V2 g [.slice tq tn tc, .slice rq rn rc, .slice bq bn bc, .slice none 0 0, .bool true, .int .i64 qk, .int .i64 kt, .int .u16 ki, .int .i64 tt, .int .u16 ti, .int .i64 qv, .string qs, .int .i64 qn]) := by rw [← hV2]; exact g1.out.set 4 _
 have o2 := Lib.hid ((o0.out.gw h1 g0.out).gw h2 g1.out)
 have x2 := Lib.hid ((x0.out.kept h1 (by omega)).kept h2 (by omega))
 have r2 := Lib.hid (grown_trans (grown_trans (below_grown b0.out (some g)) h1) h2)
 clear hg hx hbx h1 h2
 go_enter Try.func80, Try.ntmps80
 go_wp2_with fail
 clear hW hV1 hV2 c0 c1 f0 f1
 refine (told_any 0 V2).mono ?_
 rintro e w4 ⟨rfl, hb⟩
 have gq := Lib.hid (g2.out.below hb)
 have oq := Lib.hid (o2.out.below hb)
 have xq := Lib.hid (x2.out.below hb)
 have rq_ := Lib.hid (grown_below r2.out hb)
 clear hb
 go_wp2_with (first
  | ((with_reducible refine wpList_store_at rfl 35 (.tmp 2) (.tmp 11) rfl (o := 0) (vs := [.int .i64 0, .slice none 0 0, .int .i64 0]) rfl rfl xq.out (sizeAns _ _ _) (Nat.le_refl _) (ans_one _ _ _ _ _) ?_)
     intro w9 h9 hg9
     have h9' := Lib.hid h9
     have hg9' := Lib.hid hg9
     clear h9 hg9))
 have s1 : RowV 35 w9 (w.heap.size) [.int .i64 0, .slice none 0 0, .int .i64 0] := h9'.out
 have m0 := s1.cell 0
 have m1 := s1.cell 1
 have m2 := s1.cell 2
 simp only [List.getElem?_cons_zero, List.getElem?_cons_succ] at m0 m1 m2
 refine bodyPost_ret (v := .agg #[.int .i64 0, .slice none 0 0, .int .i64 0]) (by simp [results, Try.results80, go_sem, m0, m1, m2]) rfl ?_
 have of := oq.out.ga hg9'.out xq.out
 exact ⟨⟨tq, tn, tc, rq, rn, rc, bq, bn, bc, none, 0, 0, true⟩, ⟨0, none, 0, 0, 0⟩, rfl, gq.out.kept hg9'.out (by omega), ⟨of.sch, of.rows, of.begun, OwnM.none_ _, rfl⟩, AV.Own.err 0 _, Gr.own3 rq_.out hg9'.out (by omega)⟩
set_option maxHeartbeats 4000000 in
theorem abo_any (g : Nat) (tq : Option Addr) (tn tc : Nat) (rq : Option Addr) (rn rc : Nat) (bq : Option Addr) (bn bc : Nat) (mq : Option Addr) (mn mc : Nat) (o : Bool) (qk kt ki tt ti qv : Int) (qs : ByteArray) (qn : Int) (x : SerD) (w : World) (hg : RowV 94 w g [.slice tq tn tc, .slice rq rn rc, .slice bq bn bc, .slice mq mn mc, .bool o, .int .i64 qk, .int .i64 kt, .int .u16 ki, .int .i64 tt, .int .u16 ti, .int .i64 qv, .string qs, .int .i64 qn]) (hx : (⟨tq, tn, tc, rq, rn, rc, bq, bn, bc, mq, mn, mc, o⟩ : SV).Own w x) (hf : Few x) :
 Calls Try.prog 81 #[.pointer (some ⟨g, 0, none⟩)] w (WkPost g ⟨qk, ⟨kt, ki⟩, ⟨tt, ti⟩, qv, qs, qn⟩ (aboW x) w) := by
 obtain ⟨W, hW⟩ : ∃ W, w.alloc (.cells #[.int .i64 0, .slice none 0 0, .int .i64 0] 35) = W := ⟨_, rfl⟩
 have hbx := Lib.hid (one_rowI (xs := [.int .i64 0, .slice none 0 0, .int .i64 0]) hW)
 have hlt := hg.lt
 have g0 := Lib.hid (hg.below hbx.out.1)
 have o0 := Lib.hid (hx.below hbx.out.1)
 have x0 := Lib.hid hbx.out.2.1
 have b0 := Lib.hid hbx.out.1
 have hsz := Lib.hid hbx.out.2.2
 have hrn : rn ≤ 1000000 := by have h1 : x.rows.length = rn := hx.rows.reads.len; have := hf.rows; omega
 have hbn : bn ≤ 1000000 := by have h1 : x.begun.length = bn := hx.begun.reads.len; have := hf.begun; omega
 have c0 : W.cell? ⟨g, 2, none⟩ = some (.slice bq bn bc) := g0.out.cell 2
 clear hg hx hf hbx
 go_enter Try.func81, Try.ntmps81
 go_wp2_with fail
 clear hW c0
 refine (cloneR_any bq bn bc x.begun W o0.out.begun.reads hbn).mono ?_
 rintro e w1 ⟨q1, k1, rfl, hl, hb⟩
 have hv := Lib.hid hb
 have g1 := Lib.hid (g0.out.below hv.out)
 have o1 := Lib.hid (o0.out.below hv.out)
 have x1 := Lib.hid (x0.out.below hv.out)
 have b1 := Lib.hid (b0.out.trans (hv.out.mono b0.out.size))
 have l1 := Lib.hid hl
 have c1 : w1.cell? ⟨g, 1, none⟩ = some (.slice rq rn rc) := g1.out.cell 1
 have f1 : w1.frozen? ⟨g, 1, none⟩ = false := g1.out.free 1
 obtain ⟨V1, hV1⟩ : ∃ u, w1.setCell ⟨g, 1, none⟩ (.slice q1 bn k1) = u := ⟨_, rfl⟩
 have h1 : w1.grownBy V1 (some g) := by rw [← hV1]; exact setCell_grown _ _ _ _
 have g2 : Hid (RowV 94 V1 g [.slice tq tn tc, .slice q1 bn k1, .slice bq bn bc, .slice mq mn mc, .bool o, .int .i64 qk, .int .i64 kt, .int .u16 ki, .int .i64 tt, .int .u16 ti, .int .i64 qv, .string qs, .int .i64 qn]) := by rw [← hV1]; exact g1.out.set 1 _
 have o2 : Hid ((⟨tq, tn, tc, q1, bn, k1, bq, bn, bc, mq, mn, mc, o⟩ : SV).Own V1 { x with rows := x.begun }) := by
  have a := o1.out.gw h1 g1.out
  exact ⟨a.sch, l1.out.gw h1 g1.out, a.begun, a.marks, a.over⟩
 have x2 := Lib.hid (x1.out.kept h1 (by omega))
 have r2 := Lib.hid (grown_trans (below_grown b1.out (some g)) h1)
 clear hl hb h1 g0 o0 x0 b0 g1 o1 x1 b1 l1
 go_wp2_with fail
 clear hV1 c1 f1
 refine (com_any g tq tn tc q1 bn k1 bq bn bc mq mn mc o qk kt ki tt ti qv qs qn { x with rows := x.begun } V1 g2.out o2.out).mono ?_
 rintro e u3 ⟨v3, ⟨ae, aq, an, ac, ak⟩, rfl, h1, h2, h3, h4⟩
 have g3 := Lib.hid h1
 have o3 := Lib.hid h2
 have a3 := Lib.hid h3
 have x3 := Lib.hid (x2.out.kept h4 (by omega))
 have r3 := Lib.hid (grown_trans r2.out h4)
 clear h1 h2 h3 h4
 go_wp2_with (first
  | ((with_reducible refine wpList_store_at rfl 35 (.tmp 2) (.tmp 14) rfl (o := 0) (vs := [.int .i64 ae, .slice aq an ac, .int .i64 ak]) rfl rfl x3.out (sizeAns _ _ _) (Nat.le_refl _) (ans_one _ _ _ _ _) ?_)
     intro w9 h9 hg9
     have h9' := Lib.hid h9
     have hg9' := Lib.hid hg9
     clear h9 hg9))
 have s1 : RowV 35 w9 (w.heap.size) [.int .i64 ae, .slice aq an ac, .int .i64 ak] := h9'.out
 have m0 := s1.cell 0
 have m1 := s1.cell 1
 have m2 := s1.cell 2
 simp only [List.getElem?_cons_zero, List.getElem?_cons_succ] at m0 m1 m2
 refine bodyPost_ret (v := .agg #[.int .i64 ae, .slice aq an ac, .int .i64 ak]) (by simp [results, Try.results81, go_sem, m0, m1, m2]) rfl ?_
 exact ⟨v3, ⟨ae, aq, an, ac, ak⟩, rfl, g3.out.kept hg9'.out (by omega), o3.out.ga hg9'.out x3.out, a3.out.ga hg9'.out x3.out, Gr.own3 r3.out hg9'.out (by omega)⟩
set_option maxHeartbeats 4000000 in
theorem rem_any (g : Nat) (tq : Option Addr) (tn tc : Nat) (rq : Option Addr) (rn rc : Nat) (bq : Option Addr) (bn bc : Nat) (mq : Option Addr) (mn mc : Nat) (o : Bool) (qk kt ki tt ti qv : Int) (qs : ByteArray) (qn : Int) (x : SerD) (w : World) (hg : RowV 94 w g [.slice tq tn tc, .slice rq rn rc, .slice bq bn bc, .slice mq mn mc, .bool o, .int .i64 qk, .int .i64 kt, .int .u16 ki, .int .i64 tt, .int .u16 ti, .int .i64 qv, .string qs, .int .i64 qn]) (hx : (⟨tq, tn, tc, rq, rn, rc, bq, bn, bc, mq, mn, mc, o⟩ : SV).Own w x) (hf : Few x) :
 Calls Try.prog 73 #[.pointer (some ⟨g, 0, none⟩)] w (WkPost g ⟨qk, ⟨kt, ki⟩, ⟨tt, ti⟩, qv, qs, qn⟩ (layW x (takeE x.bs x.rows ⟨kt, ki⟩, takeL x.bs x.rows ⟨kt, ki⟩)) w) := by
 obtain ⟨W, hW⟩ : ∃ W, w.alloc (.cells #[.int .i64 0, .slice none 0 0, .int .i64 0] 35) = W := ⟨_, rfl⟩
 have hbx := Lib.hid (one_rowI (xs := [.int .i64 0, .slice none 0 0, .int .i64 0]) hW)
 have hlt := hg.lt
 have g0 := Lib.hid (hg.below hbx.out.1)
 have o0 := Lib.hid (hx.below hbx.out.1)
 have x0 := Lib.hid hbx.out.2.1
 have b0 := Lib.hid hbx.out.1
 have hsz := Lib.hid hbx.out.2.2
 have hrn : rn ≤ 1000000 := by have h1 : x.rows.length = rn := hx.rows.reads.len; have := hf.rows; omega
 have y0 : W.cell? ⟨g, 0, none⟩ = some (.slice tq tn tc) := g0.out.cell 0
 have y1 : W.cell? ⟨g, 1, none⟩ = some (.slice rq rn rc) := g0.out.cell 1
 have y2 : W.cell? ⟨g, 6, none⟩ = some (.int .i64 kt) := g0.out.cell 6
 have y3 : W.cell? ⟨g, 7, none⟩ = some (.int .u16 ki) := g0.out.cell 7
 have hs2 := sizeKey kt ki
 have htk := Lib.hid (fun u (hu : Below W.heap.size W u) => take_any tq tn tc x.bs rq rn rc x.rows kt ki u ((o0.out.sch.1.reads.sch o0.out.sch.2).below hu (Nat.le_refl _)) (o0.out.rows.reads.below hu (Nat.le_refl _)))
 clear hg hx hf hbx
 go_enter Try.func73, Try.ntmps73
 go_wp2
 refine wp_region_held (S := fun u => u.cell? ⟨g, 0, none⟩ = some (.slice tq tn tc) ∧ u.cell? ⟨g, 1, none⟩ = some (.slice rq rn rc) ∧ u.cell? ⟨g, 6, none⟩ = some (.int .i64 kt) ∧ u.cell? ⟨g, 7, none⟩ = some (.int .u16 ki)) (by kernel_rfl) ?_
 change wpAnyH _ _ _ _ _ _ _ _ (World.drew W)
 have hX0 : Hid ((fun u : World => u.cell? ⟨g, 0, none⟩ = some (.slice tq tn tc) ∧ u.cell? ⟨g, 1, none⟩ = some (.slice rq rn rc) ∧ u.cell? ⟨g, 6, none⟩ = some (.int .i64 kt) ∧ u.cell? ⟨g, 7, none⟩ = some (.int .u16 ki)) W.drew) := ⟨y0, y1, y2, y3⟩
 have hXk : Hid (∀ u, Below W.heap.size W u → (fun u : World => u.cell? ⟨g, 0, none⟩ = some (.slice tq tn tc) ∧ u.cell? ⟨g, 1, none⟩ = some (.slice rq rn rc) ∧ u.cell? ⟨g, 6, none⟩ = some (.int .i64 kt) ∧ u.cell? ⟨g, 7, none⟩ = some (.int .u16 ki)) u) := fun u hu => ⟨cell_keeps hu (Nat.le_refl _) y0, cell_keeps hu (Nat.le_refl _) y1, cell_keeps hu (Nat.le_refl _) y2, cell_keeps hu (Nat.le_refl _) y3⟩
 refine held_tk (i := 0) (dst := some 7) (v := .pointer (some ⟨g, 0, none⟩)) rfl rfl (y_move (.tmp 0) rfl rfl rfl) hX0.out ?_
 go_frame
 refine held_tk (i := 1) (dst := some 8) (v := .pointer (some ⟨g, 0, none⟩)) rfl rfl (.inl ⟨rfl, fun u _ => by go_simp⟩) hX0.out ?_
 go_frame
 refine held_tk (i := 2) (dst := some 9) (v := .pointer (some ⟨g, 0, none⟩)) rfl rfl (.inl ⟨rfl, fun u _ => by go_simp⟩) hX0.out ?_
 go_frame
 refine held_tk (i := 3) (dst := some 10) (v := .pointer (some ⟨g, 0, none⟩)) rfl rfl (.inl ⟨rfl, fun u _ => by go_simp⟩) hX0.out ?_
 go_frame
 refine held_tk (i := 4) (dst := some 11) (v := .agg #[.slice tq tn tc]) rfl rfl (.inl ⟨rfl, fun u hu => by have y0 := hu.1; go_simp⟩) hX0.out ?_
 go_frame
 refine held_tk (i := 5) (dst := some 12) (v := .pointer (some ⟨g, 0, none⟩)) rfl rfl (y_move (.tmp 0) rfl rfl rfl) hX0.out ?_
 go_frame
 refine held_tk (i := 6) (dst := some 13) (v := .pointer (some ⟨g, 0, none⟩)) rfl rfl (.inl ⟨rfl, fun u _ => by go_simp⟩) hX0.out ?_
 go_frame
 refine held_tk (i := 7) (dst := some 14) (v := .pointer (some ⟨g, 0, none⟩)) rfl rfl (.inl ⟨rfl, fun u _ => by go_simp⟩) hX0.out ?_
 go_frame
 refine held_tk (i := 8) (dst := some 15) (v := .pointer (some ⟨g, 1, none⟩)) rfl rfl (.inl ⟨rfl, fun u _ => by go_simp⟩) hX0.out ?_
 go_frame
 refine held_tk (i := 9) (dst := some 16) (v := .slice rq rn rc) rfl rfl (.inl ⟨rfl, fun u hu => by have y0 := hu.2.1; go_simp⟩) hX0.out ?_
 go_frame
 refine held_tk (i := 10) (dst := some 17) (v := .pointer (some ⟨g, 0, none⟩)) rfl rfl (y_move (.tmp 0) rfl rfl rfl) hX0.out ?_
 go_frame
 refine held_tk (i := 11) (dst := some 18) (v := .pointer (some ⟨g, 0, none⟩)) rfl rfl (.inl ⟨rfl, fun u _ => by go_simp⟩) hX0.out ?_
 go_frame
 refine held_tk (i := 12) (dst := some 19) (v := .pointer (some ⟨g, 5, none⟩)) rfl rfl (.inl ⟨rfl, fun u _ => by go_simp⟩) hX0.out ?_
 go_frame
 refine held_tk (i := 13) (dst := some 20) (v := .pointer (some ⟨g, 6, none⟩)) rfl rfl (.inl ⟨rfl, fun u _ => by go_simp⟩) hX0.out ?_
 go_frame
 refine held_tk (i := 14) (dst := some 21) (v := .agg #[.int .i64 kt, .int .u16 ki]) rfl rfl (.inl ⟨rfl, fun u hu => by have y0 := hu.2.2.1; have y1 := hu.2.2.2; go_simp⟩) hX0.out ?_
 go_frame
 refine any_two (i := 15) (j := 20) (by kernel_rfl) ?_ ?_
 · refine call_op (dst := some 22) rfl rfl rfl (by go_simp) (htk.out W.drew (below_drew _)) ?_
   rintro e u1 ⟨lq, ln, lc, rfl, hl, hb, ho⟩
   have hb1 : Below W.heap.size W u1 := (below_drew W).trans hb
   have hX1 := Lib.hid (hXk.out u1 hb1)
   refine ⟨_, rfl, hX1.out, ?_⟩
   go_frame
   refine held_tk (i := 16) (dst := some 6) (v := .tuple #[.slice lq ln lc, .agg #[.int .i64 (takeX x.bs x.rows ⟨kt, ki⟩).key.t, .int .u16 (takeX x.bs x.rows ⟨kt, ki⟩).key.id, .int .i64 (takeX x.bs x.rows ⟨kt, ki⟩).val, .string (takeX x.bs x.rows ⟨kt, ki⟩).note], .int .i64 (takeE x.bs x.rows ⟨kt, ki⟩)]) rfl rfl (y_move (.tmp 22) rfl rfl rfl) hX1.out ?_
   go_frame
   refine held_tk (i := 17) (dst := some 23) (v := .slice lq ln lc) rfl rfl (.inl ⟨rfl, fun u _ => by go_simp⟩) hX1.out ?_
   go_frame
   refine held_tk (i := 18) (dst := some 24) (v := .agg #[.int .i64 (takeX x.bs x.rows ⟨kt, ki⟩).key.t, .int .u16 (takeX x.bs x.rows ⟨kt, ki⟩).key.id, .int .i64 (takeX x.bs x.rows ⟨kt, ki⟩).val, .string (takeX x.bs x.rows ⟨kt, ki⟩).note]) rfl rfl (.inl ⟨rfl, fun u _ => by go_simp⟩) hX1.out ?_
   go_frame
   refine held_tk (i := 19) (dst := some 25) (v := .int .i64 (takeE x.bs x.rows ⟨kt, ki⟩)) rfl rfl (.inl ⟨rfl, fun u _ => by go_simp⟩) hX1.out ?_
   go_frame
   obtain ⟨V, hV⟩ : ∃ V, u1.alloc (.cells #[.int .i64 0, .int .u16 0, .int .i64 0, .string ⟨#[]⟩] 68) = V := ⟨_, rfl⟩
   have hbx3 := one_rowI (xs := [.int .i64 0, .int .u16 0, .int .i64 0, .string ⟨#[]⟩]) hV
   have hv := Lib.hid (hb1.trans (hbx3.1.mono hb1.size))
   refine held_value (i := 20) (dst := some 4) (w' := V) (v := .pointer (some ⟨u1.heap.size, 0, none⟩)) rfl rfl (by kernel_rfl) rfl (by rw [← hV]; go_simp) (hXk.out _ hv.out) ?_
   go_frame
   have q1 := Lib.hid hbx3.2.1
   have l1 := Lib.hid (OwnL.below ⟨ho.mono (Nat.zero_le _), hl.ok⟩ hbx3.1)
   have hap : Hid (∀ a, lq = some a → a.block ≠ u1.heap.size) := fun a ha => Nat.ne_of_lt (ho.far a ha).2
   have hlo : W.heap.size ≤ u1.heap.size := hb1.size
   clear hl hb ho hb1 hX1 hbx3 hV
   have hXV := Lib.hid (hXk.out V hv.out)
   refine held_tk (i := 21) (dst := some 3) (v := .slice lq ln lc) rfl rfl (.inl ⟨rfl, fun u _ => by go_simp⟩) hXV.out ?_
   go_frame
   obtain ⟨V2, hst, h4, hg4⟩ := run_storeVar_at (P := Try.prog) (ty := 68) (o := 0) (vs := [.int .i64 (takeX x.bs x.rows ⟨kt, ki⟩).key.t, .int .u16 (takeX x.bs x.rows ⟨kt, ki⟩).key.id, .int .i64 (takeX x.bs x.rows ⟨kt, ki⟩).val, .string (takeX x.bs x.rows ⟨kt, ki⟩).note]) q1.out (sizeRow _ _ _ _) (Nat.le_refl _) (RowD.one (takeX x.bs x.rows ⟨kt, ki⟩))
   have hv2 : Below W.heap.size W V2 := hv.out.grown hg4 hv.out.size (fun k hk => by cases hk; exact hlo)
   have hXW := Lib.hid (hXk.out V2 hv2)
   have l2 : Hid (OwnL V2 lq ln lc (takeL x.bs x.rows ⟨kt, ki⟩)) := ⟨l1.out.1.kept fun a ha => hg4.block _ (l1.out.1.far a ha).2 (fun e => hap.out a ha (by simpa using e)), l1.out.2⟩
   refine held_skip (i := 22) (dst := none) (w' := V2) rfl rfl (by kernel_rfl) rfl (run_store_op rfl rfl rfl hst) hXW.out ?_
   go_frame
   refine held_tk (i := 23) (dst := some 5) (v := .int .i64 (takeE x.bs x.rows ⟨kt, ki⟩)) rfl rfl (.inl ⟨rfl, fun u _ => by go_simp⟩) hXW.out ?_
   go_frame
   refine wpAnyH_done (by kernel_rfl) ?_ _
   have hvv := Lib.hid hv2
   have hlw : Hid (w.heap.size < V2.heap.size) := by have h1 := hv2.size; have h2 := x0.out.lt; show _ < _; omega
   have g1 := Lib.hid (g0.out.below hvv.out)
   have o1 := Lib.hid (o0.out.below hvv.out)
   have x1 := Lib.hid (x0.out.below hvv.out)
   have b1 := Lib.hid (b0.out.trans (hvv.out.mono b0.out.size))
   clear hst h4 hg4 hv2 hX0 hXk hXV hXW l1 q1 hap hv y0 y1 y2 y3 htk g0 o0 x0 b0
   go_wp2_with fail
   refine (lay_any g ⟨tq, tn, tc, rq, rn, rc, bq, bn, bc, mq, mn, mc, o⟩ ⟨qk, ⟨kt, ki⟩, ⟨tt, ti⟩, qv, qs, qn⟩ x lq ln lc (takeE x.bs x.rows ⟨kt, ki⟩) (takeL x.bs x.rows ⟨kt, ki⟩) V2 g1.out o1.out l2.out).mono ?_
   rintro e u3 ⟨v3, ⟨ae, aq, an, ac, ak⟩, rfl, h1, h2, h3, h4⟩
   have g3 := Lib.hid h1
   have o3 := Lib.hid h2
   have a3 := Lib.hid h3
   have x3 := Lib.hid (x1.out.kept h4 (by omega))
   have r3 := Lib.hid (grown_trans (below_grown b1.out (some g)) h4)
   clear h1 h2 h3 h4
   go_wp2_with (first
    | ((with_reducible refine wpList_store_at rfl 35 (.tmp 2) (.tmp 29) rfl (o := 0) (vs := [.int .i64 ae, .slice aq an ac, .int .i64 ak]) rfl rfl x3.out (sizeAns _ _ _) (Nat.le_refl _) (ans_one _ _ _ _ _) ?_)
       intro w9 h9 hg9
       have h9' := Lib.hid h9
       have hg9' := Lib.hid hg9
       clear h9 hg9))
   have s1 : RowV 35 w9 (w.heap.size) [.int .i64 ae, .slice aq an ac, .int .i64 ak] := h9'.out
   have m0 := s1.cell 0
   have m1 := s1.cell 1
   have m2 := s1.cell 2
   simp only [List.getElem?_cons_zero, List.getElem?_cons_succ] at m0 m1 m2
   refine bodyPost_ret (v := .agg #[.int .i64 ae, .slice aq an ac, .int .i64 ak]) (by simp [results, Try.results73, go_sem, m0, m1, m2]) rfl ?_
   exact ⟨v3, ⟨ae, aq, an, ac, ak⟩, rfl, g3.out.kept hg9'.out (by omega), o3.out.ga hg9'.out x3.out, a3.out.ga hg9'.out x3.out, Gr.own3 r3.out hg9'.out (by omega)⟩
 · obtain ⟨V1, hV⟩ : ∃ V, W.drew.alloc (.cells #[.int .i64 0, .int .u16 0, .int .i64 0, .string ⟨#[]⟩] 68) = V := ⟨_, rfl⟩
   have hbx3 := one_rowI (xs := [.int .i64 0, .int .u16 0, .int .i64 0, .string ⟨#[]⟩]) hV
   have hv1 : Below W.heap.size W V1 := (below_drew W).trans hbx3.1
   refine value_op (dst := some 4) (w' := V1) (v := .pointer (some ⟨W.heap.size, 0, none⟩)) rfl rfl rfl (by rw [← hV]; go_simp) ⟨hXk.out _ hv1, ?_⟩
   go_frame
   refine held_call (i := 15) (dst := some 22) rfl rfl (by kernel_rfl) rfl (by go_simp) (htk.out V1 hv1) ?_
   rintro e V ⟨lq, ln, lc, rfl, hl, hb, ho⟩
   have hv := Lib.hid (hv1.trans (hb.mono hv1.size))
   have hX1 := Lib.hid (hXk.out V hv.out)
   refine ⟨_, rfl, hX1.out, ?_⟩
   go_frame
   refine held_tk (i := 16) (dst := some 6) (v := .tuple #[.slice lq ln lc, .agg #[.int .i64 (takeX x.bs x.rows ⟨kt, ki⟩).key.t, .int .u16 (takeX x.bs x.rows ⟨kt, ki⟩).key.id, .int .i64 (takeX x.bs x.rows ⟨kt, ki⟩).val, .string (takeX x.bs x.rows ⟨kt, ki⟩).note], .int .i64 (takeE x.bs x.rows ⟨kt, ki⟩)]) rfl rfl (y_move (.tmp 22) rfl rfl rfl) hX1.out ?_
   go_frame
   refine held_tk (i := 17) (dst := some 23) (v := .slice lq ln lc) rfl rfl (.inl ⟨rfl, fun u _ => by go_simp⟩) hX1.out ?_
   go_frame
   refine held_tk (i := 18) (dst := some 24) (v := .agg #[.int .i64 (takeX x.bs x.rows ⟨kt, ki⟩).key.t, .int .u16 (takeX x.bs x.rows ⟨kt, ki⟩).key.id, .int .i64 (takeX x.bs x.rows ⟨kt, ki⟩).val, .string (takeX x.bs x.rows ⟨kt, ki⟩).note]) rfl rfl (.inl ⟨rfl, fun u _ => by go_simp⟩) hX1.out ?_
   go_frame
   refine held_tk (i := 19) (dst := some 25) (v := .int .i64 (takeE x.bs x.rows ⟨kt, ki⟩)) rfl rfl (.inl ⟨rfl, fun u _ => by go_simp⟩) hX1.out ?_
   go_frame
   have q1 := Lib.hid (hbx3.2.1.below hb)
   have l1 : Hid (OwnL V lq ln lc (takeL x.bs x.rows ⟨kt, ki⟩)) := ⟨ho.mono (Nat.zero_le _), hl.ok⟩
   have hap : Hid (∀ a, lq = some a → a.block ≠ W.heap.size) := fun a ha e => by
    have h1 := (ho.far a ha).1
    have h2 : V1.heap.size = W.heap.size + 1 := hbx3.2.2
    omega
   clear hl hb ho hX1 hbx3 hV hv1
   have hXV := Lib.hid (hXk.out V hv.out)
   refine held_tk (i := 21) (dst := some 3) (v := .slice lq ln lc) rfl rfl (.inl ⟨rfl, fun u _ => by go_simp⟩) hXV.out ?_
   go_frame
   obtain ⟨V2, hst, h4, hg4⟩ := run_storeVar_at (P := Try.prog) (ty := 68) (o := 0) (vs := [.int .i64 (takeX x.bs x.rows ⟨kt, ki⟩).key.t, .int .u16 (takeX x.bs x.rows ⟨kt, ki⟩).key.id, .int .i64 (takeX x.bs x.rows ⟨kt, ki⟩).val, .string (takeX x.bs x.rows ⟨kt, ki⟩).note]) q1.out (sizeRow _ _ _ _) (Nat.le_refl _) (RowD.one (takeX x.bs x.rows ⟨kt, ki⟩))
   have hv2 : Below W.heap.size W V2 := hv.out.grown hg4 hv.out.size (fun k hk => by cases hk; exact (Nat.le_refl _))
   have hXW := Lib.hid (hXk.out V2 hv2)
   have l2 : Hid (OwnL V2 lq ln lc (takeL x.bs x.rows ⟨kt, ki⟩)) := ⟨l1.out.1.kept fun a ha => hg4.block _ (l1.out.1.far a ha).2 (fun e => hap.out a ha (by simpa using e)), l1.out.2⟩
   refine held_skip (i := 22) (dst := none) (w' := V2) rfl rfl (by kernel_rfl) rfl (run_store_op rfl rfl rfl hst) hXW.out ?_
   go_frame
   refine held_tk (i := 23) (dst := some 5) (v := .int .i64 (takeE x.bs x.rows ⟨kt, ki⟩)) rfl rfl (.inl ⟨rfl, fun u _ => by go_simp⟩) hXW.out ?_
   go_frame
   refine wpAnyH_done (by kernel_rfl) ?_ _
   have hvv := Lib.hid hv2
   have hlw : Hid (w.heap.size < V2.heap.size) := by have h1 := hv2.size; have h2 := x0.out.lt; show _ < _; omega
   have g1 := Lib.hid (g0.out.below hvv.out)
   have o1 := Lib.hid (o0.out.below hvv.out)
   have x1 := Lib.hid (x0.out.below hvv.out)
   have b1 := Lib.hid (b0.out.trans (hvv.out.mono b0.out.size))
   clear hst h4 hg4 hv2 hX0 hXk hXV hXW l1 q1 hap hv y0 y1 y2 y3 htk g0 o0 x0 b0
   go_wp2_with fail
   refine (lay_any g ⟨tq, tn, tc, rq, rn, rc, bq, bn, bc, mq, mn, mc, o⟩ ⟨qk, ⟨kt, ki⟩, ⟨tt, ti⟩, qv, qs, qn⟩ x lq ln lc (takeE x.bs x.rows ⟨kt, ki⟩) (takeL x.bs x.rows ⟨kt, ki⟩) V2 g1.out o1.out l2.out).mono ?_
   rintro e u3 ⟨v3, ⟨ae, aq, an, ac, ak⟩, rfl, h1, h2, h3, h4⟩
   have g3 := Lib.hid h1
   have o3 := Lib.hid h2
   have a3 := Lib.hid h3
   have x3 := Lib.hid (x1.out.kept h4 (by omega))
   have r3 := Lib.hid (grown_trans (below_grown b1.out (some g)) h4)
   clear h1 h2 h3 h4
   go_wp2_with (first
    | ((with_reducible refine wpList_store_at rfl 35 (.tmp 2) (.tmp 29) rfl (o := 0) (vs := [.int .i64 ae, .slice aq an ac, .int .i64 ak]) rfl rfl x3.out (sizeAns _ _ _) (Nat.le_refl _) (ans_one _ _ _ _ _) ?_)
       intro w9 h9 hg9
       have h9' := Lib.hid h9
       have hg9' := Lib.hid hg9
       clear h9 hg9))
   have s1 : RowV 35 w9 (w.heap.size) [.int .i64 ae, .slice aq an ac, .int .i64 ak] := h9'.out
   have m0 := s1.cell 0
   have m1 := s1.cell 1
   have m2 := s1.cell 2
   simp only [List.getElem?_cons_zero, List.getElem?_cons_succ] at m0 m1 m2
   refine bodyPost_ret (v := .agg #[.int .i64 ae, .slice aq an ac, .int .i64 ak]) (by simp [results, Try.results73, go_sem, m0, m1, m2]) rfl ?_
   exact ⟨v3, ⟨ae, aq, an, ac, ak⟩, rfl, g3.out.kept hg9'.out (by omega), o3.out.ga hg9'.out x3.out, a3.out.ga hg9'.out x3.out, Gr.own3 r3.out hg9'.out (by omega)⟩
end Go.Proofs.Ytkdkncbccofpdaa
/-! move of ideal. -/
namespace Go.Proofs.Ytkdkncbccofpdaa
open Go.RowKit
set_option maxRecDepth 100000
theorem putR_len {bs : List BdD} {l : List RowD} {r : RowD} : (putR bs l r).length ≤ 1000 := by
 unfold putR
 by_cases h : putE bs l r = 0
 · rw [if_pos h]
   have hl : l.length ≤ 60 := by
    have h1 : chkList bs l = 0 := by
     unfold putE at h
     split at h
     · assumption
     · exact h
    exact ((okL_iff bs l).1 (chkList_zero h1).2).1
   unfold putL
   split
   · simp only [List.length_append, List.length_take, List.length_cons, List.length_drop]; omega
   · simp only [List.length_append, List.length_take, List.length_cons, List.length_drop]; omega
 · rw [if_neg h]; exact Nat.zero_le _
theorem becR_len {bs : List BdD} {l : List RowD} {k : KeyD} {er : RowD → Int} {nw : RowD → RowD} : (becR bs l k er nw).2.length ≤ 1000 := by
 unfold becR
 cases findK l k with
 | none => exact Nat.zero_le _
 | some i =>
   simp only
   cases l[i]? with
   | none => exact Nat.zero_le _
   | some d =>
     simp only
     split
     · exact putR_len
     · exact Nat.zero_le _
def movP (x : SerD) (k to : KeyD) (v : Int) : Int × List RowD :=
 if (becR x.bs x.rows k (erPlus (-v)) (nwPlus (-v))).1 = 0 then becR x.bs (becR x.bs x.rows k (erPlus (-v)) (nwPlus (-v))).2 to (erPlus v) (nwPlus v) else becR x.bs x.rows k (erPlus (-v)) (nwPlus (-v))
def movW (x : SerD) (k to : KeyD) (v : Int) : SerD × AnsD :=
 if (findB x.rows k && findB x.rows to) = true then layW x (movP x k to v) else (x, errA 4)
set_option maxHeartbeats 4000000 in
theorem mov_any (g : Nat) (tq : Option Addr) (tn tc : Nat) (rq : Option Addr) (rn rc : Nat) (bq : Option Addr) (bn bc : Nat) (mq : Option Addr) (mn mc : Nat) (o : Bool) (qk kt ki tt ti qv : Int) (qs : ByteArray) (qn : Int) (x : SerD) (w : World) (hg : RowV 94 w g [.slice tq tn tc, .slice rq rn rc, .slice bq bn bc, .slice mq mn mc, .bool o, .int .i64 qk, .int .i64 kt, .int .u16 ki, .int .i64 tt, .int .u16 ti, .int .i64 qv, .string qs, .int .i64 qn]) (hx : (⟨tq, tn, tc, rq, rn, rc, bq, bn, bc, mq, mn, mc, o⟩ : SV).Own w x) (hf : Few x) (hq : ReqOk ⟨qk, ⟨kt, ki⟩, ⟨tt, ti⟩, qv, qs, qn⟩) (hq0 : 0 ≤ qv) :
 Calls Try.prog 77 #[.pointer (some ⟨g, 0, none⟩)] w (WkPost g ⟨qk, ⟨kt, ki⟩, ⟨tt, ti⟩, qv, qs, qn⟩ (movW x ⟨kt, ki⟩ ⟨tt, ti⟩ qv) w) := by
 obtain ⟨W, hW⟩ : ∃ W, w.alloc (.cells #[.int .i64 0, .slice none 0 0, .int .i64 0] 35) = W := ⟨_, rfl⟩
 have hbx := Lib.hid (one_rowI (xs := [.int .i64 0, .slice none 0 0, .int .i64 0]) hW)
 have hlt := hg.lt
 have g0 := Lib.hid (hg.below hbx.out.1)
 have o0 := Lib.hid (hx.below hbx.out.1)
 have x0 := Lib.hid hbx.out.2.1
 have b0 := Lib.hid hbx.out.1
 have hsz := Lib.hid hbx.out.2.2
 have hrn : rn ≤ 1000000 := by have h1 : x.rows.length = rn := hx.rows.reads.len; have := hf.rows; omega
 have hqv : Hid (I64 qv ∧ I64 (-qv)) := ⟨hq.val, by have h : I64 qv := hq.val; unfold I64 at h ⊢; omega⟩
 have hneg : IntKind.i64.wrap (-qv) = -qv := IntWalk.i64_in _ (by have h : I64 qv := hq.val; unfold I64 at h; omega)
 have hs2 := sizeKey kt ki
 have hs4 := sizeKey tt ti
 clear hg hx hf hq hbx hq0
 have y0 : W.cell? ⟨g, 6, none⟩ = some (.int .i64 kt) := g0.out.cell 6
 have y1 : W.cell? ⟨g, 7, none⟩ = some (.int .u16 ki) := g0.out.cell 7
 go_enter Try.func77, Try.ntmps77
 go_wp2_with fail
 clear hW y0 y1
 refine (has_any g tq tn tc rq rn rc bq bn bc mq mn mc o qk kt ki tt ti qv qs qn x.rows kt ki W g0.out o0.out.rows.reads hrn).mono ?_
 rintro e z1 ⟨rfl, hb⟩
 have g1 := Lib.hid (g0.out.below hb)
 have o1 := Lib.hid (o0.out.below hb)
 have x1 := Lib.hid (x0.out.below hb)
 have b1 := Lib.hid (b0.out.trans (hb.mono b0.out.size))
 clear hb g0 o0 x0 b0
 obtain ⟨B, hB⟩ : ∃ B, findB x.rows ⟨kt, ki⟩ = B := ⟨_, rfl⟩
 rw [hB]
 have hB' := Lib.hid hB
 clear hB
 cases B with
 | false =>
   have hres : Hid (movW x ⟨kt, ki⟩ ⟨tt, ti⟩ qv = (x, errA 4)) := by show _ = _; unfold movW; rw [if_neg (by rw [hB'.out]; simp)]
   go_wp2_with fail
   refine (told_any 4 z1).mono ?_
   rintro e w4 ⟨rfl, hb⟩
   have gq := Lib.hid (g1.out.below hb)
   have oq := Lib.hid (o1.out.below hb)
   have xq := Lib.hid (x1.out.below hb)
   have bq_ := Lib.hid (b1.out.trans (hb.mono b1.out.size))
   clear hb
   go_wp2_with (first
    | ((with_reducible refine wpList_store_at rfl 35 (.tmp 2) (.tmp 23) rfl (o := 0) (vs := [.int .i64 4, .slice none 0 0, .int .i64 0]) rfl rfl xq.out (sizeAns _ _ _) (Nat.le_refl _) (ans_one _ _ _ _ _) ?_)
       intro w9 h9 hg9
       have h9' := Lib.hid h9
       have hg9' := Lib.hid hg9
       clear h9 hg9))
   have s1 : RowV 35 w9 (w.heap.size) [.int .i64 4, .slice none 0 0, .int .i64 0] := h9'.out
   have m0 := s1.cell 0
   have m1 := s1.cell 1
   have m2 := s1.cell 2
   simp only [List.getElem?_cons_zero, List.getElem?_cons_succ] at m0 m1 m2
   refine bodyPost_ret (v := .agg #[.int .i64 4, .slice none 0 0, .int .i64 0]) (by simp [results, Try.results77, go_sem, m0, m1, m2]) rfl ?_
   rw [hres.out]
   exact ⟨⟨tq, tn, tc, rq, rn, rc, bq, bn, bc, mq, mn, mc, o⟩, ⟨4, none, 0, 0, 0⟩, rfl, gq.out.kept hg9'.out (by omega), oq.out.ga hg9'.out xq.out, AV.Own.err _ _, Gr.own3 (below_grown bq_.out (some g)) hg9'.out (by omega)⟩
 | true =>
   have y0 : z1.cell? ⟨g, 8, none⟩ = some (.int .i64 tt) := g1.out.cell 8
   have y1 : z1.cell? ⟨g, 9, none⟩ = some (.int .u16 ti) := g1.out.cell 9
   go_wp2_with fail
   clear y0 y1
   refine (has_any g tq tn tc rq rn rc bq bn bc mq mn mc o qk kt ki tt ti qv qs qn x.rows tt ti z1 g1.out o1.out.rows.reads hrn).mono ?_
   rintro e z2 ⟨rfl, hb⟩
   have g2 := Lib.hid (g1.out.below hb)
   have o2 := Lib.hid (o1.out.below hb)
   have x2 := Lib.hid (x1.out.below hb)
   have b2 := Lib.hid (b1.out.trans (hb.mono b1.out.size))
   clear hb g1 o1 x1 b1
   obtain ⟨B, hB⟩ : ∃ B, findB x.rows ⟨tt, ti⟩ = B := ⟨_, rfl⟩
   rw [hB]
   have hC' := Lib.hid hB
   clear hB
   cases B with
   | false =>
     have hres : Hid (movW x ⟨kt, ki⟩ ⟨tt, ti⟩ qv = (x, errA 4)) := by show _ = _; unfold movW; rw [if_neg (by rw [hC'.out]; simp)]
     have g1 := g2
     have o1 := o2
     have x1 := x2
     have b1 := b2
     go_wp2_with fail
     refine (told_any 4 z2).mono ?_
     rintro e w4 ⟨rfl, hb⟩
     have gq := Lib.hid (g1.out.below hb)
     have oq := Lib.hid (o1.out.below hb)
     have xq := Lib.hid (x1.out.below hb)
     have bq_ := Lib.hid (b1.out.trans (hb.mono b1.out.size))
     clear hb
     go_wp2_with (first
      | ((with_reducible refine wpList_store_at rfl 35 (.tmp 2) (.tmp 23) rfl (o := 0) (vs := [.int .i64 4, .slice none 0 0, .int .i64 0]) rfl rfl xq.out (sizeAns _ _ _) (Nat.le_refl _) (ans_one _ _ _ _ _) ?_)
         intro w9 h9 hg9
         have h9' := Lib.hid h9
         have hg9' := Lib.hid hg9
         clear h9 hg9))
     have s1 : RowV 35 w9 (w.heap.size) [.int .i64 4, .slice none 0 0, .int .i64 0] := h9'.out
     have m0 := s1.cell 0
     have m1 := s1.cell 1
     have m2 := s1.cell 2
     simp only [List.getElem?_cons_zero, List.getElem?_cons_succ] at m0 m1 m2
     refine bodyPost_ret (v := .agg #[.int .i64 4, .slice none 0 0, .int .i64 0]) (by simp [results, Try.results77, go_sem, m0, m1, m2]) rfl ?_
     rw [hres.out]
     exact ⟨⟨tq, tn, tc, rq, rn, rc, bq, bn, bc, mq, mn, mc, o⟩, ⟨4, none, 0, 0, 0⟩, rfl, gq.out.kept hg9'.out (by omega), oq.out.ga hg9'.out xq.out, AV.Own.err _ _, Gr.own3 (below_grown bq_.out (some g)) hg9'.out (by omega)⟩
   | true =>
     have hres0 : Hid (movW x ⟨kt, ki⟩ ⟨tt, ti⟩ qv = layW x (movP x ⟨kt, ki⟩ ⟨tt, ti⟩ qv)) := by show _ = _; unfold movW; rw [if_pos (by rw [hB'.out, hC'.out]; rfl)]
     have y0 : z2.cell? ⟨g, 1, none⟩ = some (.slice rq rn rc) := g2.out.cell 1
     have y1 : z2.cell? ⟨g, 6, none⟩ = some (.int .i64 kt) := g2.out.cell 6
     have y2 : z2.cell? ⟨g, 7, none⟩ = some (.int .u16 ki) := g2.out.cell 7
     have y3 : z2.cell? ⟨g, 10, none⟩ = some (.int .i64 qv) := g2.out.cell 10
     have hpl := Lib.hid (fun u (hu : Below z2.heap.size z2 u) => plusI_any g tq tn tc rq rn rc bq bn bc mq mn mc o qk kt ki tt ti qv qs qn x.bs rq rn rc x.rows kt ki (-qv) u (g2.out.below hu) ((o2.out.sch.1.reads.sch o2.out.sch.2).below hu (Nat.le_refl _)) (o2.out.rows.reads.below hu (Nat.le_refl _)) hrn hqv.out.2)
     go_wp2
     go_region_held3 (fun u => u.cell? ⟨g, 1, none⟩ = some (.slice rq rn rc) ∧ u.cell? ⟨g, 6, none⟩ = some (.int .i64 kt) ∧ u.cell? ⟨g, 7, none⟩ = some (.int .u16 ki) ∧ u.cell? ⟨g, 10, none⟩ = some (.int .i64 qv) ∧ Below z2.heap.size z2 u)
      (first | exact ⟨y0, y1, y2, y3, below_drew _⟩ | (go_split_ands; exact ⟨cell_keeps hq0.out (Nat.le_refl _) (by assumption), cell_keeps hq0.out (Nat.le_refl _) (by assumption), cell_keeps hq0.out (Nat.le_refl _) (by assumption), cell_keeps hq0.out (Nat.le_refl _) (by assumption), below_step hq0.out (by assumption)⟩) | go_keep)
      (first | (go_at_call 93; refine (hpl.out _ (by go_split_ands; first | assumption | exact below_drew _)).mono ?_; rintro e z4 ⟨lq, ln, lc, rfl, hl, hb⟩; have hq0 := Lib.hid hb; have l4 := Lib.hid hl; clear hb))
     have hv4 : Hid (Below z2.heap.size z2 z4) := by
      show Below _ _ _
      go_split_ands
      assumption
     clear y0 y1 y2 y3
     have g4 := Lib.hid (g2.out.below hv4.out)
     have o4 := Lib.hid (o2.out.below hv4.out)
     have x4 := Lib.hid (x2.out.below hv4.out)
     have b4 := Lib.hid (b2.out.trans (hv4.out.mono b2.out.size))
     clear g2 o2 x2 b2
     have hlen : ln ≤ 1000000 := by have h1 : (becR x.bs x.rows ⟨kt, ki⟩ (erPlus (-qv)) (nwPlus (-qv))).2.length = ln := l4.out.reads.len; have h2 : (becR x.bs x.rows ⟨kt, ki⟩ (erPlus (-qv)) (nwPlus (-qv))).2.length ≤ 1000 := becR_len; omega
     obtain ⟨er, her⟩ : ∃ er, (becR x.bs x.rows ⟨kt, ki⟩ (erPlus (-qv)) (nwPlus (-qv))).1 = er := ⟨_, rfl⟩
     obtain ⟨lr, hlr⟩ : ∃ lr, (becR x.bs x.rows ⟨kt, ki⟩ (erPlus (-qv)) (nwPlus (-qv))).2 = lr := ⟨_, rfl⟩
     rw [her]
     rw [hlr] at l4
     have her' := Lib.hid her
     have hlr' := Lib.hid hlr
     clear her hlr
     by_cases he : er = 0
     · subst he
       have hres : Hid (movW x ⟨kt, ki⟩ ⟨tt, ti⟩ qv = layW x (becR x.bs lr ⟨tt, ti⟩ (erPlus qv) (nwPlus qv))) := by show _ = _; rw [hres0.out]; unfold movP; rw [if_pos her'.out, hlr'.out]
       have y0 : z4.cell? ⟨g, 8, none⟩ = some (.int .i64 tt) := g4.out.cell 8
       have y1 : z4.cell? ⟨g, 9, none⟩ = some (.int .u16 ti) := g4.out.cell 9
       have y2 : z4.cell? ⟨g, 10, none⟩ = some (.int .i64 qv) := g4.out.cell 10
       have hpl := Lib.hid (fun u (hu : Below z4.heap.size z4 u) => plusI_any g tq tn tc rq rn rc bq bn bc mq mn mc o qk kt ki tt ti qv qs qn x.bs lq ln lc lr tt ti qv u (g4.out.below hu) ((o4.out.sch.1.reads.sch o4.out.sch.2).below hu (Nat.le_refl _)) (l4.out.reads.below hu (Nat.le_refl _)) hlen hqv.out.1)
       go_wp2
       go_region_held3 (fun u => u.cell? ⟨g, 8, none⟩ = some (.int .i64 tt) ∧ u.cell? ⟨g, 9, none⟩ = some (.int .u16 ti) ∧ u.cell? ⟨g, 10, none⟩ = some (.int .i64 qv) ∧ Below z4.heap.size z4 u)
        (first | exact ⟨y0, y1, y2, below_drew _⟩ | (go_split_ands; exact ⟨cell_keeps hq0.out (Nat.le_refl _) (by assumption), cell_keeps hq0.out (Nat.le_refl _) (by assumption), cell_keeps hq0.out (Nat.le_refl _) (by assumption), below_step hq0.out (by assumption)⟩) | go_keep)
        (first | (go_at_call 93; refine (hpl.out _ (by go_split_ands; first | assumption | exact below_drew _)).mono ?_; rintro e z5 ⟨jq, jn, jc, rfl, hl, hb⟩; have hq0 := Lib.hid hb; have l5 := Lib.hid hl; clear hb))
       have hv5 : Hid (Below z4.heap.size z4 z5) := by
        show Below _ _ _
        go_split_ands
        assumption
       clear y0 y1 y2
       have g5 := Lib.hid (g4.out.below hv5.out)
       have o5 := Lib.hid (o4.out.below hv5.out)
       have x5 := Lib.hid (x4.out.below hv5.out)
       have b5 := Lib.hid (b4.out.trans (hv5.out.mono b4.out.size))
       clear g4 o4 x4 b4
       go_wp2_with fail
       refine (lay_any g ⟨tq, tn, tc, rq, rn, rc, bq, bn, bc, mq, mn, mc, o⟩ ⟨qk, ⟨kt, ki⟩, ⟨tt, ti⟩, qv, qs, qn⟩ x jq jn jc ((becR x.bs lr ⟨tt, ti⟩ (erPlus qv) (nwPlus qv)).1) ((becR x.bs lr ⟨tt, ti⟩ (erPlus qv) (nwPlus qv)).2) z5 g5.out o5.out l5.out).mono ?_
       rintro e u3 ⟨v3, ⟨ae, aq, an, ac, ak⟩, rfl, h1, h2, h3, h4⟩
       have g3 := Lib.hid h1
       have o3 := Lib.hid h2
       have a3 := Lib.hid h3
       have x3 := Lib.hid (x5.out.kept h4 (by omega))
       have r3 := Lib.hid (grown_trans (below_grown b5.out (some g)) h4)
       clear h1 h2 h3 h4
       go_wp2_with (first
        | ((with_reducible refine wpList_store_at rfl 35 (.tmp 2) (.tmp 66) rfl (o := 0) (vs := [.int .i64 ae, .slice aq an ac, .int .i64 ak]) rfl rfl x3.out (sizeAns _ _ _) (Nat.le_refl _) (ans_one _ _ _ _ _) ?_)
           intro w9 h9 hg9
           have h9' := Lib.hid h9
           have hg9' := Lib.hid hg9
           clear h9 hg9))
       have s1 : RowV 35 w9 (w.heap.size) [.int .i64 ae, .slice aq an ac, .int .i64 ak] := h9'.out
       have m0 := s1.cell 0
       have m1 := s1.cell 1
       have m2 := s1.cell 2
       simp only [List.getElem?_cons_zero, List.getElem?_cons_succ] at m0 m1 m2
       refine bodyPost_ret (v := .agg #[.int .i64 ae, .slice aq an ac, .int .i64 ak]) (by simp [results, Try.results77, go_sem, m0, m1, m2]) rfl ?_
       rw [hres.out]
       exact ⟨v3, ⟨ae, aq, an, ac, ak⟩, rfl, g3.out.kept hg9'.out (by omega), o3.out.ga hg9'.out x3.out, a3.out.ga hg9'.out x3.out, Gr.own3 r3.out hg9'.out (by omega)⟩
     · have he1 : (er == 0) = false := by simpa using he
       have hres : Hid (movW x ⟨kt, ki⟩ ⟨tt, ti⟩ qv = layW x (er, lr)) := by show _ = _; rw [hres0.out]; unfold movP; rw [if_neg (by rw [her'.out]; exact he), show becR x.bs x.rows ⟨kt, ki⟩ (erPlus (-qv)) (nwPlus (-qv)) = (er, lr) from Prod.ext her'.out hlr'.out]
       go_wp2_with fail
       clear he he1
       refine (lay_any g ⟨tq, tn, tc, rq, rn, rc, bq, bn, bc, mq, mn, mc, o⟩ ⟨qk, ⟨kt, ki⟩, ⟨tt, ti⟩, qv, qs, qn⟩ x lq ln lc (er) (lr) z4 g4.out o4.out l4.out).mono ?_
       rintro e u3 ⟨v3, ⟨ae, aq, an, ac, ak⟩, rfl, h1, h2, h3, h4⟩
       have g3 := Lib.hid h1
       have o3 := Lib.hid h2
       have a3 := Lib.hid h3
       have x3 := Lib.hid (x4.out.kept h4 (by omega))
       have r3 := Lib.hid (grown_trans (below_grown b4.out (some g)) h4)
       clear h1 h2 h3 h4
       go_wp2_with (first
        | ((with_reducible refine wpList_store_at rfl 35 (.tmp 2) (.tmp 66) rfl (o := 0) (vs := [.int .i64 ae, .slice aq an ac, .int .i64 ak]) rfl rfl x3.out (sizeAns _ _ _) (Nat.le_refl _) (ans_one _ _ _ _ _) ?_)
           intro w9 h9 hg9
           have h9' := Lib.hid h9
           have hg9' := Lib.hid hg9
           clear h9 hg9))
       have s1 : RowV 35 w9 (w.heap.size) [.int .i64 ae, .slice aq an ac, .int .i64 ak] := h9'.out
       have m0 := s1.cell 0
       have m1 := s1.cell 1
       have m2 := s1.cell 2
       simp only [List.getElem?_cons_zero, List.getElem?_cons_succ] at m0 m1 m2
       refine bodyPost_ret (v := .agg #[.int .i64 ae, .slice aq an ac, .int .i64 ak]) (by simp [results, Try.results77, go_sem, m0, m1, m2]) rfl ?_
       rw [hres.out]
       exact ⟨v3, ⟨ae, aq, an, ac, ak⟩, rfl, g3.out.kept hg9'.out (by omega), o3.out.ga hg9'.out x3.out, a3.out.ga hg9'.out x3.out, Gr.own3 r3.out hg9'.out (by omega)⟩
end Go.Proofs.Ytkdkncbccofpdaa
