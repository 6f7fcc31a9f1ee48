/- What transactions come to, request by request. -/
import Derived.Test.YtkdkncbccofpdaaQ11
import Derived.StillTailTactics
namespace Go.Proofs.Ytkdkncbccofpdaa
open Go.RowKit
set_option maxRecDepth 100000
set_option maxHeartbeats 4000000 in
theorem plusI_any (g : Nat) (tq : Option Addr) (tn tc : Nat) (rq : Option Addr) (rn rc : Nat) (bq : Option Addr) (bn bc : Nat) (mq : Option Addr) (mn mc : Nat) (o : Bool) (qk kt ki tt ti qv : Int) (qs : ByteArray) (qn : Int) (bs : List BdD) (q : Option Addr) (n c : Nat) (l : List RowD) (t id vb : Int) (w : World) (hg : RowV 94 w g [.slice tq tn tc, .slice rq rn rc, .slice bq bn bc, .slice mq mn mc, .bool o, .int .i64 qk, .int .i64 kt, .int .u16 ki, .int .i64 tt, .int .u16 ti, .int .i64 qv, .string qs, .int .i64 qn]) (hs : SchOn w tq tn tc bs) (hr : RowsOn w q n c l) (hn : n ≤ 1000000) (hvb : I64 vb) :
 Calls Try.prog 93 #[.pointer (some ⟨g, 0, none⟩), .slice q n c, .agg #[.int .i64 t, .int .u16 id], .int .i64 vb] w (BcPost bs l ⟨t, id⟩ (erPlus vb) (nwPlus vb) w) := by
 obtain ⟨W, hW⟩ : ∃ W, (w.alloc (.cells #[.int .i64 t, .int .u16 id] 28)).alloc (.cells #[.int .i64 vb] 2) = W := ⟨_, rfl⟩
 have hbx := Lib.hid (two_rowsI (xs := [.int .i64 t, .int .u16 id]) (ys := [.int .i64 vb]) hW)
 have hs2 := sizeKey t id
 have hbc := Lib.hid (become_plus g (w.heap.size + 1) tq tn tc rq rn rc bq bn bc mq mn mc o qk kt ki tt ti qv qs qn bs q n c l t id W (hg.below hbx.out.1) (hs.below hbx.out.1 (Nat.le_refl _)) (hr.below hbx.out.1 (Nat.le_refl _)) hn vb (hbx.out.2.2.1.cell 0) hvb)
 clear hg hs hr
 go_enter Try.func93, Try.ntmps93
 go_wp2_with (first
  | (with_reducible refine wpList_load_at rfl 28 (.tmp 6) rfl Try.underlying28 rfl hs2 rfl hbx.out.2.1.boxed.all ?_)
  | (go_at_call 90
     refine hbc.out.mono ?_
     rintro e w1 ⟨q', m', c', rfl, h1, h2⟩
     have h1' := Lib.hid h1
     have h2' := Lib.hid (hbx.out.1.trans (h2.mono hbx.out.1.size))
     clear h1 h2))
 go_ret2
 exact ⟨q', m', c', rfl, h1'.out, h2'.out⟩
/-- what variables of the call's own turn does not count -/
theorem Gr.own3 {w u v : World} {g b : Nat} (h : w.grownBy u (some g)) (hg : u.grownBy v (some b)) (hb : w.heap.size ≤ b) : w.grownBy v (some g) :=
 ⟨hg.os.trans h.os, hg.tape.trans h.tape, hg.output.trans h.output, Nat.le_trans h.size hg.size, fun k hk hne => (hg.block k (Nat.lt_of_lt_of_le hk h.size) (fun e => by have := Option.some.inj e; omega)).trans (h.block k hk hne)⟩
theorem x_gone {b : Bool} {X : Prop} (h : b = true) (e : b = false) : X := by rw [h] at e; cases e
/-- the rows, and the answer, of what is laid -/
def layW (x : SerD) (p : Int × List RowD) : SerD × AnsD := if p.1 = 0 then ({ x with rows := p.2 }, ⟨0, [], 0⟩) else (x, errA p.1)
def WkPost (g : Nat) (q : ReqD) (r : SerD × AnsD) (w : World) (e : Ending) (w' : World) : Prop :=
 ∃ (v : SV) (u : AV), e = .returned (.agg u.cells.toArray) ∧ RowV 94 w' g (v.cells ++ q.cells) ∧ v.Own w' r.1 ∧ u.Own w' r.2 ∧ w.grownBy w' (some g)
set_option maxHeartbeats 4000000 in
theorem lay_err (g : Nat) (q : Option Addr) (n c : Nat) (er : Int) (w : World) (he : er ≠ 0) :
 Calls Try.prog 87 #[.pointer (some ⟨g, 0, none⟩), .slice q n c, .int .i64 er] w (fun e w' => e = .returned (.agg #[.int .i64 er, .slice none 0 0, .int .i64 0]) ∧ Below w.heap.size w w') := by
 obtain ⟨W, hW⟩ : ∃ W, w.alloc (.cells #[.int .i64 0, .slice none 0 0, .int .i64 0] 35) = W := ⟨_, rfl⟩
 have hbx := Lib.hid (one_rowI (xs := [.int .i64 0, .slice none 0 0, .int .i64 0]) hW)
 have he1 : (er == 0) = false := by simpa using he
 go_enter Try.func87, Try.ntmps87
 go_wp2_with fail
 clear hW he he1
 refine (told_any er W).mono ?_
 rintro e w1 ⟨rfl, hb⟩
 have hs := sizeAns (.int .i64 er) (.slice none 0 0) (.int .i64 0)
 have x3 := Lib.hid (hbx.out.2.1.below hb)
 have b3 := Lib.hid (hbx.out.1.trans (hb.mono hbx.out.1.size))
 clear hb
 go_wp2_with (first
  | ((with_reducible refine wpList_store_at rfl 35 (.tmp 6) (.tmp 15) rfl (o := 0) (vs := [.int .i64 er, .slice none 0 0, .int .i64 0]) rfl rfl x3.out hs (Nat.le_refl _) (ans_one _ _ _ _ _) ?_)
     intro w9 h9 hg9
     have h9' := Lib.hid h9
     have hg9' := Lib.hid hg9
     clear h9 hg9))
 have s1 : RowV 35 w9 w.heap.size [.int .i64 er, .slice none 0 0, .int .i64 0] := h9'.out
 have m0 := s1.cell 0
 have m1 := s1.cell 1
 have m2 := s1.cell 2
 simp only [List.getElem?_cons_zero, List.getElem?_cons_succ] at m0 m1 m2
 refine bodyPost_ret (v := .agg #[.int .i64 er, .slice none 0 0, .int .i64 0]) (by simp [results, Try.results87, go_sem, m0, m1, m2]) rfl ?_
 exact ⟨rfl, b3.out.grown hg9'.out b3.out.size (fun k hk => by cases hk; exact Nat.le_refl _)⟩
theorem OwnL.gw {w w' : World} {g : Nat} {q : Option Addr} {n c : Nat} {l : List RowD} {cs : List Value} (h : OwnL w q n c l) (hg : w.grownBy w' (some g)) (hr : RowV 94 w g cs) : OwnL w' q n c l := h.gt hg hr (by decide)
theorem SV.Own.gw {w w' : World} {g : Nat} {v : SV} {x : SerD} {cs : List Value} (h : v.Own w x) (hg : w.grownBy w' (some g)) (hr : RowV 94 w g cs) : v.Own w' x := h.gt hg hr (by decide) (by decide) (by decide)
theorem SV.Own.ga {w w' : World} {g : Nat} {v : SV} {x : SerD} {cs : List Value} (h : v.Own w x) (hg : w.grownBy w' (some g)) (hr : RowV 35 w g cs) : v.Own w' x := h.gt hg hr (by decide) (by decide) (by decide)
theorem SV.Own.gs {w w' : World} {g : Nat} {v : SV} {x : SerD} {cs : List Value} (h : v.Own w x) (hg : w.grownBy w' (some g)) (hr : RowV 46 w g cs) : v.Own w' x := h.gt hg hr (by decide) (by decide) (by decide)
theorem AV.Own.ga {w w' : World} {g : Nat} {v : AV} {x : AnsD} {cs : List Value} (h : v.Own w x) (hg : w.grownBy w' (some g)) (hr : RowV 35 w g cs) : v.Own w' x := h.gt hg hr (by decide)
theorem AV.Own.gs {w w' : World} {g : Nat} {v : AV} {x : AnsD} {cs : List Value} (h : v.Own w x) (hg : w.grownBy w' (some g)) (hr : RowV 46 w g cs) : v.Own w' x := h.gt hg hr (by decide)
theorem AV.Own.err (e : Int) (w : World) : (⟨e, none, 0, 0, 0⟩ : AV).Own w (errA e) := ⟨rfl, OwnL.none_ _, rfl⟩
theorem lay_any (g : Nat) (v : SV) (q : ReqD) (x : SerD) (lq : Option Addr) (n c : Nat) (er : Int) (l : List RowD) (w : World) (hg : RowV 94 w g (v.cells ++ q.cells)) (hx : v.Own w x) (hl : OwnL w lq n c l) :
 Calls Try.prog 87 #[.pointer (some ⟨g, 0, none⟩), .slice lq n c, .int .i64 er] w (WkPost g q (layW x (er, l)) w) := by
 by_cases he : er = 0
 · subst he
   refine (lay_ok g v.tq v.tn v.tc v.rq v.rn v.rc v.bq v.bn v.bc v.mq v.mn v.mc v.o q.k q.key.t q.key.id q.to.t q.to.id q.val q.note q.n lq n c w hg).mono ?_
   rintro e w' ⟨rfl, h1, h2⟩
   exact ⟨{ v with rq := lq, rn := n, rc := c }, ⟨0, none, 0, 0, 0⟩, rfl, h1, ⟨(hx.gw h2 hg).sch, hl.gw h2 hg, (hx.gw h2 hg).begun, (hx.gw h2 hg).marks, hx.over⟩, AV.Own.err 0 _, h2⟩
 · refine (lay_err g lq n c er w he).mono ?_
   rintro e w' ⟨rfl, h1⟩
   rw [show layW x (er, l) = (x, errA er) by unfold layW; rw [if_neg he]]
   exact ⟨v, ⟨er, none, 0, 0, 0⟩, rfl, hg.below h1, hx.below h1, AV.Own.err er _, below_grown h1 _⟩
set_option maxHeartbeats 4000000 in
theorem note_any (g : Nat) (tq : Option Addr) (tn tc : Nat) (rq : Option Addr) (rn rc : Nat) (bq : Option Addr) (bn bc : Nat) (mq : Option Addr) (mn mc : Nat) (o : Bool) (qk kt ki tt ti qv : Int) (qs : ByteArray) (qn : Int) (x : SerD) (w : World) (hg : RowV 94 w g [.slice tq tn tc, .slice rq rn rc, .slice bq bn bc, .slice mq mn mc, .bool o, .int .i64 qk, .int .i64 kt, .int .u16 ki, .int .i64 tt, .int .u16 ti, .int .i64 qv, .string qs, .int .i64 qn]) (hx : (⟨tq, tn, tc, rq, rn, rc, bq, bn, bc, mq, mn, mc, o⟩ : SV).Own w x) (hf : Few x) (hq : ReqOk ⟨qk, ⟨kt, ki⟩, ⟨tt, ti⟩, qv, qs, qn⟩) :
 Calls Try.prog 74 #[.pointer (some ⟨g, 0, none⟩)] w (WkPost g ⟨qk, ⟨kt, ki⟩, ⟨tt, ti⟩, qv, qs, qn⟩ (layW x (becR x.bs x.rows ⟨kt, ki⟩ erZ (nwNote qs))) w) := by
 obtain ⟨W, hW⟩ : ∃ W, (w.alloc (.cells #[.pointer (some ⟨g, 0, none⟩)] 92)).alloc (.cells #[.int .i64 0, .slice none 0 0, .int .i64 0] 35) = W := ⟨_, rfl⟩
 have hbx := Lib.hid (two_rowsI (xs := [.pointer (some ⟨g, 0, none⟩)]) (ys := [.int .i64 0, .slice none 0 0, .int .i64 0]) hW)
 have hlt := hg.lt
 have g0 := Lib.hid (hg.below hbx.out.1)
 have o0 := Lib.hid (hx.below hbx.out.1)
 have x0 := Lib.hid hbx.out.2.2.1
 have b0 := Lib.hid hbx.out.1
 have y0 : W.cell? ⟨w.heap.size, 0, none⟩ = some (.pointer (some ⟨g, 0, none⟩)) := hbx.out.2.1.cell 0
 have y1 : W.cell? ⟨g, 1, none⟩ = some (.slice rq rn rc) := g0.out.cell 1
 have y2 : W.cell? ⟨g, 6, none⟩ = some (.int .i64 kt) := g0.out.cell 6
 have y3 : W.cell? ⟨g, 7, none⟩ = some (.int .u16 ki) := g0.out.cell 7
 have hrn : rn ≤ 1000000 := by have h1 : x.rows.length = rn := hx.rows.reads.len; have := hf.rows; omega
 have hqn := Lib.hid hq.note
 have hs2 := sizeKey kt ki
 clear hg hx hf hq hbx
 go_enter Try.func74, Try.ntmps74
 go_wp2
 refine wp_region_x (by kernel_rfl) 16 (fun u => u.cell? ⟨w.heap.size, 0, none⟩ = some (.pointer (some ⟨g, 0, none⟩)) ∧ u.cell? ⟨g, 1, none⟩ = some (.slice rq rn rc) ∧ u.cell? ⟨g, 6, none⟩ = some (.int .i64 kt) ∧ u.cell? ⟨g, 7, none⟩ = some (.int .u16 ki)) ?_
 change wpAnyX _ _ _ _ _ _ _ _ _ (World.drew W)
 have hX0 : Hid ((fun u : World => u.cell? ⟨w.heap.size, 0, none⟩ = some (.pointer (some ⟨g, 0, none⟩)) ∧ u.cell? ⟨g, 1, none⟩ = some (.slice rq rn rc) ∧ u.cell? ⟨g, 6, none⟩ = some (.int .i64 kt) ∧ u.cell? ⟨g, 7, none⟩ = some (.int .u16 ki)) (W.drew)) := ⟨y0, y1, y2, y3⟩
 refine x_tk (i := 0) (dst := some 3) (v := .pointer (some ⟨g, 0, none⟩)) rfl rfl (.inl ⟨rfl, fun u hu => by have y0 := hu.1; go_simp⟩) hX0.out ?_
 go_frame
 refine x_tk (i := 1) (dst := some 4) (v := .pointer (some ⟨g, 0, none⟩)) rfl rfl (.inl ⟨rfl, fun u hu => by have y0 := hu.1; go_simp⟩) hX0.out ?_
 go_frame
 refine x_tk (i := 2) (dst := some 5) (v := .pointer (some ⟨g, 0, none⟩)) rfl rfl (.inl ⟨rfl, fun u hu => by have y0 := hu.1; go_simp⟩) hX0.out ?_
 go_frame
 refine x_pu (i := 3) (dst := some 6) (v := .pointer (some ⟨g, 0, none⟩)) rfl rfl (.inl ⟨rfl, fun u _ => by go_simp⟩) (fun _ => hX0.out) ?_
 go_frame
 refine x_pu (i := 4) (dst := some 7) (v := .pointer (some ⟨g, 0, none⟩)) rfl rfl (.inl ⟨rfl, fun u _ => by go_simp⟩) (fun _ => hX0.out) ?_
 go_frame
 refine x_pu (i := 5) (dst := some 8) (v := .pointer (some ⟨g, 1, none⟩)) rfl rfl (.inl ⟨rfl, fun u _ => by go_simp⟩) (fun _ => hX0.out) ?_
 go_frame
 refine x_tk (i := 6) (dst := some 9) (v := .slice rq rn rc) rfl rfl (.inl ⟨rfl, fun u hu => by have y0 := hu.2.1; go_simp⟩) hX0.out ?_
 go_frame
 refine x_tk (i := 7) (dst := some 10) (v := .pointer (some ⟨g, 0, none⟩)) rfl rfl (.inl ⟨rfl, fun u hu => by have y0 := hu.1; go_simp⟩) hX0.out ?_
 go_frame
 refine x_pu (i := 8) (dst := some 11) (v := .pointer (some ⟨g, 0, none⟩)) rfl rfl (.inl ⟨rfl, fun u _ => by go_simp⟩) (fun _ => hX0.out) ?_
 go_frame
 refine x_pu (i := 9) (dst := some 12) (v := .pointer (some ⟨g, 5, none⟩)) rfl rfl (.inl ⟨rfl, fun u _ => by go_simp⟩) (fun _ => hX0.out) ?_
 go_frame
 refine x_pu (i := 10) (dst := some 13) (v := .pointer (some ⟨g, 6, none⟩)) rfl rfl (.inl ⟨rfl, fun u _ => by go_simp⟩) (fun _ => hX0.out) ?_
 go_frame
 refine x_tk (i := 11) (dst := some 14) (v := .agg #[.int .i64 kt, .int .u16 ki]) rfl rfl (.inl ⟨rfl, fun u hu => by have y0 := hu.2.2.1; have y1 := hu.2.2.2; go_simp⟩) hX0.out ?_
 go_frame
 refine x_pu (i := 12) (dst := some 15) (v := .func (.func 91) #[] #[.pointer (some ⟨w.heap.size, 0, none⟩)]) rfl rfl (.inl ⟨rfl, fun u _ => by go_simp⟩) (fun _ => hX0.out) ?_
 go_frame
 refine x_call (i := 13) (dst := some 16) rfl rfl (by kernel_rfl) rfl (by go_simp) (become_note g w.heap.size tq tn tc rq rn rc bq bn bc mq mn mc o qk kt ki tt ti qv qs qn x.bs rq rn rc x.rows kt ki W.drew (g0.out.below (below_drew _)) ((o0.out.sch.1.reads.sch o0.out.sch.2).below (below_drew _) (Nat.le_refl _)) (o0.out.rows.reads.below (below_drew _) (Nat.le_refl _)) hrn hX0.out.1 hqn.out) ?_
 rintro e u1 ⟨lq, ln, lc, rfl, hl, hb⟩
 have hb' : Below W.heap.size W u1 := (below_drew W).trans hb
 have g1 := Lib.hid (g0.out.below hb')
 have o1 := Lib.hid (o0.out.below hb')
 have x1 := Lib.hid (x0.out.below hb')
 have l1 := Lib.hid hl
 have b1 := Lib.hid (b0.out.trans (hb'.mono b0.out.size))
 have hX1 : Hid ((fun u : World => u.cell? ⟨w.heap.size, 0, none⟩ = some (.pointer (some ⟨g, 0, none⟩)) ∧ u.cell? ⟨g, 1, none⟩ = some (.slice rq rn rc) ∧ u.cell? ⟨g, 6, none⟩ = some (.int .i64 kt) ∧ u.cell? ⟨g, 7, none⟩ = some (.int .u16 ki)) u1) := ⟨cell_keeps hb' (Nat.le_refl _) y0, cell_keeps hb' (Nat.le_refl _) y1, cell_keeps hb' (Nat.le_refl _) y2, cell_keeps hb' (Nat.le_refl _) y3⟩
 clear hb hb' hl y0 y1 y2 y3
 refine ⟨_, rfl, fun _ => hX1.out, ?_⟩
 go_frame
 refine x_pu (i := 14) (dst := some 17) (v := .slice lq ln lc) rfl rfl (.inl ⟨rfl, fun u _ => by go_simp⟩) (fun _ => hX1.out) ?_
 go_frame
 refine x_pu (i := 15) (dst := some 18) (v := .int .i64 (becR x.bs x.rows ⟨kt, ki⟩ erZ (nwNote qs)).1) rfl rfl (.inl ⟨rfl, fun u _ => by go_simp⟩) (fun _ => hX1.out) ?_
 go_frame
 refine x_call (i := 16) (dst := some 19) rfl rfl (by kernel_rfl) rfl (by go_simp) (lay_any g ⟨tq, tn, tc, rq, rn, rc, bq, bn, bc, mq, mn, mc, o⟩ ⟨qk, ⟨kt, ki⟩, ⟨tt, ti⟩, qv, qs, qn⟩ x lq ln lc (becR x.bs x.rows ⟨kt, ki⟩ erZ (nwNote qs)).1 (becR x.bs x.rows ⟨kt, ki⟩ erZ (nwNote qs)).2 u1 g1.out o1.out l1.out) ?_
 rintro e u3 ⟨v3, ⟨ae, aq, an, ac, ak⟩, rfl, h1, h2, h3, h4⟩
 have g3 := Lib.hid h1
 have o3 := Lib.hid h2
 have a3 := Lib.hid h3
 have x3 := Lib.hid (x1.out.kept h4 (by omega))
 have r3 := Lib.hid (grown_trans (below_grown b1.out (some g)) h4)
 clear h1 h2 h3 h4
 refine ⟨_, rfl, x_gone (by kernel_rfl), ?_⟩
 go_frame
 obtain ⟨u9, hst, h9, hg9⟩ := run_storeVar_at (P := Try.prog) (ty := 35) (o := 0) (vs := [.int .i64 ae, .slice aq an ac, .int .i64 ak]) x3.out (sizeAns _ _ _) (Nat.le_refl _) (ans_one _ _ _ _ _)
 refine x_skip (i := 17) (dst := none) (w' := u9) rfl rfl (by kernel_rfl) rfl (run_store_op rfl rfl rfl hst) (x_gone (by kernel_rfl)) ?_
 go_frame
 refine x_done (by kernel_rfl) ?_
 have h9' := Lib.hid h9
 have hg9' := Lib.hid hg9
 clear hst h9 hg9 hX0 hX1
 go_wp2
 have s1 : RowV 35 u9 (w.heap.size + 1) [.int .i64 ae, .slice aq an ac, .int .i64 ak] := h9'.out
 have m0 := s1.cell 0
 have m1 := s1.cell 1
 have m2 := s1.cell 2
 simp only [List.getElem?_cons_zero, List.getElem?_cons_succ] at m0 m1 m2
 refine bodyPost_ret (v := .agg #[.int .i64 ae, .slice aq an ac, .int .i64 ak]) (by simp [results, Try.results74, go_sem, m0, m1, m2]) rfl ?_
 exact ⟨v3, ⟨ae, aq, an, ac, ak⟩, rfl, g3.out.kept hg9'.out (by omega), o3.out.ga hg9'.out x3.out, a3.out.ga hg9'.out x3.out, Gr.own3 r3.out hg9'.out (by omega)⟩
end Go.Proofs.Ytkdkncbccofpdaa
/-! read, scan, set and add of ideal. -/
namespace Go.Proofs.Ytkdkncbccofpdaa
open Go.RowKit
set_option maxRecDepth 100000
/-- what is asked of one row: read -/
def readW (x : SerD) (k : KeyD) : SerD × AnsD := match findK x.rows k with
 | none => (x, errA 4)
 | some i => match x.rows[i]? with
   | none => (x, errA 4)
   | some r => (x, ⟨0, [r], 0⟩)
theorem OwnL.single {w : World} {g : Nat} {r : RowD} (h : RowV 68 w g r.cells) (hok : RowOk r) : OwnL w (some ⟨g, 0, none⟩) 1 1 [r] :=
 ⟨OwnR.mk (Nat.zero_le _) h (Nat.le_refl _) (by unfold maxLen; omega) rfl (by simp [cellsR, RowD.cells]) rfl, fun x hx => by rw [List.mem_singleton.1 hx]; exact hok⟩
set_option maxHeartbeats 4000000 in
theorem read_any (g : Nat) (tq : Option Addr) (tn tc : Nat) (rq : Option Addr) (rn rc : Nat) (bq : Option Addr) (bn bc : Nat) (mq : Option Addr) (mn mc : Nat) (o : Bool) (qk kt ki tt ti qv : Int) (qs : ByteArray) (qn : Int) (x : SerD) (w : World) (hg : RowV 94 w g [.slice tq tn tc, .slice rq rn rc, .slice bq bn bc, .slice mq mn mc, .bool o, .int .i64 qk, .int .i64 kt, .int .u16 ki, .int .i64 tt, .int .u16 ti, .int .i64 qv, .string qs, .int .i64 qn]) (hx : (⟨tq, tn, tc, rq, rn, rc, bq, bn, bc, mq, mn, mc, o⟩ : SV).Own w x) (hf : Few x) :
 Calls Try.prog 70 #[.pointer (some ⟨g, 0, none⟩)] w (WkPost g ⟨qk, ⟨kt, ki⟩, ⟨tt, ti⟩, qv, qs, qn⟩ (readW x ⟨kt, ki⟩) w) := by
 obtain ⟨W, hW⟩ : ∃ W, w.alloc (.cells #[.int .i64 0, .slice none 0 0, .int .i64 0] 35) = W := ⟨_, rfl⟩
 have hbx := Lib.hid (one_rowI (xs := [.int .i64 0, .slice none 0 0, .int .i64 0]) hW)
 have hlt := hg.lt
 have g0 := Lib.hid (hg.below hbx.out.1)
 have o0 := Lib.hid (hx.below hbx.out.1)
 have x0 := Lib.hid hbx.out.2.1
 have b0 := Lib.hid hbx.out.1
 have hsz := Lib.hid hbx.out.2.2
 have hrn : rn ≤ 1000000 := by have h1 : x.rows.length = rn := hx.rows.reads.len; have := hf.rows; omega
 have y0 : W.cell? ⟨g, 1, none⟩ = some (.slice rq rn rc) := g0.out.cell 1
 have y1 : W.cell? ⟨g, 6, none⟩ = some (.int .i64 kt) := g0.out.cell 6
 have y2 : W.cell? ⟨g, 7, none⟩ = some (.int .u16 ki) := g0.out.cell 7
 have hcn := Lib.hid (fun u (hu : Below W.heap.size W u) => find_any rq rn rc x.rows kt ki u (o0.out.rows.reads.below hu (Nat.le_refl _)) (by omega))
 have hs2 := sizeKey kt ki
 clear hg hx hf hbx
 go_enter Try.func70, Try.ntmps70
 go_wp2
 go_region_held3 (fun u => u.cell? ⟨g, 1, none⟩ = some (.slice rq rn rc) ∧ u.cell? ⟨g, 6, none⟩ = some (.int .i64 kt) ∧ u.cell? ⟨g, 7, none⟩ = some (.int .u16 ki) ∧ Below W.heap.size W u)
  (first | exact ⟨y0, y1, y2, below_drew _⟩ | (go_split_ands; exact ⟨cell_keeps hq0.out (Nat.le_refl _) (by assumption), cell_keeps hq0.out (Nat.le_refl _) (by assumption), cell_keeps hq0.out (Nat.le_refl _) (by assumption), below_step hq0.out (by assumption)⟩) | go_keep)
  (first | (go_at_call 31; refine (hcn.out _ (by go_split_ands; first | assumption | exact below_drew _)).mono ?_; rintro e z0 ⟨rfl, hb⟩; have hq0 := Lib.hid hb; clear hb))
 have hv : Hid (Below W.heap.size W z0) := by
  show Below _ _ _
  go_split_ands
  assumption
 clear y0 y1 y2 hW
 have g1 := Lib.hid (g0.out.below hv.out)
 have o1 := Lib.hid (o0.out.below hv.out)
 have x1 := Lib.hid (x0.out.below hv.out)
 have b1 := Lib.hid (b0.out.trans (hv.out.mono b0.out.size))
 cases hfk : findK x.rows ⟨kt, ki⟩ with
 | none =>
   have hB : findB x.rows ⟨kt, ki⟩ = false := by unfold findB; rw [hfk]; rfl
   have hres : Hid (readW x ⟨kt, ki⟩ = (x, errA 4)) := by show _ = _; unfold readW; rw [hfk]
   rw [hB]
   clear hfk hB
   go_wp2_with fail
   refine (told_any 4 z0).mono ?_
   rintro e w4 ⟨rfl, hb⟩
   have gq := Lib.hid (g1.out.below hb)
   have oq := Lib.hid (o1.out.below hb)
   have xq := Lib.hid (x1.out.below hb)
   have bq_ := Lib.hid (b1.out.trans (hb.mono b1.out.size))
   clear hb
   go_wp2_with (first
    | ((with_reducible refine wpList_store_at rfl 35 (.tmp 2) (.tmp 21) rfl (o := 0) (vs := [.int .i64 4, .slice none 0 0, .int .i64 0]) rfl rfl xq.out (sizeAns _ _ _) (Nat.le_refl _) (ans_one _ _ _ _ _) ?_)
       intro w9 h9 hg9
       have h9' := Lib.hid h9
       have hg9' := Lib.hid hg9
       clear h9 hg9))
   have s1 : RowV 35 w9 (w.heap.size) [.int .i64 4, .slice none 0 0, .int .i64 0] := h9'.out
   have m0 := s1.cell 0
   have m1 := s1.cell 1
   have m2 := s1.cell 2
   simp only [List.getElem?_cons_zero, List.getElem?_cons_succ] at m0 m1 m2
   refine bodyPost_ret (v := .agg #[.int .i64 4, .slice none 0 0, .int .i64 0]) (by simp [results, Try.results70, go_sem, m0, m1, m2]) rfl ?_
   rw [hres.out]
   exact ⟨⟨tq, tn, tc, rq, rn, rc, bq, bn, bc, mq, mn, mc, o⟩, ⟨4, none, 0, 0, 0⟩, rfl, gq.out.kept hg9'.out (by omega), oq.out.ga hg9'.out xq.out, AV.Own.err _ _, Gr.own3 (below_grown bq_.out (some g)) hg9'.out (by omega)⟩
 | some i =>
   have hB : findB x.rows ⟨kt, ki⟩ = true := by unfold findB; rw [hfk]; rfl
   have hN : findN x.rows ⟨kt, ki⟩ = (i : Int) := by unfold findN; rw [hfk]
   rw [hB, hN]
   have hi : i < rn := by have h1 := findK_at hfk; have h2 : x.rows.length = rn := o0.out.rows.reads.len; omega
   obtain ⟨A, ⟨⟨dt, di⟩, dv, ds⟩, hA, hx, hok, hc⟩ := o1.out.rows.reads.at hi
   have hA' : rq = some A := hA
   subst hA'
   have hres : Hid (readW x ⟨kt, ki⟩ = (x, ⟨0, [⟨⟨dt, di⟩, dv, ds⟩], 0⟩)) := by show _ = _; unfold readW; rw [hfk]; simp only [hx]
   have hcell : Hid (∀ j x, ([.int .i64 dt, .int .u16 di, .int .i64 dv, .string ds] : List Value)[j]? = some x → z0.cell? ((A.add (i * 4)).add j) = some x) := hc
   have hok' := Lib.hid hok
   have hs3 := sizeRow dt di dv ds
   have c1 : z0.cell? ⟨g, 1, none⟩ = some (.slice (some A) rn rc) := g1.out.cell 1
   obtain ⟨W2, hW2⟩ : ∃ W2, z0.alloc (.cells #[.int .i64 dt, .int .u16 di, .int .i64 dv, .string ds] 68) = W2 := ⟨_, rfl⟩
   have hbx2 := Lib.hid (one_rowI (xs := [.int .i64 dt, .int .u16 di, .int .i64 dv, .string ds]) hW2)
   have gq := Lib.hid (g1.out.below hbx2.out.1)
   have oq := Lib.hid (o1.out.below hbx2.out.1)
   have xq := Lib.hid (x1.out.below hbx2.out.1)
   have bq_ := Lib.hid (b1.out.trans (hbx2.out.1.mono b1.out.size))
   have aq := Lib.hid (OwnL.single (r := ⟨⟨dt, di⟩, dv, ds⟩) hbx2.out.2.1 hok'.out)
   clear hfk hB hN hx hok hc hA hbx2
   go_wp2_with (first
    | (with_reducible refine wpList_load_at rfl 68 (.tmp 28) rfl Try.underlying68 rfl hs3 rfl hcell.out ?_)
    | ((with_reducible refine wpList_store_at rfl 35 (.tmp 2) (.tmp 31) rfl (o := 0) (vs := [.int .i64 0, .slice (some ⟨z0.heap.size, 0, none⟩) 1 1, .int .i64 0]) rfl rfl xq.out (sizeAns _ _ _) (Nat.le_refl _) (ans_one _ _ _ _ _) ?_)
       intro w9 h9 hg9
       have h9' := Lib.hid h9
       have hg9' := Lib.hid hg9
       clear h9 hg9))
   have s1 : RowV 35 w9 (w.heap.size) [.int .i64 0, .slice (some ⟨z0.heap.size, 0, none⟩) 1 1, .int .i64 0] := h9'.out
   have m0 := s1.cell 0
   have m1 := s1.cell 1
   have m2 := s1.cell 2
   simp only [List.getElem?_cons_zero, List.getElem?_cons_succ] at m0 m1 m2
   refine bodyPost_ret (v := .agg #[.int .i64 0, .slice (some ⟨z0.heap.size, 0, none⟩) 1 1, .int .i64 0]) (by simp [results, Try.results70, go_sem, m0, m1, m2]) rfl ?_
   rw [hres.out]
   exact ⟨⟨tq, tn, tc, some A, rn, rc, bq, bn, bc, mq, mn, mc, o⟩, ⟨0, _, 1, 1, 0⟩, rfl, gq.out.kept hg9'.out (by omega), oq.out.ga hg9'.out xq.out, ⟨rfl, aq.out.gt hg9'.out xq.out (by decide), rfl⟩, Gr.own3 (below_grown bq_.out (some g)) hg9'.out (by omega)⟩
set_option maxHeartbeats 4000000 in
theorem scan_any (g : Nat) (tq : Option Addr) (tn tc : Nat) (rq : Option Addr) (rn rc : Nat) (bq : Option Addr) (bn bc : Nat) (mq : Option Addr) (mn mc : Nat) (o : Bool) (qk kt ki tt ti qv : Int) (qs : ByteArray) (qn : Int) (x : SerD) (w : World) (hg : RowV 94 w g [.slice tq tn tc, .slice rq rn rc, .slice bq bn bc, .slice mq mn mc, .bool o, .int .i64 qk, .int .i64 kt, .int .u16 ki, .int .i64 tt, .int .u16 ti, .int .i64 qv, .string qs, .int .i64 qn]) (hx : (⟨tq, tn, tc, rq, rn, rc, bq, bn, bc, mq, mn, mc, o⟩ : SV).Own w x) (hf : Few x) :
 Calls Try.prog 71 #[.pointer (some ⟨g, 0, none⟩)] w (WkPost g ⟨qk, ⟨kt, ki⟩, ⟨tt, ti⟩, qv, qs, qn⟩ ((x, ⟨0, ofL x.rows kt, 0⟩)) w) := by
 obtain ⟨W, hW⟩ : ∃ W, w.alloc (.cells #[.int .i64 0, .slice none 0 0, .int .i64 0] 35) = W := ⟨_, rfl⟩
 have hbx := Lib.hid (one_rowI (xs := [.int .i64 0, .slice none 0 0, .int .i64 0]) hW)
 have hlt := hg.lt
 have g0 := Lib.hid (hg.below hbx.out.1)
 have o0 := Lib.hid (hx.below hbx.out.1)
 have x0 := Lib.hid hbx.out.2.1
 have b0 := Lib.hid hbx.out.1
 have hsz := Lib.hid hbx.out.2.2
 have hrn : rn ≤ 1000000 := by have h1 : x.rows.length = rn := hx.rows.reads.len; have := hf.rows; omega
 have y0 : W.cell? ⟨g, 1, none⟩ = some (.slice rq rn rc) := g0.out.cell 1
 have y1 : W.cell? ⟨g, 6, none⟩ = some (.int .i64 kt) := g0.out.cell 6
 have hcn := Lib.hid (fun u (hu : Below W.heap.size W u) => of_any rq rn rc x.rows kt u (o0.out.rows.reads.below hu (Nat.le_refl _)) hrn)
 have hoks := Lib.hid hx.rows.2
 clear hg hx hf hbx
 go_enter Try.func71, Try.ntmps71
 go_wp2
 refine wp_region_x (by kernel_rfl) 13 (fun u => u.cell? ⟨g, 1, none⟩ = some (.slice rq rn rc) ∧ u.cell? ⟨g, 6, none⟩ = some (.int .i64 kt)) ?_
 change wpAnyX _ _ _ _ _ _ _ _ _ (World.drew W)
 have hX0 : Hid ((fun u : World => u.cell? ⟨g, 1, none⟩ = some (.slice rq rn rc) ∧ u.cell? ⟨g, 6, none⟩ = some (.int .i64 kt)) W.drew) := ⟨y0, y1⟩
 refine x_pu (i := 0) (dst := some 3) (v := .pointer (some ⟨g, 0, none⟩)) rfl rfl (y_move (.tmp 0) rfl rfl rfl) (fun _ => hX0.out) ?_
 go_frame
 refine x_pu (i := 1) (dst := some 4) (v := .pointer (some ⟨g, 0, none⟩)) rfl rfl (.inl ⟨rfl, fun u _ => by go_simp⟩) (fun _ => hX0.out) ?_
 go_frame
 refine x_pu (i := 2) (dst := some 5) (v := .pointer (some ⟨g, 0, none⟩)) rfl rfl (.inl ⟨rfl, fun u _ => by go_simp⟩) (fun _ => hX0.out) ?_
 go_frame
 refine x_pu (i := 3) (dst := some 6) (v := .pointer (some ⟨g, 1, none⟩)) rfl rfl (.inl ⟨rfl, fun u _ => by go_simp⟩) (fun _ => hX0.out) ?_
 go_frame
 refine x_tk (i := 4) (dst := some 7) (v := .slice rq rn rc) rfl rfl (.inl ⟨rfl, fun u hu => by have y0 := hu.1; go_simp⟩) hX0.out ?_
 go_frame
 refine x_pu (i := 5) (dst := some 8) (v := .pointer (some ⟨g, 0, none⟩)) rfl rfl (y_move (.tmp 0) rfl rfl rfl) (fun _ => hX0.out) ?_
 go_frame
 refine x_pu (i := 6) (dst := some 9) (v := .pointer (some ⟨g, 0, none⟩)) rfl rfl (.inl ⟨rfl, fun u _ => by go_simp⟩) (fun _ => hX0.out) ?_
 go_frame
 refine x_pu (i := 7) (dst := some 10) (v := .pointer (some ⟨g, 5, none⟩)) rfl rfl (.inl ⟨rfl, fun u _ => by go_simp⟩) (fun _ => hX0.out) ?_
 go_frame
 refine x_pu (i := 8) (dst := some 11) (v := .pointer (some ⟨g, 6, none⟩)) rfl rfl (.inl ⟨rfl, fun u _ => by go_simp⟩) (fun _ => hX0.out) ?_
 go_frame
 refine x_pu (i := 9) (dst := some 12) (v := .pointer (some ⟨g, 6, none⟩)) rfl rfl (.inl ⟨rfl, fun u _ => by go_simp⟩) (fun _ => hX0.out) ?_
 go_frame
 refine x_tk (i := 10) (dst := some 13) (v := .int .i64 kt) rfl rfl (.inl ⟨rfl, fun u hu => by have y0 := hu.2; go_simp⟩) hX0.out ?_
 go_frame
 refine x_call (i := 11) (dst := some 14) rfl rfl (by kernel_rfl) rfl (by go_simp) (hcn.out W.drew (below_drew _)) ?_
 rintro e u1 ⟨lq, ln, lc, rfl, hl, hl2, hb⟩
 have hb' : Below W.heap.size W u1 := (below_drew W).trans hb
 have hv := Lib.hid hb'
 have g1 := Lib.hid (g0.out.below hv.out)
 have o1 := Lib.hid (o0.out.below hv.out)
 have x1 := Lib.hid (x0.out.below hv.out)
 have b1 := Lib.hid (b0.out.trans (hv.out.mono b0.out.size))
 have l1 : Hid (OwnL u1 lq ln lc (ofL x.rows kt)) := ⟨hl.mono (Nat.zero_le _), hl2.ok⟩
 have hX1 : Hid ((fun u : World => u.cell? ⟨g, 1, none⟩ = some (.slice rq rn rc) ∧ u.cell? ⟨g, 6, none⟩ = some (.int .i64 kt)) u1) := ⟨cell_keeps hb' (Nat.le_refl _) y0, cell_keeps hb' (Nat.le_refl _) y1⟩
 clear hb hb' hl hl2 y0 y1
 refine ⟨_, rfl, fun _ => hX1.out, ?_⟩
 go_frame
 refine x_pu (i := 12) (dst := some 15) (v := .agg #[.int .i64 0, .slice lq ln lc, .int .i64 0]) rfl rfl (.inl ⟨rfl, fun u _ => by go_simp⟩) (fun _ => hX1.out) ?_
 go_frame
 obtain ⟨u9, hst, h9, hg9⟩ := run_storeVar_at (P := Try.prog) (ty := 35) (o := 0) (vs := [.int .i64 0, .slice lq ln lc, .int .i64 0]) x1.out (sizeAns _ _ _) (Nat.le_refl _) (ans_one _ _ _ _ _)
 refine x_skip (i := 13) (dst := none) (w' := u9) rfl rfl (by kernel_rfl) rfl (run_store_op rfl rfl rfl hst) (x_gone (by kernel_rfl)) ?_
 go_frame
 refine x_done (by kernel_rfl) ?_
 have h9' := Lib.hid h9
 have hg9' := Lib.hid hg9
 clear hst h9 hg9 hX0 hX1
 go_wp2
 have s1 : RowV 35 u9 (w.heap.size) [.int .i64 0, .slice lq ln lc, .int .i64 0] := h9'.out
 have m0 := s1.cell 0
 have m1 := s1.cell 1
 have m2 := s1.cell 2
 simp only [List.getElem?_cons_zero, List.getElem?_cons_succ] at m0 m1 m2
 refine bodyPost_ret (v := .agg #[.int .i64 0, .slice lq ln lc, .int .i64 0]) (by simp [results, Try.results71, go_sem, m0, m1, m2]) rfl ?_
 exact ⟨⟨tq, tn, tc, rq, rn, rc, bq, bn, bc, mq, mn, mc, o⟩, ⟨0, lq, ln, lc, 0⟩, rfl, g1.out.kept hg9'.out (by omega), o1.out.ga hg9'.out x1.out, ⟨rfl, l1.out.gt hg9'.out x1.out (by decide), rfl⟩, Gr.own3 (below_grown b1.out (some g)) hg9'.out (by omega)⟩
end Go.Proofs.Ytkdkncbccofpdaa
/-! set, add and insert of ideal. -/
namespace Go.Proofs.Ytkdkncbccofpdaa
open Go.RowKit
set_option maxRecDepth 100000
def setW (x : SerD) (k : KeyD) (v : Int) : SerD × AnsD := if chkRow x.bs ⟨k, v, ⟨#[]⟩⟩ = 0 then layW x (becR x.bs x.rows k erZ (nwSet v)) else (x, errA (chkRow x.bs ⟨k, v, ⟨#[]⟩⟩))
set_option maxHeartbeats 4000000 in
theorem add_any (g : Nat) (tq : Option Addr) (tn tc : Nat) (rq : Option Addr) (rn rc : Nat) (bq : Option Addr) (bn bc : Nat) (mq : Option Addr) (mn mc : Nat) (o : Bool) (qk kt ki tt ti qv : Int) (qs : ByteArray) (qn : Int) (x : SerD) (w : World) (hg : RowV 94 w g [.slice tq tn tc, .slice rq rn rc, .slice bq bn bc, .slice mq mn mc, .bool o, .int .i64 qk, .int .i64 kt, .int .u16 ki, .int .i64 tt, .int .u16 ti, .int .i64 qv, .string qs, .int .i64 qn]) (hx : (⟨tq, tn, tc, rq, rn, rc, bq, bn, bc, mq, mn, mc, o⟩ : SV).Own w x) (hf : Few x) (hq : ReqOk ⟨qk, ⟨kt, ki⟩, ⟨tt, ti⟩, qv, qs, qn⟩) :
 Calls Try.prog 76 #[.pointer (some ⟨g, 0, none⟩)] w (WkPost g ⟨qk, ⟨kt, ki⟩, ⟨tt, ti⟩, qv, qs, qn⟩ (layW x (becR x.bs x.rows ⟨kt, ki⟩ (erPlus qv) (nwPlus qv))) w) := by
 obtain ⟨W, hW⟩ : ∃ W, w.alloc (.cells #[.int .i64 0, .slice none 0 0, .int .i64 0] 35) = W := ⟨_, rfl⟩
 have hbx := Lib.hid (one_rowI (xs := [.int .i64 0, .slice none 0 0, .int .i64 0]) hW)
 have hlt := hg.lt
 have g0 := Lib.hid (hg.below hbx.out.1)
 have o0 := Lib.hid (hx.below hbx.out.1)
 have x0 := Lib.hid hbx.out.2.1
 have b0 := Lib.hid hbx.out.1
 have hsz := Lib.hid hbx.out.2.2
 have hrn : rn ≤ 1000000 := by have h1 : x.rows.length = rn := hx.rows.reads.len; have := hf.rows; omega
 have y0 : W.cell? ⟨g, 1, none⟩ = some (.slice rq rn rc) := g0.out.cell 1
 have y1 : W.cell? ⟨g, 6, none⟩ = some (.int .i64 kt) := g0.out.cell 6
 have y2 : W.cell? ⟨g, 7, none⟩ = some (.int .u16 ki) := g0.out.cell 7
 have y3 : W.cell? ⟨g, 10, none⟩ = some (.int .i64 qv) := g0.out.cell 10
 have hqv := Lib.hid hq.val
 have hs2 := sizeKey kt ki
 clear hg hx hf hq hbx
 go_enter Try.func76, Try.ntmps76
 go_wp2
 refine wp_region_x (by kernel_rfl) 20 (fun u => u.cell? ⟨g, 1, none⟩ = some (.slice rq rn rc) ∧ u.cell? ⟨g, 6, none⟩ = some (.int .i64 kt) ∧ u.cell? ⟨g, 7, none⟩ = some (.int .u16 ki) ∧ u.cell? ⟨g, 10, none⟩ = some (.int .i64 qv)) ?_
 change wpAnyX _ _ _ _ _ _ _ _ _ (World.drew W)
 have hX0 : Hid ((fun u : World => u.cell? ⟨g, 1, none⟩ = some (.slice rq rn rc) ∧ u.cell? ⟨g, 6, none⟩ = some (.int .i64 kt) ∧ u.cell? ⟨g, 7, none⟩ = some (.int .u16 ki) ∧ u.cell? ⟨g, 10, none⟩ = some (.int .i64 qv)) (W.drew)) := ⟨y0, y1, y2, y3⟩
 refine x_pu (i := 0) (dst := some 3) (v := .pointer (some ⟨g, 0, none⟩)) rfl rfl (y_move (.tmp 0) rfl rfl rfl) (fun _ => hX0.out) ?_
 go_frame
 refine x_pu (i := 1) (dst := some 4) (v := .pointer (some ⟨g, 0, none⟩)) rfl rfl (y_move (.tmp 0) rfl rfl rfl) (fun _ => hX0.out) ?_
 go_frame
 refine x_pu (i := 2) (dst := some 5) (v := .pointer (some ⟨g, 0, none⟩)) rfl rfl (y_move (.tmp 0) rfl rfl rfl) (fun _ => hX0.out) ?_
 go_frame
 refine x_pu (i := 3) (dst := some 6) (v := .pointer (some ⟨g, 0, none⟩)) rfl rfl (.inl ⟨rfl, fun u _ => by go_simp⟩) (fun _ => hX0.out) ?_
 go_frame
 refine x_pu (i := 4) (dst := some 7) (v := .pointer (some ⟨g, 0, none⟩)) rfl rfl (.inl ⟨rfl, fun u _ => by go_simp⟩) (fun _ => hX0.out) ?_
 go_frame
 refine x_pu (i := 5) (dst := some 8) (v := .pointer (some ⟨g, 1, none⟩)) rfl rfl (.inl ⟨rfl, fun u _ => by go_simp⟩) (fun _ => hX0.out) ?_
 go_frame
 refine x_tk (i := 6) (dst := some 9) (v := .slice rq rn rc) rfl rfl (.inl ⟨rfl, fun u hu => by have y0 := hu.1; go_simp⟩) hX0.out ?_
 go_frame
 refine x_pu (i := 7) (dst := some 10) (v := .pointer (some ⟨g, 0, none⟩)) rfl rfl (y_move (.tmp 0) rfl rfl rfl) (fun _ => hX0.out) ?_
 go_frame
 refine x_pu (i := 8) (dst := some 11) (v := .pointer (some ⟨g, 0, none⟩)) rfl rfl (.inl ⟨rfl, fun u _ => by go_simp⟩) (fun _ => hX0.out) ?_
 go_frame
 refine x_pu (i := 9) (dst := some 12) (v := .pointer (some ⟨g, 5, none⟩)) rfl rfl (.inl ⟨rfl, fun u _ => by go_simp⟩) (fun _ => hX0.out) ?_
 go_frame
 refine x_pu (i := 10) (dst := some 13) (v := .pointer (some ⟨g, 6, none⟩)) rfl rfl (.inl ⟨rfl, fun u _ => by go_simp⟩) (fun _ => hX0.out) ?_
 go_frame
 refine x_tk (i := 11) (dst := some 14) (v := .agg #[.int .i64 kt, .int .u16 ki]) rfl rfl (.inl ⟨rfl, fun u hu => by have y0 := hu.2.1; have y1 := hu.2.2.1; go_simp⟩) hX0.out ?_
 go_frame
 refine x_pu (i := 12) (dst := some 15) (v := .pointer (some ⟨g, 0, none⟩)) rfl rfl (y_move (.tmp 0) rfl rfl rfl) (fun _ => hX0.out) ?_
 go_frame
 refine x_pu (i := 13) (dst := some 16) (v := .pointer (some ⟨g, 0, none⟩)) rfl rfl (.inl ⟨rfl, fun u _ => by go_simp⟩) (fun _ => hX0.out) ?_
 go_frame
 refine x_pu (i := 14) (dst := some 17) (v := .pointer (some ⟨g, 5, none⟩)) rfl rfl (.inl ⟨rfl, fun u _ => by go_simp⟩) (fun _ => hX0.out) ?_
 go_frame
 refine x_pu (i := 15) (dst := some 18) (v := .pointer (some ⟨g, 10, none⟩)) rfl rfl (.inl ⟨rfl, fun u _ => by go_simp⟩) (fun _ => hX0.out) ?_
 go_frame
 refine x_tk (i := 16) (dst := some 19) (v := .int .i64 qv) rfl rfl (.inl ⟨rfl, fun u hu => by have y0 := hu.2.2.2; go_simp⟩) hX0.out ?_
 go_frame
 refine x_call (i := 17) (dst := some 20) rfl rfl (by kernel_rfl) rfl (by go_simp) (plusI_any g tq tn tc rq rn rc bq bn bc mq mn mc o qk kt ki tt ti qv qs qn x.bs rq rn rc x.rows kt ki qv W.drew (g0.out.below (below_drew _)) ((o0.out.sch.1.reads.sch o0.out.sch.2).below (below_drew _) (Nat.le_refl _)) (o0.out.rows.reads.below (below_drew _) (Nat.le_refl _)) hrn hqv.out) ?_
 rintro e u1 ⟨lq, ln, lc, rfl, hl, hb⟩
 have hb' : Below W.heap.size W u1 := (below_drew W).trans hb
 have hv1 := Lib.hid hb'
 have hX1 : Hid ((fun u : World => u.cell? ⟨g, 1, none⟩ = some (.slice rq rn rc) ∧ u.cell? ⟨g, 6, none⟩ = some (.int .i64 kt) ∧ u.cell? ⟨g, 7, none⟩ = some (.int .u16 ki) ∧ u.cell? ⟨g, 10, none⟩ = some (.int .i64 qv)) u1) := ⟨cell_keeps hb' (Nat.le_refl _) y0, cell_keeps hb' (Nat.le_refl _) y1, cell_keeps hb' (Nat.le_refl _) y2, cell_keeps hb' (Nat.le_refl _) y3⟩
 have l1 : Hid (OwnL u1 lq ln lc ((becR x.bs x.rows ⟨kt, ki⟩ (erPlus qv) (nwPlus qv)).2)) := hl
 have g2 := Lib.hid (g0.out.below hv1.out)
 have o2 := Lib.hid (o0.out.below hv1.out)
 have x2 := Lib.hid (x0.out.below hv1.out)
 have b2 := Lib.hid (b0.out.trans (hv1.out.mono b0.out.size))
 clear hb hb' y0 y1 y2 y3
 refine ⟨_, rfl, fun _ => hX1.out, ?_⟩
 go_frame
 refine x_pu (i := 18) (dst := some 21) (v := .slice lq ln lc) rfl rfl (.inl ⟨rfl, fun u _ => by go_simp⟩) (fun _ => hX1.out) ?_
 go_frame
 refine x_pu (i := 19) (dst := some 22) (v := .int .i64 (becR x.bs x.rows ⟨kt, ki⟩ (erPlus qv) (nwPlus qv)).1) rfl rfl (.inl ⟨rfl, fun u _ => by go_simp⟩) (fun _ => hX1.out) ?_
 go_frame
 refine x_call (i := 20) (dst := some 23) rfl rfl (by kernel_rfl) rfl (by go_simp) (lay_any g ⟨tq, tn, tc, rq, rn, rc, bq, bn, bc, mq, mn, mc, o⟩ ⟨qk, ⟨kt, ki⟩, ⟨tt, ti⟩, qv, qs, qn⟩ x lq ln lc (becR x.bs x.rows ⟨kt, ki⟩ (erPlus qv) (nwPlus qv)).1 ((becR x.bs x.rows ⟨kt, ki⟩ (erPlus qv) (nwPlus qv)).2) u1 g2.out o2.out l1.out) ?_
 rintro e u3 ⟨v3, ⟨ae, aq, an, ac, ak⟩, rfl, h1, h2, h3, h4⟩
 have g3 := Lib.hid h1
 have o3 := Lib.hid h2
 have a3 := Lib.hid h3
 have x3 := Lib.hid (x2.out.kept h4 (by omega))
 have r3 := Lib.hid (grown_trans (below_grown b2.out (some g)) h4)
 clear h1 h2 h3 h4
 refine ⟨_, rfl, x_gone (by kernel_rfl), ?_⟩
 go_frame
 obtain ⟨u9, hst, h9, hg9⟩ := run_storeVar_at (P := Try.prog) (ty := 35) (o := 0) (vs := [.int .i64 ae, .slice aq an ac, .int .i64 ak]) x3.out (sizeAns _ _ _) (Nat.le_refl _) (ans_one _ _ _ _ _)
 refine x_skip (i := 21) (dst := none) (w' := u9) rfl rfl (by kernel_rfl) rfl (run_store_op rfl rfl rfl hst) (x_gone (by kernel_rfl)) ?_
 go_frame
 refine x_done (by kernel_rfl) ?_
 have h9' := Lib.hid h9
 have hg9' := Lib.hid hg9
 clear hst h9 hg9 hX0 hX1
 go_wp2
 have s1 : RowV 35 u9 (w.heap.size) [.int .i64 ae, .slice aq an ac, .int .i64 ak] := h9'.out
 have m0 := s1.cell 0
 have m1 := s1.cell 1
 have m2 := s1.cell 2
 simp only [List.getElem?_cons_zero, List.getElem?_cons_succ] at m0 m1 m2
 refine bodyPost_ret (v := .agg #[.int .i64 ae, .slice aq an ac, .int .i64 ak]) (by simp [results, Try.results76, go_sem, m0, m1, m2]) rfl ?_
 exact ⟨v3, ⟨ae, aq, an, ac, ak⟩, rfl, g3.out.kept hg9'.out (by omega), o3.out.ga hg9'.out x3.out, a3.out.ga hg9'.out x3.out, Gr.own3 r3.out hg9'.out (by omega)⟩
set_option maxHeartbeats 4000000 in
theorem set_any (g : Nat) (tq : Option Addr) (tn tc : Nat) (rq : Option Addr) (rn rc : Nat) (bq : Option Addr) (bn bc : Nat) (mq : Option Addr) (mn mc : Nat) (o : Bool) (qk kt ki tt ti qv : Int) (qs : ByteArray) (qn : Int) (x : SerD) (w : World) (hg : RowV 94 w g [.slice tq tn tc, .slice rq rn rc, .slice bq bn bc, .slice mq mn mc, .bool o, .int .i64 qk, .int .i64 kt, .int .u16 ki, .int .i64 tt, .int .u16 ti, .int .i64 qv, .string qs, .int .i64 qn]) (hx : (⟨tq, tn, tc, rq, rn, rc, bq, bn, bc, mq, mn, mc, o⟩ : SV).Own w x) (hf : Few x) (hq : ReqOk ⟨qk, ⟨kt, ki⟩, ⟨tt, ti⟩, qv, qs, qn⟩) :
 Calls Try.prog 75 #[.pointer (some ⟨g, 0, none⟩)] w (WkPost g ⟨qk, ⟨kt, ki⟩, ⟨tt, ti⟩, qv, qs, qn⟩ (setW x ⟨kt, ki⟩ qv) w) := by
 obtain ⟨W, hW⟩ : ∃ W, (w.alloc (.cells #[.pointer (some ⟨g, 0, none⟩)] 92)).alloc (.cells #[.int .i64 0, .slice none 0 0, .int .i64 0] 35) = W := ⟨_, rfl⟩
 have hbx := Lib.hid (two_rowsI (xs := [.pointer (some ⟨g, 0, none⟩)]) (ys := [.int .i64 0, .slice none 0 0, .int .i64 0]) hW)
 have hlt := hg.lt
 have g0 := Lib.hid (hg.below hbx.out.1)
 have o0 := Lib.hid (hx.below hbx.out.1)
 have x0 := Lib.hid hbx.out.2.2.1
 have b0 := Lib.hid hbx.out.1
 have hsz := Lib.hid hbx.out.2.2.2
 have hrn : rn ≤ 1000000 := by have h1 : x.rows.length = rn := hx.rows.reads.len; have := hf.rows; omega
 have p0 := Lib.hid hbx.out.2.1
 have y0 : W.cell? ⟨w.heap.size, 0, none⟩ = some (.pointer (some ⟨g, 0, none⟩)) := p0.out.cell 0
 have y1 : W.cell? ⟨g, 0, none⟩ = some (.slice tq tn tc) := g0.out.cell 0
 have y2 : W.cell? ⟨g, 6, none⟩ = some (.int .i64 kt) := g0.out.cell 6
 have y3 : W.cell? ⟨g, 7, none⟩ = some (.int .u16 ki) := g0.out.cell 7
 have y4 : W.cell? ⟨g, 10, none⟩ = some (.int .i64 qv) := g0.out.cell 10
 have hqv := Lib.hid hq.val
 have hcr := Lib.hid (fun u (hu : Below W.heap.size W u) => checkRow_any tq tn tc x.bs kt ki qv ⟨#[]⟩ u ((o0.out.sch.1.reads.sch o0.out.sch.2).below hu (Nat.le_refl _)) (Nat.zero_le _))
 have hs2 := sizeKey kt ki
 clear hg hx hf hq hbx
 go_enter Try.func75, Try.ntmps75
 go_wp2
 go_region_held3 (fun u => u.cell? ⟨w.heap.size, 0, none⟩ = some (.pointer (some ⟨g, 0, none⟩)) ∧ u.cell? ⟨g, 0, none⟩ = some (.slice tq tn tc) ∧ u.cell? ⟨g, 6, none⟩ = some (.int .i64 kt) ∧ u.cell? ⟨g, 7, none⟩ = some (.int .u16 ki) ∧ u.cell? ⟨g, 10, none⟩ = some (.int .i64 qv) ∧ Below W.heap.size W u)
  (first | exact ⟨y0, y1, y2, y3, y4, below_drew _⟩ | (go_split_ands; exact ⟨cell_keeps hq0.out (Nat.le_refl _) (by assumption), cell_keeps hq0.out (Nat.le_refl _) (by assumption), cell_keeps hq0.out (Nat.le_refl _) (by assumption), cell_keeps hq0.out (Nat.le_refl _) (by assumption), cell_keeps hq0.out (Nat.le_refl _) (by assumption), below_step hq0.out (by assumption)⟩) | go_keep)
  (first | (go_at_call 85; refine (hcr.out _ (by go_split_ands; first | assumption | exact below_drew _)).mono ?_; rintro e z0 ⟨rfl, hb⟩; have hq0 := Lib.hid hb; clear hb))
 have hv : Hid (Below W.heap.size W z0) := by
  show Below _ _ _
  go_split_ands
  assumption
 clear y0 y1 y2 y3 y4 hW
 have g1 := Lib.hid (g0.out.below hv.out)
 have o1 := Lib.hid (o0.out.below hv.out)
 have x1 := Lib.hid (x0.out.below hv.out)
 have p1 := Lib.hid (p0.out.below hv.out)
 have b1 := Lib.hid (b0.out.trans (hv.out.mono b0.out.size))
 obtain ⟨er, her⟩ : ∃ er, chkRow x.bs ⟨⟨kt, ki⟩, qv, ⟨#[]⟩⟩ = er := ⟨_, rfl⟩
 rw [her]
 have her' := Lib.hid her
 clear her g0 o0 x0 b0 p0
 by_cases he : er = 0
 · subst he
   have hres : Hid (setW x ⟨kt, ki⟩ qv = layW x (becR x.bs x.rows ⟨kt, ki⟩ erZ (nwSet qv))) := by show _ = _; unfold setW; rw [if_pos her'.out]
   have g0 := g1
   have o0 := o1
   have x0 := x1
   have b0 := b1
   have y0 : z0.cell? ⟨w.heap.size, 0, none⟩ = some (.pointer (some ⟨g, 0, none⟩)) := p1.out.cell 0
   have y1 : z0.cell? ⟨g, 1, none⟩ = some (.slice rq rn rc) := g1.out.cell 1
   have y2 : z0.cell? ⟨g, 6, none⟩ = some (.int .i64 kt) := g1.out.cell 6
   have y3 : z0.cell? ⟨g, 7, none⟩ = some (.int .u16 ki) := g1.out.cell 7
   go_wp2
   refine wp_region_x (by kernel_rfl) 16 (fun u => u.cell? ⟨w.heap.size, 0, none⟩ = some (.pointer (some ⟨g, 0, none⟩)) ∧ u.cell? ⟨g, 1, none⟩ = some (.slice rq rn rc) ∧ u.cell? ⟨g, 6, none⟩ = some (.int .i64 kt) ∧ u.cell? ⟨g, 7, none⟩ = some (.int .u16 ki)) ?_
   change wpAnyX _ _ _ _ _ _ _ _ _ (World.drew z0)
   have hX0 : Hid ((fun u : World => u.cell? ⟨w.heap.size, 0, none⟩ = some (.pointer (some ⟨g, 0, none⟩)) ∧ u.cell? ⟨g, 1, none⟩ = some (.slice rq rn rc) ∧ u.cell? ⟨g, 6, none⟩ = some (.int .i64 kt) ∧ u.cell? ⟨g, 7, none⟩ = some (.int .u16 ki)) (z0.drew)) := ⟨y0, y1, y2, y3⟩
   refine x_tk (i := 0) (dst := some 25) (v := .pointer (some ⟨g, 0, none⟩)) rfl rfl (.inl ⟨rfl, fun u hu => by have y0 := hu.1; go_simp⟩) hX0.out ?_
   go_frame
   refine x_tk (i := 1) (dst := some 26) (v := .pointer (some ⟨g, 0, none⟩)) rfl rfl (.inl ⟨rfl, fun u hu => by have y0 := hu.1; go_simp⟩) hX0.out ?_
   go_frame
   refine x_tk (i := 2) (dst := some 27) (v := .pointer (some ⟨g, 0, none⟩)) rfl rfl (.inl ⟨rfl, fun u hu => by have y0 := hu.1; go_simp⟩) hX0.out ?_
   go_frame
   refine x_pu (i := 3) (dst := some 28) (v := .pointer (some ⟨g, 0, none⟩)) rfl rfl (.inl ⟨rfl, fun u _ => by go_simp⟩) (fun _ => hX0.out) ?_
   go_frame
   refine x_pu (i := 4) (dst := some 29) (v := .pointer (some ⟨g, 0, none⟩)) rfl rfl (.inl ⟨rfl, fun u _ => by go_simp⟩) (fun _ => hX0.out) ?_
   go_frame
   refine x_pu (i := 5) (dst := some 30) (v := .pointer (some ⟨g, 1, none⟩)) rfl rfl (.inl ⟨rfl, fun u _ => by go_simp⟩) (fun _ => hX0.out) ?_
   go_frame
   refine x_tk (i := 6) (dst := some 31) (v := .slice rq rn rc) rfl rfl (.inl ⟨rfl, fun u hu => by have y0 := hu.2.1; go_simp⟩) hX0.out ?_
   go_frame
   refine x_tk (i := 7) (dst := some 32) (v := .pointer (some ⟨g, 0, none⟩)) rfl rfl (.inl ⟨rfl, fun u hu => by have y0 := hu.1; go_simp⟩) hX0.out ?_
   go_frame
   refine x_pu (i := 8) (dst := some 33) (v := .pointer (some ⟨g, 0, none⟩)) rfl rfl (.inl ⟨rfl, fun u _ => by go_simp⟩) (fun _ => hX0.out) ?_
   go_frame
   refine x_pu (i := 9) (dst := some 34) (v := .pointer (some ⟨g, 5, none⟩)) rfl rfl (.inl ⟨rfl, fun u _ => by go_simp⟩) (fun _ => hX0.out) ?_
   go_frame
   refine x_pu (i := 10) (dst := some 35) (v := .pointer (some ⟨g, 6, none⟩)) rfl rfl (.inl ⟨rfl, fun u _ => by go_simp⟩) (fun _ => hX0.out) ?_
   go_frame
   refine x_tk (i := 11) (dst := some 36) (v := .agg #[.int .i64 kt, .int .u16 ki]) rfl rfl (.inl ⟨rfl, fun u hu => by have y0 := hu.2.2.1; have y1 := hu.2.2.2; go_simp⟩) hX0.out ?_
   go_frame
   refine x_pu (i := 12) (dst := some 37) (v := .func (.func 92) #[] #[.pointer (some ⟨w.heap.size, 0, none⟩)]) rfl rfl (.inl ⟨rfl, fun u _ => by go_simp⟩) (fun _ => hX0.out) ?_
   go_frame
   refine x_call (i := 13) (dst := some 38) rfl rfl (by kernel_rfl) rfl (by go_simp) (become_set g w.heap.size tq tn tc rq rn rc bq bn bc mq mn mc o qk kt ki tt ti qv qs qn x.bs rq rn rc x.rows kt ki z0.drew (g0.out.below (below_drew _)) ((o0.out.sch.1.reads.sch o0.out.sch.2).below (below_drew _) (Nat.le_refl _)) (o0.out.rows.reads.below (below_drew _) (Nat.le_refl _)) hrn hX0.out.1 hqv.out) ?_
   rintro e u1 ⟨lq, ln, lc, rfl, hl, hb⟩
   have hb' : Below z0.heap.size z0 u1 := (below_drew z0).trans hb
   have hv1 := Lib.hid hb'
   have hX1 : Hid ((fun u : World => u.cell? ⟨w.heap.size, 0, none⟩ = some (.pointer (some ⟨g, 0, none⟩)) ∧ u.cell? ⟨g, 1, none⟩ = some (.slice rq rn rc) ∧ u.cell? ⟨g, 6, none⟩ = some (.int .i64 kt) ∧ u.cell? ⟨g, 7, none⟩ = some (.int .u16 ki)) u1) := ⟨cell_keeps hb' (Nat.le_refl _) y0, cell_keeps hb' (Nat.le_refl _) y1, cell_keeps hb' (Nat.le_refl _) y2, cell_keeps hb' (Nat.le_refl _) y3⟩
   have l1 : Hid (OwnL u1 lq ln lc ((becR x.bs x.rows ⟨kt, ki⟩ erZ (nwSet qv)).2)) := hl
   have g2 := Lib.hid (g0.out.below hv1.out)
   have o2 := Lib.hid (o0.out.below hv1.out)
   have x2 := Lib.hid (x0.out.below hv1.out)
   have b2 := Lib.hid (b0.out.trans (hv1.out.mono b0.out.size))
   clear hb hb' y0 y1 y2 y3
   refine ⟨_, rfl, fun _ => hX1.out, ?_⟩
   go_frame
   refine x_pu (i := 14) (dst := some 39) (v := .slice lq ln lc) rfl rfl (.inl ⟨rfl, fun u _ => by go_simp⟩) (fun _ => hX1.out) ?_
   go_frame
   refine x_pu (i := 15) (dst := some 40) (v := .int .i64 (becR x.bs x.rows ⟨kt, ki⟩ erZ (nwSet qv)).1) rfl rfl (.inl ⟨rfl, fun u _ => by go_simp⟩) (fun _ => hX1.out) ?_
   go_frame
   refine x_call (i := 16) (dst := some 41) rfl rfl (by kernel_rfl) rfl (by go_simp) (lay_any g ⟨tq, tn, tc, rq, rn, rc, bq, bn, bc, mq, mn, mc, o⟩ ⟨qk, ⟨kt, ki⟩, ⟨tt, ti⟩, qv, qs, qn⟩ x lq ln lc (becR x.bs x.rows ⟨kt, ki⟩ erZ (nwSet qv)).1 ((becR x.bs x.rows ⟨kt, ki⟩ erZ (nwSet qv)).2) u1 g2.out o2.out l1.out) ?_
   rintro e u3 ⟨v3, ⟨ae, aq, an, ac, ak⟩, rfl, h1, h2, h3, h4⟩
   have g3 := Lib.hid h1
   have o3 := Lib.hid h2
   have a3 := Lib.hid h3
   have x3 := Lib.hid (x2.out.kept h4 (by omega))
   have r3 := Lib.hid (grown_trans (below_grown b2.out (some g)) h4)
   clear h1 h2 h3 h4
   refine ⟨_, rfl, x_gone (by kernel_rfl), ?_⟩
   go_frame
   obtain ⟨u9, hst, h9, hg9⟩ := run_storeVar_at (P := Try.prog) (ty := 35) (o := 0) (vs := [.int .i64 ae, .slice aq an ac, .int .i64 ak]) x3.out (sizeAns _ _ _) (Nat.le_refl _) (ans_one _ _ _ _ _)
   refine x_skip (i := 17) (dst := none) (w' := u9) rfl rfl (by kernel_rfl) rfl (run_store_op rfl rfl rfl hst) (x_gone (by kernel_rfl)) ?_
   go_frame
   refine x_done (by kernel_rfl) ?_
   have h9' := Lib.hid h9
   have hg9' := Lib.hid hg9
   clear hst h9 hg9 hX0 hX1
   go_wp2
   have s1 : RowV 35 u9 (w.heap.size + 1) [.int .i64 ae, .slice aq an ac, .int .i64 ak] := h9'.out
   have m0 := s1.cell 0
   have m1 := s1.cell 1
   have m2 := s1.cell 2
   simp only [List.getElem?_cons_zero, List.getElem?_cons_succ] at m0 m1 m2
   refine bodyPost_ret (v := .agg #[.int .i64 ae, .slice aq an ac, .int .i64 ak]) (by simp [results, Try.results75, go_sem, m0, m1, m2]) rfl ?_
   rw [hres.out]
   exact ⟨v3, ⟨ae, aq, an, ac, ak⟩, rfl, g3.out.kept hg9'.out (by omega), o3.out.ga hg9'.out x3.out, a3.out.ga hg9'.out x3.out, Gr.own3 r3.out hg9'.out (by omega)⟩
 · have he1 : (er != 0) = true := by simpa using he
   have hres : Hid (setW x ⟨kt, ki⟩ qv = (x, errA er)) := by show _ = _; unfold setW; rw [her'.out, if_neg he]
   go_wp2_with fail
   clear he he1
   refine (told_any er z0).mono ?_
   rintro e w4 ⟨rfl, hb⟩
   have gq := Lib.hid (g1.out.below hb)
   have oq := Lib.hid (o1.out.below hb)
   have xq := Lib.hid (x1.out.below hb)
   have bq_ := Lib.hid (b1.out.trans (hb.mono b1.out.size))
   clear hb
   go_wp2_with (first
    | ((with_reducible refine wpList_store_at rfl 35 (.tmp 2) (.tmp 24) rfl (o := 0) (vs := [.int .i64 er, .slice none 0 0, .int .i64 0]) rfl rfl xq.out (sizeAns _ _ _) (Nat.le_refl _) (ans_one _ _ _ _ _) ?_)
       intro w9 h9 hg9
       have h9' := Lib.hid h9
       have hg9' := Lib.hid hg9
       clear h9 hg9))
   have s1 : RowV 35 w9 (w.heap.size + 1) [.int .i64 er, .slice none 0 0, .int .i64 0] := h9'.out
   have m0 := s1.cell 0
   have m1 := s1.cell 1
   have m2 := s1.cell 2
   simp only [List.getElem?_cons_zero, List.getElem?_cons_succ] at m0 m1 m2
   refine bodyPost_ret (v := .agg #[.int .i64 er, .slice none 0 0, .int .i64 0]) (by simp [results, Try.results75, go_sem, m0, m1, m2]) rfl ?_
   rw [hres.out]
   exact ⟨⟨tq, tn, tc, rq, rn, rc, bq, bn, bc, mq, mn, mc, o⟩, ⟨er, none, 0, 0, 0⟩, rfl, gq.out.kept hg9'.out (by omega), oq.out.ga hg9'.out xq.out, AV.Own.err _ _, Gr.own3 (below_grown bq_.out (some g)) hg9'.out (by omega)⟩
end Go.Proofs.Ytkdkncbccofpdaa
