/- Parts of the proof: The reader of record: its state; single numbers; The reader of record: rows of which just the key stands, a checkpoint's pages and transactions; A region that draws its order, gone through by its branches: which operation comes next. Nothing of a program is claimed here -/
import Derived.Test.YtocekhckmpkbmaaGreatU21
import Derived.Test.YtocekhckmpkbmaaGreatU04
import Derived.Test.YtocekhckmpkbmaaGreatU01
namespace Go.Proofs.YtocekhckmpkbmaaGreat
open Go.RowKit
/-- what a reader of records has ahead, what it is stuck with, and whether something was wrong -/
structure RSt where
 s : St
 b : Bool
def RSt.nx (t : RSt) (k : Int) : RSt := ⟨t.s.next k, t.b⟩
def RSt.nm (t : RSt) (k : Int) : Int := t.s.num k
/-- worlds between which just the blocks g, gr and new ones changed -/
structure RStep (w w' : World) (g gr : Nat) : Prop where
 os : w'.os = w.os
 tape : w'.tape = w.tape
 output : w'.output = w.output
 size : w.heap.size ≤ w'.heap.size
 block : ∀ k, k < w.heap.size → k ≠ g → k ≠ gr → w'.heap[k]? = w.heap[k]?
theorem RStep.refl (w : World) (g gr : Nat) : RStep w w g gr := ⟨rfl, rfl, rfl, Nat.le_refl _, fun _ _ _ _ => rfl⟩
theorem RStep.trans {a b c : World} {g gr : Nat} (h : RStep a b g gr) (k : RStep b c g gr) : RStep a c g gr :=
 ⟨k.os.trans h.os, k.tape.trans h.tape, k.output.trans h.output, Nat.le_trans h.size k.size, fun j hj h1 h2 => (k.block j (Nat.lt_of_lt_of_le hj h.size) h1 h2).trans (h.block j hj h1 h2)⟩
theorem RStep.of_below {w w' : World} {g gr : Nat} (h : Below w.heap.size w w') : RStep w w' g gr := ⟨h.os, h.tape, h.output, h.size, fun k hk _ _ => h.block k hk⟩
theorem RStep.of_gr {w w' : World} {g gr : Nat} (h : w.grownBy w' (some gr)) : RStep w w' g gr := ⟨h.os, h.tape, h.output, h.size, fun k hk _ h2 => h.block k hk (by simpa using h2)⟩
theorem RStep.of_g {w w' : World} {g gr : Nat} (h : w.grownBy w' (some g)) : RStep w w' g gr := ⟨h.os, h.tape, h.output, h.size, fun k hk h1 _ => h.block k hk (by simpa using h1)⟩
/-- a block of the call's own changes -/
theorem RStep.own {a b c : World} {g gr h : Nat} (k : RStep a b g gr) (m : b.grownBy c (some h)) (hh : a.heap.size ≤ h) : RStep a c g gr :=
 ⟨m.os.trans k.os, m.tape.trans k.tape, m.output.trans k.output, Nat.le_trans k.size m.size, fun j hj h1 h2 => (m.block j (Nat.lt_of_lt_of_le hj k.size) (fun e => by cases e; omega)).trans (k.block j hj h1 h2)⟩
theorem RStep.below {B : Nat} {w w' : World} {g gr : Nat} (h : RStep w w' g gr) (hB : B ≤ w.heap.size) (hg : B ≤ g) (hr : B ≤ gr) : Below B w w' :=
 ⟨h.os, h.tape, h.output, h.size, fun k hk => h.block k (by omega) (by omega) (by omega)⟩
theorem RStep.row {T : TypeId} {w w' : World} {g gr b : Nat} {cs : List Value} (h : RStep w w' g gr) (hr : RowV T w b cs) (h1 : b ≠ g) (h2 : b ≠ gr) : RowV T w' b cs := hr.block (h.block b hr.lt h1 h2)
/-- The reader at block g reads what the octet's reader at block gr has ahead, of all these bytes, which stand in a slice. -/
structure RRq (w : World) (g gr : Nat) (d : Option Nat) (q : Option Addr) (n c : Nat) (all : List UInt8) (t : RSt) : Prop where
 row : RowV 120 w g [.pointer (some ⟨gr, 0, none⟩), .slice q n c, .bool t.b]
 rd : RdrS w gr d t.s
 held : Lib.HoldsBytes w (.slice q n c) all
 le : n ≤ c
 big : n ≤ 140737488355328
 suf : t.s.l <:+ all
 lt : gr < g
 dg : d ≠ some g
 far : ∀ a, q = some a → all ≠ [] → a.block < gr
def RR (w : World) (g gr : Nat) (d : Option Nat) (all : List UInt8) (t : RSt) : Prop := ∃ q n c, RRq w g gr d q n c all t
theorem holds_kept {w w' : World} {q : Option Addr} {n c g gr : Nat} {all : List UInt8} (h : Lib.HoldsBytes w (.slice q n c) all) (hs : RStep w w' g gr) (hgr : gr < g) (hne : ∀ a, q = some a → all ≠ [] → a.block < gr) : Lib.HoldsBytes w' (.slice q n c) all := by
 obtain ⟨p, cap, he, h1, h2⟩ := h; refine ⟨p, cap, he, h1, fun a ha i x hx => ?_⟩; have hc := h2 a ha i x hx; have hall : all ≠ [] := fun e => by rw [e] at hx; simp at hx
 cases he; have hb := hne a ha hall; have hlt := cell_in hc; have e : (a.add i).block = a.block := by unfold Addr.add; split <;> rfl
 rw [e] at hlt; rw [World.cell?_of_block (w := w) (by rw [e]; exact hs.block _ hlt (by omega) (by omega))]; exact hc
theorem RRq.below {w w' : World} {g gr : Nat} {d : Option Nat} {q : Option Addr} {n c : Nat} {all : List UInt8} {t : RSt} (h : RRq w g gr d q n c all t) (hb : Below w.heap.size w w') : RRq w' g gr d q n c all t :=
 ⟨h.row.below hb, h.rd.below hb, holds_kept h.held (RStep.of_below hb) h.lt h.far, h.le, h.big, h.suf, h.lt, h.dg, h.far⟩
theorem RR.below {w w' : World} {g gr : Nat} {d : Option Nat} {all : List UInt8} {t : RSt} (h : RR w g gr d all t) (hb : Below w.heap.size w w') : RR w' g gr d all t := by
 obtain ⟨q, n, c, h⟩ := h; exact ⟨q, n, c, h.below hb⟩
theorem RR.lt {w : World} {g gr : Nat} {d : Option Nat} {all : List UInt8} {t : RSt} (h : RR w g gr d all t) : g < w.heap.size := by obtain ⟨q, n, c, h⟩ := h; exact h.row.lt
theorem RR.ltr {w : World} {g gr : Nat} {d : Option Nat} {all : List UInt8} {t : RSt} (h : RR w g gr d all t) : gr < w.heap.size := by obtain ⟨q, n, c, h⟩ := h; exact h.rd.lt
theorem RR.c0 {w : World} {g gr : Nat} {d : Option Nat} {all : List UInt8} {t : RSt} (h : RR w g gr d all t) : w.cell? ⟨g, 0, none⟩ = some (.pointer (some ⟨gr, 0, none⟩)) := by obtain ⟨q, n, c, h⟩ := h; exact h.row.cell 0
theorem RR.src {w : World} {g gr : Nat} {d : Option Nat} {all : List UInt8} {t : RSt} (h : RR w g gr d all t) : ∀ x, d = some x → x < w.heap.size := by obtain ⟨q, n, c, h⟩ := h; exact h.rd.src
/-- a block that came up later than the reader changes -/
theorem RRq.new {w w' : World} {g gr k : Nat} {d : Option Nat} {q : Option Addr} {n c : Nat} {all : List UInt8} {t : RSt} (h : RRq w g gr d q n c all t) (hg : w.grownBy w' (some k)) (h1k : gr < k) (h2k : k ≠ g) (h3k : d ≠ some k) : RRq w' g gr d q n c all t := by
 refine ⟨h.row.kept hg (Ne.symm h2k), h.rd.keep hg (by omega) h3k, ?_, h.le, h.big, h.suf, h.lt, h.dg, h.far⟩; obtain ⟨p, cap, he, e1, e2⟩ := h.held; refine ⟨p, cap, he, e1, fun a ha i x hx => ?_⟩; have hc := e2 a ha i x hx; have hall : all ≠ [] := fun e => by rw [e] at hx; simp at hx
 cases he; have hb := h.far a ha hall
 exact Gr.cell hg (by
  have e : (a.add i).block = a.block := by unfold Addr.add; split <;> rfl
  rw [e]; omega) hc
theorem RR.new {w w' : World} {g gr k : Nat} {d : Option Nat} {all : List UInt8} {t : RSt} (h : RR w g gr d all t) (hg : w.grownBy w' (some k)) (h1k : gr < k) (h2k : k ≠ g) (h3k : d ≠ some k) : RR w' g gr d all t := by
 obtain ⟨q, n, c, h⟩ := h; exact ⟨q, n, c, h.new hg h1k h2k h3k⟩
/-- something is wrong from now on -/
theorem RRq.wrong {w : World} {g gr : Nat} {d : Option Nat} {q : Option Addr} {n c : Nat} {all : List UInt8} {t : RSt} (h : RRq w g gr d q n c all t) : RRq (w.setCell ⟨g, 2, none⟩ (.bool true)) g gr d q n c all ⟨t.s, true⟩ := by
 have hg := setCell_grown w g 2 (.bool true); exact ⟨h.row.set 2 (.bool true), h.rd.keep hg (by have := h.lt; omega) h.dg, holds_kept h.held (RStep.of_g hg) h.lt h.far, h.le, h.big, h.suf, h.lt, h.dg, h.far⟩
def RRP (v : Value) (w : World) (g gr : Nat) (d : Option Nat) (all : List UInt8) (t : RSt) (e : Ending) (w' : World) : Prop := e = .returned v ∧ RStep w w' g gr ∧ RR w' g gr d all t
theorem next_suffix (k : Int) (s : St) : (s.next k).l <:+ s.l := by
 show nextL k s.l s.e <:+ s.l; unfold nextL
 split
 · exact List.drop_suffix _ _
 · exact List.suffix_refl _
/-- the octet's reader has read -/
theorem RR.read {w w' : World} {g gr : Nat} {d : Option Nat} {all : List UInt8} {t : RSt} {k : Int} (h : RR w g gr d all t) (hg : w.grownBy w' (some gr)) (hr : RdrS w' gr d (t.s.next k)) : RR w' g gr d all (t.nx k) := by
 obtain ⟨q, n, c, h⟩ := h; exact ⟨q, n, c, h.row.kept hg (by have := h.lt; omega), hr, holds_kept h.held (RStep.of_gr hg) h.lt h.far, h.le, h.big, (next_suffix k t.s).trans h.suf, h.lt, h.dg, h.far⟩
theorem rd32 (g : Nat) (d : Option Nat) (s : St) (w : World) (h : RdrS w g d s) : Calls Tryz.prog 75 #[.pointer (some ⟨g, 0, none⟩)] w (RP (.int .u32 (s.num 4)) w g d (s.next 4)) := u32_any g d s.e s.l w h
theorem RR.calls {f : FuncId} {w : World} {g gr : Nat} {d : Option Nat} {all : List UInt8} {t : RSt} {k : Int} {v : Value} {args : Array Value} (h : RR w g gr d all t) (hc : RdrS w gr d t.s → Calls Tryz.prog f args w (RP v w gr d (t.s.next k))) : Calls Tryz.prog f args w (RRP v w g gr d all (t.nx k)) := by
 have h2 := h; obtain ⟨q, n, c, hq⟩ := h2; have hr := hq.rd; refine (hc hr).mono ?_; rintro e w' ⟨rfl, hg, hr'⟩; exact ⟨rfl, RStep.of_gr hg, h.read hg hr'⟩
theorem rr8 {w : World} {g gr : Nat} {d : Option Nat} {all : List UInt8} {t : RSt} (h : RR w g gr d all t) : Calls Tryz.prog 73 #[.pointer (some ⟨gr, 0, none⟩)] w (RRP (.int .u8 (t.nm 1)) w g gr d all (t.nx 1)) := h.calls (rd8 gr d t.s w)
theorem rr16 {w : World} {g gr : Nat} {d : Option Nat} {all : List UInt8} {t : RSt} (h : RR w g gr d all t) : Calls Tryz.prog 152 #[.pointer (some ⟨gr, 0, none⟩)] w (RRP (.int .u16 (t.nm 2)) w g gr d all (t.nx 2)) := h.calls (rd16 gr d t.s w)
theorem rr32 {w : World} {g gr : Nat} {d : Option Nat} {all : List UInt8} {t : RSt} (h : RR w g gr d all t) : Calls Tryz.prog 75 #[.pointer (some ⟨gr, 0, none⟩)] w (RRP (.int .u32 (t.nm 4)) w g gr d all (t.nx 4)) := h.calls (rd32 gr d t.s w)
theorem rr64 {w : World} {g gr : Nat} {d : Option Nat} {all : List UInt8} {t : RSt} (h : RR w g gr d all t) : Calls Tryz.prog 74 #[.pointer (some ⟨gr, 0, none⟩)] w (RRP (.int .u64 (t.nm 8)) w g gr d all (t.nx 8)) := h.calls (rd64 gr d t.s w)
theorem nm1 (t : RSt) : 0 ≤ t.nm 1 ∧ t.nm 1 < 256 := numV1 t.s.l t.s.e
theorem nm2 (t : RSt) : 0 ≤ t.nm 2 ∧ t.nm 2 < 65536 := numV2 t.s.l t.s.e
theorem nm4 (t : RSt) : 0 ≤ t.nm 4 ∧ t.nm 4 < 4294967296 := numV4 t.s.l t.s.e
theorem nm8 (t : RSt) : 0 ≤ t.nm 8 ∧ t.nm 8 < 18446744073709551616 := numV_lt 8 t.s.l t.s.e
theorem rrErr {w : World} {g gr : Nat} {d : Option Nat} {all : List UInt8} {t : RSt} (h : RR w g gr d all t) : Calls Tryz.prog 77 #[.pointer (some ⟨gr, 0, none⟩)] w (fun e w' => e = .returned (.int .i64 t.s.e) ∧ w = w') := by
 obtain ⟨q, n, c, hq⟩ := h; have hr := hq.rd; exact rdErr gr d t.s w hr
theorem rrLeft {w : World} {g gr : Nat} {d : Option Nat} {all : List UInt8} {t : RSt} (h : RR w g gr d all t) : Calls Tryz.prog 78 #[.pointer (some ⟨gr, 0, none⟩)] w (fun e w' => e = .returned (.int .i64 (t.s.l.length : Int)) ∧ w = w') := by
 obtain ⟨q, n, c, hq⟩ := h; have hr := hq.rd; exact rdLeft gr d t.s w hr
theorem rrRaw {w : World} {g gr : Nat} {d : Option Nat} {all : List UInt8} {t : RSt} (k : Int) (h : RR w g gr d all t) : Calls Tryz.prog 147 #[.pointer (some ⟨gr, 0, none⟩), .int .i64 k] w (fun e w' => ∃ q n c, e = .returned (.slice q n c) ∧ RStep w w' g gr ∧ RR w' g gr d all (t.nx k)) := by
 have h2 := h; obtain ⟨q, n, c, hq⟩ := h2; have hr := hq.rd; refine (raw_any gr d k t.s.e t.s.l w hr).mono ?_; rintro e w' ⟨q, c, rfl, _, hg, hr'⟩; exact ⟨q, _, c, rfl, RStep.of_gr hg, h.read hg hr'⟩
end Go.Proofs.YtocekhckmpkbmaaGreat
namespace Go.Proofs.YtocekhckmpkbmaaGreat
open Go.RowKit
/-- the reader's first cell, and the result's cells at the block that was new -/
structure RdB (w : World) (g gr : Nat) (T : TypeId) (m : Nat) (u : World) : Prop where
 c0 : u.cell? ⟨g, 0, none⟩ = some (.pointer (some ⟨gr, 0, none⟩))
 res : ∃ vs, vs.length = m ∧ RowV T u w.heap.size vs
theorem RdB.below {w u u' : World} {g gr : Nat} {T : TypeId} {m : Nat} (h : RdB w g gr T m u) (hb : Below u.heap.size u u') : RdB w g gr T m u' :=
 ⟨cell_keeps hb (Nat.le_refl _) h.c0, by obtain ⟨vs, h1, h2⟩ := h.res; exact ⟨vs, h1, h2.below hb⟩⟩
theorem RdB.step {w u u' : World} {g gr : Nat} {T : TypeId} {m : Nat} {d : Option Nat} {all : List UInt8} {t : RSt} (h : RdB w g gr T m u) (hr : RR u' g gr d all t) (hs : RStep u u' g gr) (h1 : g < w.heap.size) (h2 : gr < w.heap.size) : RdB w g gr T m u' :=
 ⟨hr.c0, by obtain ⟨vs, a, b⟩ := h.res; exact ⟨vs, a, hs.row b (by omega) (by omega)⟩⟩
theorem one_l {l : List Value} (h : l.all (fun v => v.oneCell') = true) : ∀ v ∈ l, v.oneCell' = true := fun v hv => List.all_eq_true.1 h v hv
set_option maxRecDepth 100000 in
set_option maxHeartbeats 4000000 in
theorem bare_rr {w : World} {g gr : Nat} {d : Option Nat} {all : List UInt8} {t : RSt} (h : RR w g gr d all t) :
 Calls Tryz.prog 140 #[.pointer (some ⟨g, 0, none⟩)] w (RRP (.agg #[.int .i64 (t.nm 1), .int .u16 ((t.nx 1).nm 2), .int .i64 0, .string ⟨#[]⟩]) w g gr d all ((t.nx 1).nx 2)) := by
 obtain ⟨W, hW⟩ : ∃ W, w.alloc (.cells #[.int .i64 0, .int .u16 0, .int .i64 0, .string ⟨#[]⟩] 68) = W := ⟨_, rfl⟩; have hbW : Below w.heap.size w W := by rw [← hW]; exact (Below.refl _ _).alloc (Nat.le_refl _) _
 have hrow : RowV 68 W w.heap.size [.int .i64 0, .int .u16 0, .int .i64 0, .string ⟨#[]⟩] := by rw [← hW]; exact RowV.made w _
 have hgs := lh h.lt; have hgrs := lh h.ltr; have hdn : Hid (d ≠ some w.heap.size) := fun e => by have := h.src _ e; omega
 have hrW := lh (h.below hbW); have stW := lh (RStep.of_below (g := g) (gr := gr) hbW); have hSW : Hid (RdB w g gr 68 4 W) := ⟨hrW.out.c0, _, rfl, hrow⟩; clear h hrow hbW
 go_enter Tryz.func140, Tryz.ntmps140
 go_wp2_with fail
 clear hW; refine wp_region_held (S := RdB w g gr 68 4) (by kernel_rfl) ?_; change wpAnyH _ _ _ _ _ _ _ _ (World.drew W); have hS0 : RdB w g gr 68 4 (World.drew W) := hSW.out.below (below_drew W); have hr0 := hrW.out.below (below_drew W); have st0 := stW.out.trans (RStep.of_below (below_drew W)); generalize World.drew W = u0 at hS0 hr0 st0 ⊢; refine tg 0 3 (.pointer (some ⟨g, 0, none⟩)) hS0 ?_; go_frame; refine tg 1 4 (.pointer (some ⟨g, 0, none⟩)) hS0 ?_; go_frame; refine tg 2 5 (.pointer (some ⟨g, 0, none⟩)) hS0 ?_; go_frame; refine held_tk (i := 3) (dst := some 6) rfl (v := .pointer (some ⟨gr, 0, none⟩)) rfl (.inl ⟨rfl, fun u hu => by have c0 := hu.c0; go_simp⟩) hS0 ?_; go_frame; refine tg 6 9 (.pointer (some ⟨g, 0, none⟩)) hS0 ?_; go_frame; refine tg 7 10 (.pointer (some ⟨g, 0, none⟩)) hS0 ?_; go_frame; refine tg 8 11 (.pointer (some ⟨g, 0, none⟩)) hS0 ?_; go_frame; refine held_tk (i := 9) (dst := some 12) rfl (v := .pointer (some ⟨gr, 0, none⟩)) rfl (.inl ⟨rfl, fun u hu => by have c0 := hu.c0; go_simp⟩) hS0 ?_; go_frame
 refine held_call (i := 4) (dst := some 7) rfl rfl (by kernel_rfl) rfl (by go_simp) (rr8 hr0) ?_; rintro e u1 ⟨rfl, hs1, hr1⟩; have st1 := st0.trans hs1; have hS1 : RdB w g gr 68 4 u1 := hS0.step hr1 hs1 hgs.out hgrs.out; refine ⟨_, rfl, hS1, ?_⟩; go_frame; obtain ⟨b0, b1⟩ := nm1 t; have e1 : IntKind.i64.wrap (t.nm 1) = t.nm 1 := IntWalk.i64_in _ (by omega); refine tg 5 8 (.int .i64 (t.nm 1)) hS1 ?_; go_frame; refine held_call (i := 10) (dst := some 13) rfl rfl (by kernel_rfl) rfl (by go_simp) (rr16 hr1) ?_; rintro e u2 ⟨rfl, hs2, hr2⟩; have st2 := st1.trans hs2; have hS2 : RdB w g gr 68 4 u2 := hS1.step hr2 hs2 hgs.out hgrs.out; refine ⟨_, rfl, hS2, ?_⟩; go_frame; refine held_tk (i := 11) (dst := some 14) rfl (v := .agg #[.int .i64 (t.nm 1), .int .u16 ((t.nx 1).nm 2)]) rfl (.inl ⟨rfl, fun u hu => by go_simp <;> rfl⟩) hS2 ?_; go_frame; refine held_tk (i := 12) (dst := some 15) rfl (v := .agg #[.int .i64 (t.nm 1), .int .u16 ((t.nx 1).nm 2), .int .i64 0, .string ⟨#[]⟩]) rfl (.inl ⟨rfl, fun u hu => by go_simp <;> rfl⟩) hS2 ?_; go_frame
 obtain ⟨vz, hvl, hvr⟩ := hS2.res; obtain ⟨w7, hst7, h7, hg7⟩ := run_storeVar_at (P := Tryz.prog) (ty := 68) (o := 0) (vs := [.int .i64 (t.nm 1), .int .u16 ((t.nx 1).nm 2), .int .i64 0, .string ⟨#[]⟩]) hvr (sizeRow _ _ _ _) (by rw [hvl]; exact Nat.le_refl _) (one_l rfl); rw [splice_all _ _ (by rw [hvl]; rfl)] at h7; have hgsz := hgs.out; have hgrsz := hgrs.out; have hr7 := hr2.new hg7 hgrsz (by omega) (fun e => hdn.out e); have st7 := st2.own hg7 (Nat.le_refl _); have hS7 : RdB w g gr 68 4 w7 := ⟨hr7.c0, _, rfl, h7⟩; refine held_skip (i := 13) (dst := none) (w' := w7) rfl rfl (by kernel_rfl) rfl (run_store_op rfl rfl rfl hst7) hS7 ?_; go_frame; refine wpAnyH_done (by kernel_rfl) ?_ _; have hr7 := lh hr7; have st7 := lh st7; have m0 := h7.cell 0; have m1 := h7.cell 1; have m2 := h7.cell 2; have m3 := h7.cell 3; clear hst7 h7 hg7 hS7 hvr hS0 hS1 hS2 hr0 hr1 hr2 st0 st1 st2; go_wp2; exact bodyPost_ret (v := .agg #[.int .i64 (t.nm 1), .int .u16 ((t.nx 1).nm 2), .int .i64 0, .string ⟨#[]⟩]) (by simp [results, Tryz.results140, go_sem, m0, m1, m2, m3]) rfl ⟨rfl, st7.out, hr7.out⟩
end Go.Proofs.YtocekhckmpkbmaaGreat
namespace Go.Proofs.YtocekhckmpkbmaaGreat
open Go.RowKit
section
variable {P : Program} {ops : Array Oper} {Q : Exit → Act → World → Prop} {md : Region.Mode} {S : World → Prop}
/-- one of two that are ready comes next -/
theorem br_two {i j : Nat} {fuel : Nat} {listed : Array Bool} {a : Act} {w : World} (hr : Region.ready md ops listed = [i, j])
 (hi : wpOp P ops Q i (fun a' w' => S w' ∧ wpAnyH P md ops Q S fuel (listed.setIfInBounds i true) a' w') a w)
 (hj : wpOp P ops Q j (fun a' w' => S w' ∧ wpAnyH P md ops Q S fuel (listed.setIfInBounds j true) a' w') a w) : wpAnyH P md ops Q S (fuel + 1) listed a w := by
 refine wpAnyH_all hr (by simp) (fun k hk => ?_); rcases List.mem_cons.1 hk with rfl | hk
 · exact hi
 · rw [List.mem_singleton.1 hk]; exact hj
theorem br_value {i : Nat} {o : Oper} {dst : Option Tmp} (hd : o.dst = dst) {a : Act} {w w' : World} {v : Value} {K : Act → World → Prop} (hi : ops[i]? = some o) (hw : Region.wanted o (yielded ops a.tmps) = true)
 (hrun : (execOp a.eval o).run P w = .ok (.value v) w') (h : K (a.put dst v) w') : wpOp P ops Q i K a w := by
 subst hd; unfold wpOp; simp only [hi, hw, if_true]; refine .inl ?_; unfold Oper.wp; rw [hrun, Oper.upon_value]; exact h
theorem br_call {i : Nat} {o : Oper} {dst : Option Tmp} (hd : o.dst = dst) {a : Act} {w : World} {f : FuncId} {args : Array Value} {R : Ending → World → Prop} {K : Act → World → Prop} (hi : ops[i]? = some o) (hw : Region.wanted o (yielded ops a.tmps) = true)
 (hrun : (execOp a.eval o).run P w = .ok (.enter f args) w) (hc : Calls P f args w R) (h : ∀ e w', R e w' → ∃ v, e = .returned v ∧ K (a.put dst v) w') : wpOp P ops Q i K a w := by
 subst hd; unfold wpOp; simp only [hi, hw, if_true]; refine .inl ?_; unfold Oper.wp; rw [hrun, Oper.upon_enter]; refine hc.mono fun e w' he => ?_
 obtain ⟨v, rfl, h1⟩ := h e w' he; exact h1
end
end Go.Proofs.YtocekhckmpkbmaaGreat
