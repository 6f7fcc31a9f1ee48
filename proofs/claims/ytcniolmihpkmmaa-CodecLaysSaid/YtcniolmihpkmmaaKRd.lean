/- The reader of codec: key and row. -/
import Derived.Test.YtcniolmihpkmmaaKRow
namespace Go.Proofs.Ytcniolmihpkmmaa
open Go.RowKit

theorem run_store_op {P : Program} {o : Oper} {a : Act} {w w' : World} {ty : TypeId} {x y : Operand} {ad : Addr} {v : Value} (ho : o.op = .store ty x y) (hx : a.eval x = .pointer (some ad)) (hy : a.eval y = v) (h : (storeVar ty ad v).run P w = .ok () w') : (execOp a.eval o).run P w = .ok .skip w' := by
  subst hy
  unfold execOp
  simp only [ho, hx, Instr.storeAt, Instr.sureAddr, Sem.run_bind, Sem.run_pure, Result.andThen_ok, h]

/-- the state of a reader: what is ahead, and what it is stuck with -/
structure St where
  l : List UInt8
  e : Int
def St.next (k : Int) (s : St) : St := ⟨nextL k s.l s.e, nextE k s.l s.e⟩
def St.num (k : Int) (s : St) : Int := numV k s.l s.e
def St.raw (k : Int) (s : St) : List UInt8 := rawL k s.l s.e
def RdrS (w : World) (g : Nat) (d : Option Nat) (s : St) : Prop := Rdr w g d s.l s.e
theorem RdrS.below {w w' : World} {g : Nat} {d : Option Nat} {s : St} (r : RdrS w g d s) (hb : Below w.heap.size w w') : RdrS w' g d s := Rdr.below r hb
theorem RdrS.lt {w : World} {g : Nat} {d : Option Nat} {s : St} (r : RdrS w g d s) : g < w.heap.size := by obtain ⟨_, _, _, hr, _⟩ := r; exact hr.lt
theorem RdrS.keep {w w' : World} {g h : Nat} {d : Option Nat} {s : St} (r : RdrS w g d s) (hg : w.grownBy w' (some h)) (h1 : h ≠ g) (h2 : d ≠ some h) : RdrS w' g d s := Rdr.keep r hg h1 h2
theorem RdrS.src {w : World} {g : Nat} {d : Option Nat} {s : St} (r : RdrS w g d s) : ∀ x, d = some x → x < w.heap.size := by obtain ⟨_, _, _, _, _, _, _, _, _, h⟩ := r; exact h
/-- what a reading leaves -/
def RP (v : Value) (w : World) (g : Nat) (d : Option Nat) (s' : St) (e : Ending) (w' : World) : Prop := e = .returned v ∧ w.grownBy w' (some g) ∧ RdrS w' g d s'
def rdV (g : Nat) : Value := .agg #[.pointer (some ⟨g, 0, none⟩)]

theorem rd8 (g : Nat) (d : Option Nat) (s : St) (w : World) (h : RdrS w g d s) : Calls Try.prog 48 #[.pointer (some ⟨g, 0, none⟩)] w (RP (.int .u8 (s.num 1)) w g d (s.next 1)) := u8_any g d s.e s.l w h
theorem rd16 (g : Nat) (d : Option Nat) (s : St) (w : World) (h : RdrS w g d s) : Calls Try.prog 65 #[.pointer (some ⟨g, 0, none⟩)] w (RP (.int .u16 (s.num 2)) w g d (s.next 2)) := u16_any g d s.e s.l w h
theorem rd64 (g : Nat) (d : Option Nat) (s : St) (w : World) (h : RdrS w g d s) : Calls Try.prog 52 #[.pointer (some ⟨g, 0, none⟩)] w (RP (.int .u64 (s.num 8)) w g d (s.next 8)) := u64_any g d s.e s.l w h
theorem rdErr (g : Nat) (d : Option Nat) (s : St) (w : World) (h : RdrS w g d s) : Calls Try.prog 49 #[.pointer (some ⟨g, 0, none⟩)] w (fun e w' => e = .returned (.int .i64 s.e) ∧ w = w') := err_any g d s.e s.l w h
theorem rdLeft (g : Nat) (d : Option Nat) (s : St) (w : World) (h : RdrS w g d s) : Calls Try.prog 47 #[.pointer (some ⟨g, 0, none⟩)] w (fun e w' => e = .returned (.int .i64 (s.l.length : Int)) ∧ w = w') := left_any g d s.e s.l w h

def keyD (s : St) : KeyD := ⟨s.num 1, (s.next 1).num 2⟩
def keyS (s : St) : St := (s.next 1).next 2
theorem keyD_ok (s : St) : 0 ≤ (keyD s).t ∧ (keyD s).t < 256 ∧ 0 ≤ (keyD s).id ∧ (keyD s).id < 65536 := by
  have h1 := numV1 s.l s.e
  have h2 := numV2 (s.next 1).l (s.next 1).e
  exact ⟨h1.1, h1.2, h2.1, h2.2⟩

/-- the reader's box, the key's cells, and what lies between -/
structure KyS (w : World) (b g : Nat) (d : Option Nat) (u : World) : Prop where
  box : Boxed u b [.pointer (some ⟨g, 0, none⟩)]
  res : ∃ vs, vs.length = 2 ∧ RowV 40 u (b + 1) vs
  gr : w.grownBy u (some g)
theorem KyS.on {W : World} {b g : Nat} {d : Option Nat} {u v : World} (h : KyS W b g d u) (hg : u.grownBy v (some g)) (hb : g < b) : KyS W b g d v :=
  ⟨h.box.gr hg (by omega), by obtain ⟨vs, h1, h2⟩ := h.res; exact ⟨vs, h1, h2.gr hg (by omega)⟩, h.gr.trans hg⟩

set_option maxRecDepth 100000 in
set_option maxHeartbeats 2000000 in
theorem key_any (g : Nat) (d : Option Nat) (s : St) (w : World) (h : RdrS w g d s) :
    Calls Try.prog 51 #[.agg #[.pointer (some ⟨g, 0, none⟩)]] w (RP (.agg #[.int .i64 (keyD s).t, .int .u16 (keyD s).id]) w g d (keyS s)) := by
  obtain ⟨W, hW⟩ : ∃ W, (w.alloc (.cells #[.pointer (some ⟨g, 0, none⟩)] 73)).alloc (.cells #[.int .i64 0, .int .u16 0] 40) = W := ⟨_, rfl⟩
  have hbx := Lib.hid (two_boxes (xs := [.pointer (some ⟨g, 0, none⟩)]) (ys := [.int .i64 0, .int .u16 0]) hW)
  have hres : RowV 40 W (w.heap.size + 1) [.int .i64 0, .int .u16 0] := by
    have h0 := RowV.made (T := 40) (w.alloc (.cells #[.pointer (some ⟨g, 0, none⟩)] 73)) [.int .i64 0, .int .u16 0]
    rw [← hW]; simpa using h0
  have hg := h.lt
  have hsrc := Lib.hid h.src
  have hr := Lib.hid (h.below hbx.out.1)
  obtain ⟨k0, k1, k2, k3⟩ := keyD_ok s
  go_enter Try.func51, Try.ntmps51
  go_wp2
  clear hW
  have hS0 : KyS w w.heap.size g d W.drew := ⟨hbx.out.2.1.below (below_drew W) (Nat.le_refl _), ⟨_, rfl, hres.below (below_drew W)⟩, below_grown (hbx.out.1.trans ((below_drew W).mono hbx.out.1.size)) _⟩
  refine wp_region_held (S := KyS w w.heap.size g d) (by kernel_rfl) ?_
  change wpAnyH _ _ _ _ _ _ _ _ (World.drew W)
  refine held_take (i := 0) (dst := some 3) (v := .pointer (some ⟨w.heap.size, 0, none⟩)) rfl rfl (by kernel_rfl) (by kernel_rfl) (by kernel_rfl) (fun _ _ _ h => h) (.inl ⟨rfl, fun W _ => by go_simp⟩) hS0 ?_
  go_frame
  refine held_take (i := 1) (dst := some 4) (v := .pointer (some ⟨g, 0, none⟩)) rfl rfl (by kernel_rfl) (by kernel_rfl) (by kernel_rfl) (fun _ _ _ h => h) (.inl ⟨rfl, fun W hW => by have c0 := hW.box.cell 0 rfl; go_simp⟩) hS0 ?_
  go_frame
  refine held_take (i := 4) (dst := some 7) (v := .pointer (some ⟨w.heap.size, 0, none⟩)) rfl rfl (by kernel_rfl) (by kernel_rfl) (by kernel_rfl) (fun _ _ _ h => h) (.inl ⟨rfl, fun W _ => by go_simp⟩) hS0 ?_
  go_frame
  refine held_take (i := 5) (dst := some 8) (v := .pointer (some ⟨g, 0, none⟩)) rfl rfl (by kernel_rfl) (by kernel_rfl) (by kernel_rfl) (fun _ _ _ h => h) (.inl ⟨rfl, fun W hW => by have c0 := hW.box.cell 0 rfl; go_simp⟩) hS0 ?_
  go_frame
  refine held_call (i := 2) (dst := some 5) rfl rfl (by kernel_rfl) rfl (by go_simp) (rd8 g d s _ (hr.out.below (below_drew W))) ?_
  rintro e u1 ⟨rfl, hg1, hr1⟩
  have hS1 := hS0.on hg1 hg
  refine ⟨_, rfl, hS1, ?_⟩
  go_frame
  have w1 : IntKind.i64.wrap (s.num 1) = (keyD s).t := IntWalk.i64_in _ (by have : (keyD s).t = s.num 1 := rfl; omega)
  refine held_take (i := 3) (dst := some 6) (v := .int .i64 (keyD s).t) rfl rfl (by kernel_rfl) (by kernel_rfl) (by kernel_rfl) (fun _ _ _ h => h) (.inl ⟨rfl, fun W hW => by go_simp⟩) hS1 ?_
  go_frame
  refine held_call (i := 6) (dst := some 9) rfl rfl (by kernel_rfl) rfl (by go_simp) (rd16 g d (s.next 1) _ hr1) ?_
  rintro e u2 ⟨rfl, hg2, hr2⟩
  have hS2 := hS1.on hg2 hg
  refine ⟨_, rfl, hS2, ?_⟩
  go_frame
  refine held_take (i := 7) (dst := some 10) (v := .agg #[.int .i64 (keyD s).t, .int .u16 (keyD s).id]) rfl rfl (by kernel_rfl) (by kernel_rfl) (by kernel_rfl) (fun _ _ _ h => h) (.inl ⟨rfl, fun W hW => by go_simp; rfl⟩) hS2 ?_
  go_frame
  obtain ⟨vs, hvl, hvr⟩ := hS2.res
  obtain ⟨w7, hst, h7, hg7⟩ := run_storeVar_at (P := Try.prog) (ty := 40) (o := 0) (vs := [.int .i64 (keyD s).t, .int .u16 (keyD s).id]) hvr (sizeKey _ _) (by rw [hvl]; exact Nat.le_refl _) (KeyD.one _)
  rw [splice_all _ _ (by rw [hvl]; rfl)] at h7
  have hne : w.heap.size + 1 ≠ g := by omega
  have hr7 : RdrS w7 g d (keyS s) := hr2.keep hg7 hne (fun e => by have := hsrc.out _ e; omega)
  have hS7 : KyS w w.heap.size g d w7 := ⟨hS2.box.gr hg7 (by omega), ⟨_, rfl, h7⟩, Gr.own hS2.gr hg7 (by omega)⟩
  refine held_skip (i := 8) (dst := none) (w' := w7) rfl rfl (by kernel_rfl) rfl (run_store_op rfl rfl rfl hst) hS7 ?_
  go_frame
  refine wpAnyH_done (by kernel_rfl) ?_ _
  have hr7' := Lib.hid hr7
  have hgr := Lib.hid hS7.gr
  have s7 : RowV 40 w7 (w.heap.size + 1) [.int .i64 (keyD s).t, .int .u16 (keyD s).id] := h7
  have m0 := s7.cell 0
  have m1 := s7.cell 1
  simp only [List.getElem?_cons_zero, List.getElem?_cons_succ] at m0 m1
  clear hst h7 hg7 hS7 hS2 hS1 hS0 hr7 w1 hvr hres
  go_wp2
  exact bodyPost_ret (v := .agg #[.int .i64 (keyD s).t, .int .u16 (keyD s).id]) (by simp [results, Try.results51, go_sem, m0, m1]) rfl ⟨rfl, hgr.out, hr7'.out⟩
end Go.Proofs.Ytcniolmihpkmmaa
