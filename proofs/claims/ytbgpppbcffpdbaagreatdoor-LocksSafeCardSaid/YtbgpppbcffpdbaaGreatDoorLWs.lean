/- Waits of locks. -/
import Derived.Test.YtbgpppbcffpdbaaGreatDoorLMc
import Derived.Test.YtbgpppbcffpdbaaGreatDoorLGd
import Derived.Test.YtbgpppbcffpdbaaGreatDoorLGe
namespace Go.Proofs.YtbgpppbcffpdbaaGreatDoor
open Go.RowKit

theorem ChkOk.sorts {L : List QueD} (h : ChkOk L) : ∀ d ∈ L, SortH d.hs := fun d hd => (h.fit d hd).hs.sort

/-- the queue in which a transaction waits -/
def wtOf : List QueD → Int → Option QueD
  | [], _ => none
  | d :: L, x => if 0 ≤ waitI d.ws x then some d else wtOf L x
theorem wtOf_none : ∀ {L : List QueD} {x : Int}, NoW L x L.length → wtOf L x = none
  | [], _, _ => rfl
  | d :: L, x, h => by
    have h0 := h 0 d (by simp) rfl
    have ih : wtOf L x = none := wtOf_none (fun i e hi he => h (i + 1) e (by simp; omega) (by simpa using he))
    unfold wtOf
    rw [if_neg (by omega)]; exact ih
theorem wtOf_some : ∀ {L : List QueD} {x : Int} {i : Nat} {d : QueD}, L[i]? = some d → 0 ≤ waitI d.ws x → NoW L x i → wtOf L x = some d
  | [], _, i, d, h, _, _ => by simp at h
  | e :: L, x, 0, d, h, h0, _ => by
    simp at h; subst h
    unfold wtOf; rw [if_pos h0]
  | e :: L, x, i + 1, d, h, h0, hn => by
    have h1 := hn 0 e (by omega) rfl
    unfold wtOf
    rw [if_neg (by omega)]
    exact wtOf_some (by simpa using h) h0 (fun j a hj ha => hn (j + 1) a (by omega) (by simpa using ha))
/-- the waiter that it is there -/
def wtrOf (d : QueD) (x : Int) : WaitD := (d.ws[(waitI d.ws x).toNat]?).getD ⟨0, 0, 0⟩
theorem wtr_at {d : QueD} {x : Int} (h : 0 ≤ waitI d.ws x) : ∃ (p : Nat) (a : WaitD), waitI d.ws x = p ∧ p < d.ws.length ∧ d.ws[p]? = some a ∧ wtrOf d x = a ∧ a.x = x ∧ ∀ i b, i < p → d.ws[i]? = some b → b.x ≠ x := by
  unfold wtrOf
  unfold waitI at h ⊢
  rcases fIdx_or (fun a : WaitD => a.x == x) d.ws with ⟨h1, _⟩ | ⟨k, a, h1, h2, h3, h4⟩
  · omega
  · refine ⟨k, a, h1, (List.getElem?_eq_some_iff.1 h2).1, h2, ?_, by simpa using h3, fun i b hi hb => ?_⟩
    · rw [h1, Int.toNat_natCast, h2]; rfl
    · simpa using h4 i b hi hb
theorem not_res {w : World} {g b o : Nat} {t : Int} {k : Bool} {id m : Int} (h : RowV 30 w g [.int .i64 t, .bool k, .int .u16 id]) (hc : w.cell? ⟨b, o + 1, none⟩ = some (.int .i64 m)) : b ≠ g := fun e => by
  subst e
  rw [h.cell (o + 1)] at hc
  match o, hc with
  | 0, hc => simp at hc
  | 1, hc => simp at hc
  | o + 2, hc => simp at hc
/-- for what it waits, and in which mode -/
def WaitsR (L : List QueD) (x : Int) (r : ResD) (m : Int) (b : Bool) : Prop := (¬ ChkOk L ∧ r = ⟨0, false, 0⟩ ∧ m = 0 ∧ b = false) ∨ (ChkOk L ∧ wtOf L x = none ∧ r = ⟨0, false, 0⟩ ∧ m = 0 ∧ b = false) ∨ (ChkOk L ∧ ∃ d, wtOf L x = some d ∧ r = d.res ∧ m = (wtrOf d x).m ∧ b = true)

set_option maxRecDepth 100000 in
set_option maxHeartbeats 2000000 in
theorem waits_any (q : Option Addr) (n c : Nat) (V : List QV) (L : List QueD) (x rt : Int) (rk : Bool) (ri m : Int) (b : Bool) (he : WaitsR L x ⟨rt, rk, ri⟩ m b) (w : World) (hL : Lay w) (h : LkOn w q n c V L) (hsm : Sm L) (hn : n ≤ 1000000) :
    Calls Tryz.prog 19 #[.agg #[.slice q n c], .int .i64 x] w (fun e w' => e = .returned (.tuple #[.agg #[.int .i64 rt, .bool rk, .int .u16 ri], .int .i64 m, .bool b]) ∧ Below w.heap.size w w') := by
  obtain ⟨W0, hW0⟩ : ∃ W, w.alloc (.cells #[.slice q n c] 24) = W := ⟨_, rfl⟩
  have hb0 := Lib.hid (one_box (xs := [.slice q n c]) hW0)
  obtain ⟨W, hW⟩ : ∃ W, W0.alloc (.cells #[.int .i64 0, .bool false, .int .u16 0] 30) = W := ⟨_, rfl⟩
  have hb1 := Lib.hid (one_box (xs := [.int .i64 0, .bool false, .int .u16 0]) hW)
  have hr1 : Hid (RowV 30 W W0.heap.size [.int .i64 0, .bool false, .int .u16 0]) := RowV.made' (cs := [.int .i64 0, .bool false, .int .u16 0]) hW
  have hbW := Lib.hid (below_step hb1.out.1 hb0.out.1)
  have hs0 : Hid (W0.heap.size = w.heap.size + 1) := hb0.out.2.2
  have hs1 : Hid (W.heap.size = w.heap.size + 2) := by show _ = _; have h1 := hb1.out.2.2; have h2 := hs0.out; omega
  have hq1 := Lib.hid (hb0.out.2.1.below hb1.out.1 (Nat.le_refl _))
  have hon := Lib.hid h
  have hh := Lib.hid (h.below hbW.out (Nat.le_refl _))
  have s1 := sizeLks (.slice q n c)
  have s3 := sizeRes (.int .i64 rt) (.bool rk) (.int .u16 ri)
  have hone : ∀ y ∈ ([.int .i64 rt, .bool rk, .int .u16 ri] : List Value), y.oneCell' = true := fun y hy => by simp only [List.mem_cons, List.not_mem_nil, or_false] at hy; rcases hy with rfl | rfl | rfl <;> rfl
  have hLW : Hid (Lay W) := ⟨hL.goes hbW.out, hL.cov hbW.out⟩
  have hsm' := Lib.hid hsm
  have hn' := Lib.hid hn
  clear h hsm hL hn
  rcases he with ⟨h1, hz, rfl, rfl⟩ | ⟨h1, hw0, hz, rfl, rfl⟩ | ⟨h1, d0, hw0, hz, rfl, rfl⟩
  · cases hz
    have hc := Lib.hid (check_any q n c V L 180 (.inr ⟨rfl, h1⟩) W hLW.out hh.out hsm'.out)
    clear h1
    go_enter Tryz.func19, Tryz.ntmps19
    go_wp2_with (first
      | (with_reducible refine wpList_load_at rfl 24 (.tmp 2) rfl Tryz.underlying24 rfl s1 rfl hq1.out.all ?_)
      | (go_at_call 17; refine hc.out.mono ?_; rintro e2 w2 ⟨rfl, hb2⟩; have hb3 := Lib.hid (below_step hb2 hbW.out); have hr2 := Lib.hid (hr1.out.below hb2); clear hb2 hW hW0)
      | ((with_reducible refine wpList_store_at rfl 30 (.tmp 4) (.tmp 13) rfl (o := 0) (vs := [.int .i64 0, .bool false, .int .u16 0]) rfl rfl hr2.out s3 (Nat.le_refl _) hone ?_)
         intro w9 h9 hg9
         have q9 : Hid (RowV 30 w9 W0.heap.size [.int .i64 0, .bool false, .int .u16 0]) := h9
         have hg9' := Lib.hid hg9
         clear h9 hg9))
    have m0 := q9.out.cell 0
    have m1 := q9.out.cell 1
    have m2 := q9.out.cell 2
    simp only [List.getElem?_cons_zero, List.getElem?_cons_succ] at m0 m1 m2
    have hfin := low_step hb3.out hg9'.out (by have := hs0.out; omega)
    exact bodyPost_ret (v := .tuple #[.agg #[.int .i64 0, .bool false, .int .u16 0], .int .i64 0, .bool false]) (by simp [results, Tryz.results19, go_sem, m0, m1, m2]) rfl ⟨rfl, hfin⟩
  · cases hz
    have hc := Lib.hid (check_any q n c V L 0 (.inl ⟨rfl, h1⟩) W hLW.out hh.out hsm'.out)
    have hwt := Lib.hid (fun u (hu : Below w.heap.size w u) => waiting_any q n c V L x u (hon.out.below hu (Nat.le_refl _)) hsm'.out hn'.out h1.sorts)
    clear h1
    go_enter Tryz.func19, Tryz.ntmps19
    go_wp2_with (first
      | (with_reducible refine wpList_load_at rfl 24 (.tmp 2) rfl Tryz.underlying24 rfl s1 rfl hq2.out.all ?_)
      | (with_reducible refine wpList_load_at rfl 24 (.tmp 2) rfl Tryz.underlying24 rfl s1 rfl hq1.out.all ?_)
      | (go_at_call 17; refine hc.out.mono ?_; rintro e2 w2 ⟨rfl, hb2⟩; have hb3 := Lib.hid (below_step hb2 hbW.out); have hr2 := Lib.hid (hr1.out.below hb2); have hq2 := Lib.hid (hq1.out.below hb2 (Nat.le_refl _)); clear hb2 hW hW0)
      | (go_at_call 45
         refine (hwt.out _ hb3.out).mono ?_
         rintro e7 w5 ⟨hb8, ⟨⟨va, vb, vc⟩, vq, vn, vm, uq, un, um⟩, p, b, rfl, hcase⟩
         obtain ⟨rfl, rfl⟩ : b = false ∧ p = 0 := by
           rcases hcase with ⟨h1, h2, _⟩ | ⟨_, i, d, hd, _, hp, h0, hno⟩
           · exact ⟨h1, h2⟩
           · rw [hp] at h0; rw [wtOf_some hd h0 hno] at hw0; cases hw0
         have hb9 := Lib.hid (below_step hb8 hb3.out)
         have hr5 := Lib.hid (hr2.out.below hb8)
         obtain ⟨w6, hw6⟩ : ∃ w6, w5.alloc (.cells #[.int .i64 va, .bool vb, .int .u16 vc, .slice vq vn vm, .slice uq un um] 43) = w6 := ⟨_, rfl⟩
         have hb7 := Lib.hid (one_box (xs := [.int .i64 va, .bool vb, .int .u16 vc, .slice vq vn vm, .slice uq un um]) hw6)
         have hr6 := Lib.hid (hr5.out.below hb7.out.1)
         have hb10 := Lib.hid (below_step hb7.out.1 hb9.out)
         clear hb8 hcase
         simp only [QV.val_eq])
      | ((with_reducible refine wpList_store_at rfl 30 (.tmp 4) (.tmp 23) rfl (o := 0) (vs := [.int .i64 0, .bool false, .int .u16 0]) rfl rfl hr6.out s3 (Nat.le_refl _) hone ?_)
         intro w9 h9 hg9
         have q9 : Hid (RowV 30 w9 W0.heap.size [.int .i64 0, .bool false, .int .u16 0]) := h9
         have hg9' := Lib.hid hg9
         clear h9 hg9))
    have m0 := q9.out.cell 0
    have m1 := q9.out.cell 1
    have m2 := q9.out.cell 2
    simp only [List.getElem?_cons_zero, List.getElem?_cons_succ] at m0 m1 m2
    have hfin := low_step hb10.out hg9'.out (by have := hs0.out; omega)
    exact bodyPost_ret (v := .tuple #[.agg #[.int .i64 0, .bool false, .int .u16 0], .int .i64 0, .bool false]) (by simp [results, Tryz.results19, go_sem, m0, m1, m2]) rfl ⟨rfl, hfin⟩
  · have hc := Lib.hid (check_any q n c V L 0 (.inl ⟨rfl, h1⟩) W hLW.out hh.out hsm'.out)
    have hwt := Lib.hid (fun u (hu : Below w.heap.size w u) => waiting_any q n c V L x u (hon.out.below hu (Nat.le_refl _)) hsm'.out hn'.out h1.sorts)
    clear h1
    go_enter Tryz.func19, Tryz.ntmps19
    go_wp2_with (first
      | (with_reducible refine wpList_load_at rfl 24 (.tmp 2) rfl Tryz.underlying24 rfl s1 rfl hq2.out.all ?_)
      | (with_reducible refine wpList_load_at rfl 24 (.tmp 2) rfl Tryz.underlying24 rfl s1 rfl hq1.out.all ?_)
      | (go_at_call 17; refine hc.out.mono ?_; rintro e2 w2 ⟨rfl, hb2⟩; have hb3 := Lib.hid (below_step hb2 hbW.out); have hr2 := Lib.hid (hr1.out.below hb2); have hq2 := Lib.hid (hq1.out.below hb2 (Nat.le_refl _)); clear hb2 hW hW0)
      | (go_at_call 45
         refine (hwt.out _ hb3.out).mono ?_
         rintro e7 w5 ⟨hb8, ⟨⟨va, vb, vc⟩, vq, vn, vm, uq, un, um⟩, p, b, rfl, hcase⟩
         obtain ⟨rfl, hv5, hp, h0⟩ : b = true ∧ QV.On w2 ⟨⟨va, vb, vc⟩, vq, vn, vm, uq, un, um⟩ d0 ∧ p = waitI d0.ws x ∧ 0 ≤ waitI d0.ws x := by
           rcases hcase with ⟨_, _, hno⟩ | ⟨h1, i, d, hd, hv, hp, h0, hno⟩
           · rw [wtOf_none hno] at hw0; cases hw0
           · rw [hp] at h0; rw [wtOf_some hd h0 hno] at hw0; cases hw0; exact ⟨h1, hv, hp, h0⟩
         have hb9 := Lib.hid (below_step hb8 hb3.out)
         have hr5 := Lib.hid (hr2.out.below hb8)
         obtain ⟨w6, hw6⟩ : ∃ w6, w5.alloc (.cells #[.int .i64 va, .bool vb, .int .u16 vc, .slice vq vn vm, .slice uq un um] 43) = w6 := ⟨_, rfl⟩
         have hb7 := Lib.hid (one_box (xs := [.int .i64 va, .bool vb, .int .u16 vc, .slice vq vn vm, .slice uq un um]) hw6)
         have hr6 := Lib.hid (hr5.out.below hb7.out.1)
         have hb10 := Lib.hid (below_step hb7.out.1 hb9.out)
         have hv6 := Lib.hid hv5
         have hp6 := Lib.hid (And.intro hp h0)
         have hb8' := Lib.hid hb8
         clear hb8 hcase hv5 hp h0
         simp only [QV.val_eq]))
    obtain ⟨k, a, e1, e2, e3, e4, _, _⟩ := wtr_at hp6.out.2
    have hpk : p = (k : Int) := by rw [hp6.out.1]; exact e1
    subst hpk
    obtain ⟨A, a', hqA, ha', hcl⟩ := hv6.out.ws.at (i := k) (by have h1 : d0.ws.length = un := hv6.out.ws.len; show k < un; omega)
    rw [e3] at ha'
    cases ha'
    replace hqA : uq = some A := hqA
    subst hqA
    have k0 : (0 : Int) ≤ k := by omega
    have k1 : (k : Int) < un := by have h1 : d0.ws.length = un := hv6.out.ws.len; omega
    have hres : (⟨va, vb, vc⟩ : ResD) = d0.res := hv6.out.res
    rw [← hres] at hz
    cases hz
    have hm : Hid ((wtrOf d0 x).m = a.m) := by show _ = _; rw [e4]
    clear hw6 e1 e2 e3 e4 hp6 hres hwt hc
    have hS0 : Below w6.heap.size w6 w6.drew := below_drew' w6
    have hbx : Boxed w6.drew w5.heap.size [.int .i64 rt, .bool rk, .int .u16 ri, .slice vq vn vm, .slice (some A) un um] ∧ w6.drew.cell? ⟨(A.add (k * 3)).block, (A.add (k * 3)).off + 1, none⟩ = some (.int .i64 a.m) := ⟨hb7.out.2.1.below hS0 (Nat.le_refl _), cell_kept (below_step hS0 (below_step hb7.out.1 hb8'.out)) (Nat.le_refl _) (hcl 1 _ rfl)⟩
    have hAlt : (A.add (k * 3)).block ≠ W0.heap.size := not_res hr2.out (hcl 1 _ rfl)
    obtain ⟨X, hst, hX, hgX⟩ := run_storeVar_at (P := Tryz.prog) (ty := 30) (o := 0) (vs := [.int .i64 rt, .bool rk, .int .u16 ri]) (hr6.out.below hS0) s3 (Nat.le_refl _) hone
    have hSX : Boxed X w5.heap.size [.int .i64 rt, .bool rk, .int .u16 ri, .slice vq vn vm, .slice (some A) un um] ∧ X.cell? ⟨(A.add (k * 3)).block, (A.add (k * 3)).off + 1, none⟩ = some (.int .i64 a.m) := ⟨fun j y hj => cell_ne' hgX (fun e => by
      rw [add_blk] at e
      have e2 : W0.heap.size = w5.heap.size := by simpa using e
      have h3 := (hr5.out.lt)
      omega) (hbx.1 j y hj), cell_ne' hgX (fun e => by
      have e2 : W0.heap.size = (A.add (k * 3)).block := by simpa using e
      exact hAlt e2.symm) hbx.2⟩
    refine wp_region_held (S := fun u => Boxed u w5.heap.size [.int .i64 rt, .bool rk, .int .u16 ri, .slice vq vn vm, .slice (some A) un um] ∧ u.cell? ⟨(A.add (k * 3)).block, (A.add (k * 3)).off + 1, none⟩ = some (.int .i64 a.m)) (by kernel_rfl) ?_
    change wpAnyH _ _ _ _ _ _ _ _ (World.drew w6)
    refine held_take (i := 0) (dst := some 24) (v := .pointer (some ⟨w5.heap.size, 0, none⟩)) rfl rfl (by kernel_rfl) (by kernel_rfl) (by kernel_rfl) (fun _ _ _ h => h) (.inl ⟨rfl, fun u hu => by go_simp⟩) hbx ?_
    go_frame
    refine held_take (i := 1) (dst := some 25) (v := .agg #[.int .i64 rt, .bool rk, .int .u16 ri]) rfl rfl (by kernel_rfl) (by kernel_rfl) (by kernel_rfl) (fun _ _ _ h => h) (y_load_agg 30 (.tmp 24) rfl rfl rfl (fun u hu => run_loadVar_at Tryz.underlying30 rfl (sizeRes _ _ _) _ (fun j y hj => by rw [addr0]; exact hu.1.cell j (by match j, hj with | 0, h => exact h | 1, h => exact h | 2, h => exact h | j + 3, h => simp at h)))) hbx ?_
    go_frame
    refine held_take (i := 2) (dst := some 26) (v := .pointer (some ⟨w5.heap.size, 4, none⟩)) rfl rfl (by kernel_rfl) (by kernel_rfl) (by kernel_rfl) (fun _ _ _ h => h) (.inl ⟨rfl, fun u hu => by go_simp⟩) hbx ?_
    go_frame
    refine held_take (i := 3) (dst := some 27) (v := .slice (some A) un um) rfl rfl (by kernel_rfl) (by kernel_rfl) (by kernel_rfl) (fun _ _ _ h => h) (.inl ⟨rfl, fun u hu => by have c4 := hu.1.cell 4 rfl; go_simp⟩) hbx ?_
    go_frame
    refine held_take (i := 4) (dst := some 28) (v := .int .i64 k) rfl rfl (by kernel_rfl) (by kernel_rfl) (by kernel_rfl) (fun _ _ _ h => h) (y_move (.tmp 8) rfl rfl rfl) hbx ?_
    go_frame
    refine held_take (i := 5) (dst := some 29) (v := .pointer (some (A.add (k * 3)))) rfl rfl (by kernel_rfl) (by kernel_rfl) (by kernel_rfl) (fun _ _ _ h => h) (.inl ⟨rfl, fun u hu => by go_simp⟩) hbx ?_
    go_frame
    refine held_take (i := 6) (dst := some 30) (v := .pointer (some ⟨(A.add (k * 3)).block, (A.add (k * 3)).off + 1, none⟩)) rfl rfl (by kernel_rfl) (by kernel_rfl) (by kernel_rfl) (fun _ _ _ h => h) (.inl ⟨rfl, fun u hu => by go_simp⟩) hbx ?_
    go_frame
    refine held_take (i := 7) (dst := some 31) (v := .int .i64 a.m) rfl rfl (by kernel_rfl) (by kernel_rfl) (by kernel_rfl) (fun _ _ _ h => h) (.inl ⟨rfl, fun u hu => by have c4 := hu.2; go_simp⟩) hbx ?_
    go_frame
    refine held_skip (i := 8) (dst := none) rfl rfl (by kernel_rfl) rfl (run_store_op (x := .tmp 4) (y := .tmp 25) rfl rfl rfl hst) hSX ?_
    go_frame
    refine held_take (i := 9) (dst := some 5) (v := .int .i64 a.m) rfl rfl (by kernel_rfl) (by kernel_rfl) (by kernel_rfl) (fun _ _ _ h => h) (.inl ⟨rfl, fun u hu => by go_simp⟩) hSX ?_
    go_frame
    refine held_take (i := 10) (dst := some 6) (v := .bool true) rfl rfl (by kernel_rfl) (by kernel_rfl) (by kernel_rfl) (fun _ _ _ h => h) (.inl ⟨rfl, fun u hu => by go_simp⟩) hSX ?_
    go_frame
    refine wpAnyH_done (by kernel_rfl) ?_ _
    have q9 : Hid (RowV 30 X W0.heap.size [.int .i64 rt, .bool rk, .int .u16 ri]) := hX
    have hgX' := Lib.hid hgX
    clear hst hSX hbx hX hgX hAlt
    go_wp2
    have m0 := q9.out.cell 0
    have m1 := q9.out.cell 1
    have m2 := q9.out.cell 2
    simp only [List.getElem?_cons_zero, List.getElem?_cons_succ] at m0 m1 m2
    have hfin : Below w.heap.size w X := low_step (below_step hS0 hb10.out) hgX'.out (by have := hs0.out; omega)
    exact bodyPost_ret (v := .tuple #[.agg #[.int .i64 rt, .bool rk, .int .u16 ri], .int .i64 a.m, .bool true]) (by simp [results, Tryz.results19, go_sem, m0, m1, m2]) rfl ⟨by rw [hm.out], hfin⟩
end Go.Proofs.YtbgpppbcffpdbaaGreatDoor
