/- DiskHides: what hides behind the cache. -/
import Derived.Test.YtffchpgjaoakpaaBlkEq
import Derived.Test.YtffchpgjaoakpaaHidesP
import Derived.Test.YtffchpgjaoakpaaPair
import Derived.BigQuiet
import Derived.Deep.QuietTactic
namespace Go.Proofs.Ytffchpgjaoakpaa
open Go.ChangeShapes Go.WideShapes Go.ChangeAt Go.RowKit

structure HideRel (w W : World) (p : Pl) (d : Dk) (o : OpV) : Prop where
  mine : Mine w W p d
  op : RowV 35 W w.heap.size o.cells
  far : w.heap.size ∉ p.L
theorem HideRel.tch {w W W' : World} {p : Pl} {d d' : Dk} {o : OpV} (h : HideRel w W p d o) (k : At W' p d') (ht : Tch p.L W W') : HideRel w W' p d' o :=
  ⟨h.mine.tch k ht, h.op.tch ht h.far, h.far⟩

theorem HideRel.made {w W W' : World} {p : Pl} {d : Dk} {o : OpV} {A : Obj} (h : HideRel w W p d o) (hg : (W.alloc A).grownBy W' (some W.heap.size)) : HideRel w W' p d o := by
  have hlt := h.op.lt
  refine ⟨⟨(h.mine.disk.alloc A).other hg (h.mine.disk.not_in (Nat.le_refl _)), (h.mine.below.alloc h.mine.below.size A).grown hg (by rw [World.size_alloc]; have := h.mine.below.size; omega) (fun j e => by cases e; exact h.mine.below.size), h.mine.low⟩, ?_, h.far⟩
  exact (h.op.block (heap_alloc_old _ _ hlt)).kept hg (by omega)

/-- the two operations, and the block that was read -/
structure SR (W : World) (B1 B2 B3 : Nat) (c1 c2 : List Value) (X : List Int) : Prop where
  r1 : RowV 35 W B1 c1
  r2 : RowV 35 W B2 c2
  r3 : RowV 37 W B3 (bl X)
theorem SR.below {W W' : World} {B1 B2 B3 : Nat} {c1 c2 : List Value} {X : List Int} (h : SR W B1 B2 B3 c1 c2 X) (hb : Below W.heap.size W W') : SR W' B1 B2 B3 c1 c2 X := ⟨h.r1.below hb, h.r2.below hb, h.r3.below hb⟩
theorem SR.tch {W W' : World} {B1 B2 B3 : Nat} {c1 c2 : List Value} {X : List Int} {L : List Nat} (h : SR W B1 B2 B3 c1 c2 X) (ht : Tch L W W') (n1 : B1 ∉ L) (n2 : B2 ∉ L) (n3 : B3 ∉ L) : SR W' B1 B2 B3 c1 c2 X := ⟨h.r1.tch ht n1, h.r2.tch ht n2, h.r3.tch ht n3⟩
theorem SR.made {W W' : World} {B1 B2 B3 : Nat} {c1 c2 : List Value} {X : List Int} {A : Obj} (h : SR W B1 B2 B3 c1 c2 X) (hg : (W.alloc A).grownBy W' (some W.heap.size)) : SR W' B1 B2 B3 c1 c2 X := by
  have l1 := h.r1.lt
  have l2 := h.r2.lt
  have l3 := h.r3.lt
  exact ⟨(h.r1.block (heap_alloc_old _ _ l1)).kept hg (by omega), (h.r2.block (heap_alloc_old _ _ l2)).kept hg (by omega), (h.r3.block (heap_alloc_old _ _ l3)).kept hg (by omega)⟩
theorem Mine.made {w W W' : World} {p : Pl} {d : Dk} {A : Obj} (h : Mine w W p d) (hg : (W.alloc A).grownBy W' (some W.heap.size)) : Mine w W' p d :=
  ⟨(h.disk.alloc A).other hg (h.disk.not_in (Nat.le_refl _)), (h.below.alloc h.below.size A).grown hg (by rw [World.size_alloc]; have := h.below.size; omega) (fun j e => by cases e; exact h.below.size), h.low⟩

theorem y_neq_blk {ops : Array Oper} {S : World → Prop} {a : Act} {o : Oper} {x y : Operand} {t : TypeId} (ho : o.op = .binOp .neq 37 x y t) (hw : Region.wanted o (yielded ops a.tmps) = true) {xs ys : List Int} (hx : a.eval x = agg xs) (hy : a.eval y = agg ys) (h1 : xs.length = 64) (h2 : ys.length = 64) :
    YieldsIf Try.prog ops S o (.bool (!(xs == ys))) a := by
  refine .inl ⟨hw, fun w _ => ?_⟩
  have hb := run_neq_blk x y xs ys h1 h2 w
  simp only [Sem.run_bind] at hb
  unfold execOp
  simp only [ho, hx, hy, Sem.run_bind, hb, Result.andThen_ok, Sem.run_pure]
theorem y_eql_blk {ops : Array Oper} {S : World → Prop} {a : Act} {o : Oper} {x y : Operand} {t : TypeId} (ho : o.op = .binOp .eql 37 x y t) (hw : Region.wanted o (yielded ops a.tmps) = true) {xs ys : List Int} (hx : a.eval x = agg xs) (hy : a.eval y = agg ys) (h1 : xs.length = 64) (h2 : ys.length = 64) :
    YieldsIf Try.prog ops S o (.bool (xs == ys)) a := by
  refine .inl ⟨hw, fun w _ => ?_⟩
  have hb := run_eql_blk x y xs ys h1 h2 w
  simp only [Sem.run_bind] at hb
  unfold execOp
  simp only [ho, hx, hy, Sem.run_bind, hb, Result.andThen_ok, Sem.run_pure]

set_option maxRecDepth 100000 in
set_option maxHeartbeats 4000000 in
theorem hides_any (n : Int) (v : Value) (os : List OpV) (o : OpV) (w : World) (hn : I64 n) (hv : IsOps w v os) (ho : IsOp w o) :
    Calls Try.prog 7 #[.int .i64 n, v, .agg o.cells.toArray] w (fun e w' => e = .returned (.bool true) ∧ Below w.heap.size w w') := by
  have hsz := szOf_le n
  have hv0 := Lib.hid hv
  have ho0 := Lib.hid ho
  obtain ⟨q, c, rfl, _⟩ := hv.shape
  obtain ⟨kq, kc, hkv, _⟩ := ho.keep
  obtain ⟨kind, pos, num, byte, ks, kv⟩ := o
  simp only at hkv
  subst hkv
  obtain ⟨o, hoe⟩ : ∃ o : OpV, (⟨kind, pos, num, byte, ks, .slice kq ks.length kc⟩ : OpV) = o := ⟨_, rfl⟩
  have hoe' := Lib.hid hoe
  have hcs : o.cells = [.int .i64 kind, .int .i64 pos, .int .i64 num, .int .u8 byte, .slice kq ks.length kc] := by rw [← hoe]; rfl
  rw [hoe] at ho0 ⊢
  have hcs' := Lib.hid hcs
  clear hv ho hoe
  have hop0 : Hid (RowV 35 (w.alloc (.cells o.cells.toArray 35)) w.heap.size o.cells) := RowV.made w o.cells
  have hsz5 : (Try.prog.info? 35).map (·.size) = some [Value.int .i64 kind, .int .i64 pos, .int .i64 num, .int .u8 byte, .slice kq ks.length kc].length := by kernel_rfl
  rw [hcs]
  rw [hcs] at hop0
  clear hcs
  go_enter Try.func7, Try.ntmps7
  go_wp2_with fail
  refine (wakes_any _).mono ?_
  rintro e w1 ⟨rfl, hb1⟩
  have hB1 : Hid (Below w.heap.size w w1) := ((Below.refl _ _).alloc (Nat.le_refl _) _).trans (hb1.mono (by simp))
  have hop1 := Lib.hid (hop0.out.below hb1)
  have hlt1 : w.heap.size < w1.heap.size := hop1.out.lt
  clear hb1 hop0
  go_wp2_with fail
  refine (played_any n _ os w1 hn (hv0.out.below hB1.out (Nat.le_refl _))).mono ?_
  rintro e w2 ⟨p, d, rfl, hm, hc, ho1, ho2⟩
  have h2 : Hid (HideRel w w2 p d o) := ⟨⟨hm.disk, hB1.out.trans (hm.below.mono hB1.out.size), fun x hx => Nat.le_trans hB1.out.size (hm.low x hx)⟩, by rw [hcs'.out]; exact hop1.out.below hm.below, fun hx => by have := hm.low _ hx; omega⟩
  have hc2 := Lib.hid hc
  have ho2' := Lib.hid (And.intro ho1 ho2)
  clear hm hc ho1 ho2 hop1
  have h2q : ∀ nq, Hid (HideRel w (w2.drewN nq) p d o) := fun nq => ⟨h2.out.mine.stay (below_drewN w2 nq), h2.out.op.below (below_drewN w2 nq), h2.out.far⟩
  have cp : w2.cell? ⟨w.heap.size, 1, none⟩ = some (.int .i64 pos) := by have h := h2.out.op.cell 1; rw [hcs'.out] at h; exact h
  go_wp2_with fail
  by_cases hp0 : 0 ≤ pos
  · by_cases hp1 : pos < d.held.length
    · go_quiet (first | (go_at_call 20; refine Calls.quiet_of_same (len_any p d _ (h2q _).out.mine.disk)))
      rename_i nq _
      have hsy := Lib.hid (sync_any p d _ (h2q nq).out.mine.disk ho2'.out.1 (by have := ho2'.out.2; omega))
      rw [hc2.out.sy] at hsy
      have hp1n : pos < szOf n := by rw [← hc2.out.len]; exact hp1
      go_wp2_with (first
        | (go_at_call 27; refine hsy.out.mono ?_; clear hsy; rintro e w3 ⟨rfl, hA, hT⟩
           have h3 := Lib.hid ((h2q _).out.tch hA hT)
           have cp3 : w3.cell? ⟨w.heap.size, 1, none⟩ = some (.int .i64 pos) := by have h := h3.out.op.cell 1; rw [hcs'.out] at h; exact h
           have hX : ((hd1 d).says pos).length = 64 := Dk.says_len hA.good hp0 (by rw [(calm1 hc2.out).len]; exact hp1n)
           have hrd := read_any p (hd1 d) w3 hA (by have := ho2'.out.1; show (0 : Int) ≤ d.ops + 1; omega) (by have := ho2'.out.2; show d.ops + 1 < 4611686018427387904; omega) pos
           rw [(calm1 hc2.out).rd hp0 hp1n] at hrd
           obtain ⟨X, hXe⟩ : ∃ X, (hd1 d).says pos = X := ⟨_, rfl⟩
           rw [hXe] at hrd hX
           have hrd' := Lib.hid hrd
           have hXe' := Lib.hid hXe
           clear hA hT hrd hXe)
        | (go_at_call 19; refine hrd'.out.mono ?_; clear hrd'; rintro e w4 ⟨rfl, hA, hT⟩
           have h4 : Hid (HideRel w w4 p (hd2 d) o) := h3.out.tch hA hT
           have r4 : Hid (RowV 37 (w4.alloc (.cells (bl z64).toArray 37)) w4.heap.size (bl z64)) := RowV.made w4 _
           clear hA hT cp3)
        | (with_reducible refine wpList_alloc_z rfl 37 rfl alloc37z ?_)
        | ((with_reducible refine wpList_store_at rfl 37 (.tmp 9) (.tmp 47) rfl (o := 0) rfl rfl r4.out (bl_size hX) (bl_fits hX z64_len) (bl_one X) ?_)
           intro w5 hr5 hg5
           rw [bl_splice hX z64_len] at hr5
           have h5 := Lib.hid (h4.out.made hg5)
           have r5 := Lib.hid hr5
           have hop5 := Lib.hid h5.out.op
           rw [hcs'.out] at hop5
           clear hr5 hg5)
        | (with_reducible refine wpList_load_at rfl 35 (.tmp 5) rfl Try.underlying35 rfl hsz5 rfl (hop5.out.part (o := 0) (pre := []) (rest := []) (by simp) rfl) ?_))
      obtain ⟨w6, hw6⟩ : ∃ w6, w5.alloc (.cells #[.int .i64 kind, .int .i64 pos, .int .i64 num, .int .u8 ((byte + 1) % 256), .slice kq ks.length kc] 35) = w6 := ⟨_, rfl⟩
      have h6 : HideRel w w6 p (hd2 d) o := by rw [← hw6]; exact ⟨h5.out.mine.stay ((Below.refl _ _).alloc (Nat.le_refl _) _), h5.out.op.block (heap_alloc_old _ _ h5.out.op.lt), h5.out.far⟩
      have q6 : RowV 35 w6 w5.heap.size (⟨kind, pos, num, (byte + 1) % 256, ks, .slice kq ks.length kc⟩ : OpV).cells := by rw [← hw6]; exact RowV.made w5 _
      have r6 : RowV 37 w6 w4.heap.size (bl X) := by rw [← hw6]; exact r5.out.block (heap_alloc_old _ _ r5.out.lt)
      have hnq : w5.heap.size ∉ p.L := h5.out.mine.disk.not_in (Nat.le_refl _)
      have hn4 : w4.heap.size ∉ p.L := h4.out.mine.disk.not_in (Nat.le_refl _)
      rw [hw6]
      have k6 := hoe'.out
      subst k6
      clear hw6 h2q cp h2 hv0 hop5 h5 r5
      refine wp_region_held (S := fun W => SR W w.heap.size w5.heap.size w4.heap.size (⟨kind, pos, num, byte, ks, .slice kq ks.length kc⟩ : OpV).cells (⟨kind, pos, num, (byte + 1) % 256, ks, .slice kq ks.length kc⟩ : OpV).cells X) (by kernel_rfl) ?_
      change wpAnyH _ _ _ _ _ _ _ _ (World.drew w6)
      have hS : SR w6.drew w.heap.size w5.heap.size w4.heap.size (⟨kind, pos, num, byte, ks, .slice kq ks.length kc⟩ : OpV).cells (⟨kind, pos, num, (byte + 1) % 256, ks, .slice kq ks.length kc⟩ : OpV).cells X := ⟨h6.op.block rfl, q6.block rfl, r6.block rfl⟩
      have m6 : Mine w w6.drew p (hd2 d) := h6.mine.stay (below_drewN w6 1)
      refine held_take (i := 0) (dst := some 56) rfl rfl (by kernel_rfl) (by kernel_rfl) (by kernel_rfl) (fun _ _ _ h => h) (y_move (.tmp 7) rfl rfl rfl) hS ?_
      go_frame
      refine held_take (i := 1) (dst := some 57) (v := .pointer (some ⟨w.heap.size, 1, none⟩)) rfl rfl (by kernel_rfl) (by kernel_rfl) (by kernel_rfl) (fun _ _ _ h => h) (.inl ⟨rfl, fun W _ => by go_simp⟩) hS ?_
      go_frame
      refine held_take (i := 2) (dst := some 58) (v := .int .i64 pos) rfl rfl (by kernel_rfl) (by kernel_rfl) (by kernel_rfl) (fun _ _ _ h => h) (.inl ⟨rfl, fun W hW => by have c1 : W.cell? ⟨w.heap.size, 1, none⟩ = some (.int .i64 pos) := hW.r1.cell 1; go_simp⟩) hS ?_
      go_frame
      refine held_take (i := 3) (dst := some 59) rfl rfl (by kernel_rfl) (by kernel_rfl) (by kernel_rfl) (fun _ _ _ h => h) (y_load_agg 35 (.tmp 5) rfl rfl rfl (fun W hW => load_op hW.r1)) hS ?_
      go_frame
      have hcb := block_any kind pos num byte kq ks.length kc w6.drew
      rw [← bl_rep] at hcb
      change Calls _ _ #[.agg (⟨kind, pos, num, byte, ks, .slice kq ks.length kc⟩ : OpV).cells.toArray] _ _ at hcb
      refine held_call (i := 4) (dst := some 60) rfl rfl (by kernel_rfl) rfl (by go_simp) hcb ?_
      rintro e w7 ⟨rfl, hb7⟩
      have m7 := m6.stay hb7
      have hS7 := hS.below hb7
      refine ⟨_, rfl, hS7, ?_⟩
      go_frame
      have hcw := write_any p (hd2 d) w7 m7.disk (by have := ho2'.out.1; show (0 : Int) ≤ d.ops + 1 + 1; omega) (by have := ho2'.out.2; show d.ops + 1 + 1 < 4611686018427387904; omega) pos (rep byte) (rep_len byte)
      rw [(calm2 hc2.out).wr hp0 hp1n] at hcw
      refine held_call (i := 5) (dst := some 61) rfl rfl (by kernel_rfl) rfl (by go_simp) hcw ?_
      rintro e w8 ⟨rfl, hA, hT⟩
      have m8 : Mine w w8 p (hd3 d pos (rep byte)) := m7.tch hA hT
      have hS8 := hS7.tch hT h6.far hnq hn4
      refine ⟨_, rfl, hS8, ?_⟩
      go_frame
      refine held_take (i := 6) (dst := some 62) (v := .bool false) rfl rfl (by kernel_rfl) (by kernel_rfl) (by kernel_rfl) (fun _ _ _ h => h) (.inl ⟨rfl, fun W _ => by go_simp⟩) hS8 ?_
      go_frame
      refine held_take (i := 7) (dst := some 63) rfl rfl (by kernel_rfl) (by kernel_rfl) (by kernel_rfl) (fun _ _ _ h => h) (y_move (.tmp 62) rfl rfl rfl) hS8 ?_
      go_frame
      refine held_take (i := 8) (dst := some 64) rfl rfl (by kernel_rfl) (by kernel_rfl) (by kernel_rfl) (fun _ _ _ h => h) (y_move (.tmp 7) rfl rfl rfl) hS8 ?_
      go_frame
      refine held_take (i := 9) (dst := some 65) (v := .pointer (some ⟨w.heap.size, 1, none⟩)) rfl rfl (by kernel_rfl) (by kernel_rfl) (by kernel_rfl) (fun _ _ _ h => h) (.inl ⟨rfl, fun W _ => by go_simp⟩) hS8 ?_
      go_frame
      refine held_take (i := 10) (dst := some 66) (v := .int .i64 pos) rfl rfl (by kernel_rfl) (by kernel_rfl) (by kernel_rfl) (fun _ _ _ h => h) (.inl ⟨rfl, fun W hW => by have c1 : W.cell? ⟨w.heap.size, 1, none⟩ = some (.int .i64 pos) := hW.r1.cell 1; go_simp⟩) hS8 ?_
      go_frame
      refine held_take (i := 11) (dst := some 67) rfl rfl (by kernel_rfl) (by kernel_rfl) (by kernel_rfl) (fun _ _ _ h => h) (y_load_agg 35 (.tmp 11) rfl rfl rfl (fun W hW => load_op hW.r2)) hS8 ?_
      go_frame
      have hcb2 := block_any kind pos num ((byte + 1) % 256) kq ks.length kc w8
      rw [← bl_rep] at hcb2
      change Calls _ _ #[.agg (⟨kind, pos, num, (byte + 1) % 256, ks, .slice kq ks.length kc⟩ : OpV).cells.toArray] _ _ at hcb2
      refine held_call (i := 12) (dst := some 68) rfl rfl (by kernel_rfl) rfl (by go_simp) hcb2 ?_
      rintro e w9 ⟨rfl, hb9⟩
      have m9 := m8.stay hb9
      have hS9 := hS8.below hb9
      refine ⟨_, rfl, hS9, ?_⟩
      go_frame
      have hcw2 := write_any p (hd3 d pos (rep byte)) w9 m9.disk (by have := ho2'.out.1; show (0 : Int) ≤ d.ops + 1 + 1 + 1; omega) (by have := ho2'.out.2; show d.ops + 1 + 1 + 1 < 4611686018427387904; omega) pos (rep ((byte + 1) % 256)) (rep_len _)
      rw [(calm3 hc2.out pos (rep byte)).wr hp0 hp1n] at hcw2
      refine held_call (i := 13) (dst := some 69) rfl rfl (by kernel_rfl) rfl (by go_simp) hcw2 ?_
      rintro e w10 ⟨rfl, hA2, hT2⟩
      have mA : Mine w w10 p (hd4 d pos (rep byte) (rep ((byte + 1) % 256))) := m9.tch hA2 hT2
      have hSA := hS9.tch hT2 h6.far hnq hn4
      refine ⟨_, rfl, hSA, ?_⟩
      go_frame
      refine held_take (i := 14) (dst := some 70) (v := .bool false) rfl rfl (by kernel_rfl) (by kernel_rfl) (by kernel_rfl) (fun _ _ _ h => h) (.inl ⟨rfl, fun W _ => by go_simp⟩) hSA ?_
      go_frame
      refine held_take (i := 15) (dst := some 71) (v := .bool false) rfl rfl (by kernel_rfl) (by kernel_rfl) (by kernel_rfl) (fun _ _ _ h => h) (.inl ⟨rfl, fun W _ => by go_simp⟩) hSA ?_
      go_frame
      refine held_take (i := 16) (dst := some 72) rfl rfl (by kernel_rfl) (by kernel_rfl) (by kernel_rfl) (fun _ _ _ h => h) (y_move (.tmp 71) rfl rfl rfl) hSA ?_
      go_frame
      refine held_take (i := 17) (dst := some 73) rfl rfl (by kernel_rfl) (by kernel_rfl) (by kernel_rfl) (fun _ _ _ h => h) (y_move (.tmp 7) rfl rfl rfl) hSA ?_
      go_frame
      refine held_take (i := 19) (dst := some 75) (v := .pointer (some ⟨w.heap.size, 1, none⟩)) rfl rfl (by kernel_rfl) (by kernel_rfl) (by kernel_rfl) (fun _ _ _ h => h) (.inl ⟨rfl, fun W _ => by go_simp⟩) hSA ?_
      go_frame
      refine held_take (i := 20) (dst := some 76) (v := .int .i64 pos) rfl rfl (by kernel_rfl) (by kernel_rfl) (by kernel_rfl) (fun _ _ _ h => h) (.inl ⟨rfl, fun W hW => by have c1 : W.cell? ⟨w.heap.size, 1, none⟩ = some (.int .i64 pos) := hW.r1.cell 1; go_simp⟩) hSA ?_
      go_frame
      have hp4 : (hd4 d pos (rep byte) (rep ((byte + 1) % 256))).pend = [pos] := pend_one mA.disk.good (cache4 _ _ _ _)
      have hP0 := pending_any p (hd4 d pos (rep byte) (rep ((byte + 1) % 256))) w10 mA.disk
      refine held_pair (i := 18) (j := 21) (di := some 74) (dj := some 77) (Z := fun v u W => Mine w W p (hd4 d pos (rep byte) (rep ((byte + 1) % 256))) ∧ SR W w.heap.size w5.heap.size w4.heap.size (⟨kind, pos, num, byte, ks, .slice kq ks.length kc⟩ : OpV).cells (⟨kind, pos, num, (byte + 1) % 256, ks, .slice kq ks.length kc⟩ : OpV).cells X ∧ ReadI W v [pos] ∧ ReadI W u [pos]) rfl rfl rfl rfl (by kernel_rfl) (by kernel_rfl) (by kernel_rfl) (by kernel_rfl) rfl rfl (fun _ => rfl) (fun _ => rfl) (fun _ _ => rfl) (by go_simp) hP0 ?_ ?_ ?_
      · rintro e w' ⟨v, rfl, hA', hown, hb⟩
        have hw2 : Below w'.heap.size w' (w'.alloc (.cells #[.int .i64 pos] 3)) := (Below.refl _ _).alloc (Nat.le_refl _) _
        rw [hp4] at hown
        exact ⟨v, .slice (some ⟨w'.heap.size, 0, none⟩) 1 1, w'.alloc (.cells #[.int .i64 pos] 3), rfl, hSA.below hb, by go_simp, (hSA.below hb).below hw2, (mA.stay hb).stay hw2, (hSA.below hb).below hw2, (owns_readI hown).below hw2, row_readI (xs := [pos]) (RowV.made w' _) 1⟩
      · have hw2 : Below w10.heap.size w10 (w10.alloc (.cells #[.int .i64 pos] 3)) := (Below.refl _ _).alloc (Nat.le_refl _) _
        refine ⟨.slice (some ⟨w10.heap.size, 0, none⟩) 1 1, w10.alloc (.cells #[.int .i64 pos] 3), _, by go_simp, hSA.below hw2, by go_simp, pending_any p (hd4 d pos (rep byte) (rep ((byte + 1) % 256))) _ (mA.stay hw2).disk, ?_⟩
        rintro e w' ⟨v, rfl, hA', hown, hb⟩
        rw [hp4] at hown
        exact ⟨v, rfl, (hSA.below hw2).below hb, (mA.stay hw2).stay hb, (hSA.below hw2).below hb, owns_readI hown, (row_readI (xs := [pos]) (RowV.made w10 _) 1).below hb⟩
      rintro vp vs W1 ⟨mB, hSB, hvp, hvs⟩
      go_frame
      have heq := eqInts_any vp vs [pos] [pos] W1 hvp hvs (by simp) (by simp) (fun h => h)
      rw [show ([pos] == [pos]) = true by simp] at heq
      refine held_call (i := 22) (dst := some 78) rfl rfl (by kernel_rfl) rfl (by go_simp) heq ?_
      rintro e w12 ⟨rfl, hb12⟩
      have mC := mB.stay hb12
      have hSC := hSB.below hb12
      refine ⟨_, rfl, hSC, ?_⟩
      go_frame
      refine held_take (i := 23) (dst := some 79) (v := .bool false) rfl rfl (by kernel_rfl) (by kernel_rfl) (by kernel_rfl) (fun _ _ _ h => h) (.inl ⟨rfl, fun W _ => by go_simp⟩) hSC ?_
      go_frame
      refine held_take (i := 24) (dst := some 80) (v := .bool false) rfl rfl (by kernel_rfl) (by kernel_rfl) (by kernel_rfl) (fun _ _ _ h => h) (.inl ⟨rfl, fun W _ => by go_simp⟩) hSC ?_
      go_frame
      refine wpAnyH_done (by kernel_rfl) ?_ _
      have hm12 := Lib.hid mC
      have hS12 := Lib.hid hSC
      have hf1 := Lib.hid h6.far
      have hnq' := Lib.hid hnq
      have hn4' := Lib.hid hn4
      have hX64 := Lib.hid hX
      clear heq hvp hvs mB hSB mC hSC hP0 hSA hp4 hS9 hS8 hS7 hS mA m9 m8 m7 m6 hcw hcw2 hcb hcb2 hnq hn4 h6 q6 r6 hX
      have cp12 : w12.cell? ⟨w.heap.size, 1, none⟩ = some (.int .i64 pos) := hS12.out.r1.cell 1
      have hrd := read_any p (hd4 d pos (rep byte) (rep ((byte + 1) % 256))) w12 hm12.out.disk (by have := ho2'.out.1; show (0 : Int) ≤ d.ops + 1 + 1 + 1 + 1; omega) (by have := ho2'.out.2; show d.ops + 1 + 1 + 1 + 1 < 4611686018427387904; omega) pos
      rw [(calm4 hc2.out pos _ _).rd hp0 hp1n, says4] at hrd
      have hrd' := Lib.hid hrd
      obtain ⟨C, hC⟩ : ∃ C, rep ((byte + 1) % 256) = C := ⟨_, rfl⟩
      have hC64 : C.length = 64 := by rw [← hC]; exact rep_len _
      rw [hC] at hrd'
      have hC' := Lib.hid hC
      clear hrd hC
      go_wp2_with (first
        | (go_at_call 19; refine hrd'.out.mono ?_; clear hrd'; rintro e w13 ⟨rfl, hA, hT⟩
           have hm13 := Lib.hid (hm12.out.tch hA hT)
           have hS13 := Lib.hid (hS12.out.tch hT hf1.out hnq'.out hn4'.out)
           have r13 : Hid (RowV 37 (w13.alloc (.cells (bl z64).toArray 37)) w13.heap.size (bl z64)) := RowV.made w13 _
           have hn13 := Lib.hid (hm13.out.disk.not_in (Nat.le_refl _))
           clear hA hT cp12 hm12 hS12)
        | (with_reducible refine wpList_alloc_z rfl 37 rfl alloc37z ?_)
        | ((with_reducible refine wpList_store_at rfl 37 (.tmp 12) (.tmp 86) rfl (o := 0) rfl rfl r13.out (bl_size hC64) (bl_fits hC64 z64_len) (bl_one C) ?_)
           intro w14 hr14 hg14
           rw [bl_splice hC64 z64_len] at hr14
           have hm14 := Lib.hid (hm13.out.made hg14)
           have hS14 := Lib.hid (hS13.out.made hg14)
           have r14 := Lib.hid hr14
           clear hr14 hg14 hm13 hS13 r13))
      refine wp_region_held (S := fun W => SR W w.heap.size w5.heap.size w4.heap.size (⟨kind, pos, num, byte, ks, .slice kq ks.length kc⟩ : OpV).cells (⟨kind, pos, num, (byte + 1) % 256, ks, .slice kq ks.length kc⟩ : OpV).cells X ∧ RowV 37 W w13.heap.size (bl C)) (by kernel_rfl) ?_
      change wpAnyH _ _ _ _ _ _ _ _ (World.drew w14)
      have mE : Mine w w14.drew p (hd5 d pos (rep byte) C) := hm14.out.stay (below_drewN w14 1)
      have hSE : SR w14.drew w.heap.size w5.heap.size w4.heap.size (⟨kind, pos, num, byte, ks, .slice kq ks.length kc⟩ : OpV).cells (⟨kind, pos, num, (byte + 1) % 256, ks, .slice kq ks.length kc⟩ : OpV).cells X ∧ RowV 37 w14.drew w13.heap.size (bl C) := ⟨hS14.out.below (below_drewN w14 1), r14.out.block rfl⟩
      refine held_take (i := 0) (dst := some 88) rfl rfl (by kernel_rfl) (by kernel_rfl) (by kernel_rfl) (fun _ _ _ h => h) (y_move (.tmp 13) rfl rfl rfl) hSE ?_
      go_frame
      refine held_take (i := 1) (dst := some 89) (v := .bool false) rfl rfl (by kernel_rfl) (by kernel_rfl) (by kernel_rfl) (fun _ _ _ h => h) (.inl ⟨rfl, fun W _ => by go_simp⟩) hSE ?_
      go_frame
      refine held_take (i := 2) (dst := some 90) rfl rfl (by kernel_rfl) (by kernel_rfl) (by kernel_rfl) (fun _ _ _ h => h) (y_move (.tmp 89) rfl rfl rfl) hSE ?_
      go_frame
      refine held_take (i := 3) (dst := some 91) (v := agg C) rfl rfl (by kernel_rfl) (by kernel_rfl) (by kernel_rfl) (fun _ _ _ h => h) (y_load_agg 37 (.tmp 12) rfl rfl rfl (fun W hW => load_blk hW.2 hC64)) hSE ?_
      go_frame
      refine held_take (i := 4) (dst := some 92) rfl rfl (by kernel_rfl) (by kernel_rfl) (by kernel_rfl) (fun _ _ _ h => h) (y_load_agg 35 (.tmp 11) rfl rfl rfl (fun W hW => load_op hW.1.r2)) hSE ?_
      go_frame
      have hcb3 := block_any kind pos num ((byte + 1) % 256) kq ks.length kc w14.drew
      rw [← bl_rep, hC'.out] at hcb3
      change Calls _ _ #[.agg (⟨kind, pos, num, (byte + 1) % 256, ks, .slice kq ks.length kc⟩ : OpV).cells.toArray] _ _ at hcb3
      refine held_call (i := 5) (dst := some 93) rfl rfl (by kernel_rfl) rfl (by go_simp) hcb3 ?_
      rintro e w15 ⟨rfl, hbb⟩
      have mF := mE.stay hbb
      have hSF := And.intro (hSE.1.below hbb) (hSE.2.below hbb)
      refine ⟨_, rfl, hSF, ?_⟩
      go_frame
      clear hcb3 hbb
      refine held_take (i := 6) (dst := some 94) (v := .bool (!(C == C))) rfl rfl (by kernel_rfl) (by kernel_rfl) (by kernel_rfl) (fun _ _ _ h => h) (y_neq_blk rfl rfl rfl rfl hC64 hC64) hSF ?_
      go_frame
      refine held_take (i := 7) (dst := some 95) (v := .bool false) rfl rfl (by kernel_rfl) (by kernel_rfl) (by kernel_rfl) (fun _ _ _ h => h) (.inl ⟨rfl, fun W _ => by go_simp⟩) hSF ?_
      go_frame
      refine held_take (i := 8) (dst := some 96) rfl rfl (by kernel_rfl) (by kernel_rfl) (by kernel_rfl) (fun _ _ _ h => h) (y_move (.tmp 95) rfl rfl rfl) hSF ?_
      go_frame
      refine held_take (i := 9) (dst := some 97) rfl rfl (by kernel_rfl) (by kernel_rfl) (by kernel_rfl) (fun _ _ _ h => h) (y_move (.tmp 7) rfl rfl rfl) hSF ?_
      go_frame
      refine held_take (i := 10) (dst := some 98) rfl rfl (by kernel_rfl) (by kernel_rfl) (by kernel_rfl) (fun _ _ _ h => h) (y_load_agg 35 (.tmp 5) rfl rfl rfl (fun W hW => load_op hW.1.r1)) hSF ?_
      go_frame
      have hkp := keep_any ⟨kind, pos, num, byte, ks, .slice kq ks.length kc⟩ w15 (ho0.out.below mF.below (Nat.le_refl _))
      refine held_call (i := 11) (dst := some 99) rfl rfl (by kernel_rfl) rfl (by go_simp) hkp ?_
      rintro e w16 ⟨vk, rfl, hbk, hkp2⟩
      have mG := mF.stay hbk
      have hSG := And.intro (hSF.1.below hbk) (hSF.2.below hbk)
      have hKeep := hkp2 p.L (fun x hx => by
        simp only [Pl.L, List.mem_cons, List.not_mem_nil, or_false] at hx
        rcases hx with rfl | rfl | rfl
        · exact mF.disk.glt
        · exact mF.disk.hlt
        · exact mF.disk.mlt)
      refine ⟨_, rfl, hSG, ?_⟩
      go_frame
      have hgood := Lib.hid mG.disk.good
      refine held_call (i := 12) (dst := some 100) rfl rfl (by kernel_rfl) rfl (by go_simp) (crash_any p (hd5 d pos (rep byte) C) w16 mG.disk vk (ks.take 60) hKeep) ?_
      rintro e w17 ⟨rfl, hA, hT⟩
      have mH : Mine w w17 p (hd6 d pos (rep byte) C (ks.take 60)) := mG.tch hA hT
      have hSH := And.intro (hSG.1.tch hT hf1.out hnq'.out hn4'.out) (hSG.2.tch hT hn13.out)
      refine ⟨_, rfl, hSH, ?_⟩
      go_frame
      refine held_take (i := 13) (dst := some 101) (v := .bool false) rfl rfl (by kernel_rfl) (by kernel_rfl) (by kernel_rfl) (fun _ _ _ h => h) (.inl ⟨rfl, fun W _ => by go_simp⟩) hSH ?_
      go_frame
      refine held_take (i := 14) (dst := some 102) (v := .bool false) rfl rfl (by kernel_rfl) (by kernel_rfl) (by kernel_rfl) (fun _ _ _ h => h) (.inl ⟨rfl, fun W _ => by go_simp⟩) hSH ?_
      go_frame
      refine wpAnyH_done (by kernel_rfl) ?_ _
      have hm17 := Lib.hid mH
      have hS17 := Lib.hid hSH.1
      have hsay := Lib.hid (says6 hc2.out hp0 hp1n (rep byte) C (ks.take 60) hgood.out)
      rw [← says1, hXe'.out] at hsay
      obtain ⟨Y, hY⟩ : ∃ Y, (hd6 d pos (rep byte) C (ks.take 60)).says pos = Y := ⟨_, rfl⟩
      have hY64 : Y.length = 64 := by rw [← hY]; exact Dk.says_len mH.disk.good hp0 (by rw [(calm6 hc2.out pos _ _ _).len]; exact hp1n)
      rw [hY] at hsay
      have hrd := read_any p (hd6 d pos (rep byte) C (ks.take 60)) w17 hm17.out.disk (by have := ho2'.out.1; show (0 : Int) ≤ d.ops + 1 + 1 + 1 + 1 + 1; omega) (by have := ho2'.out.2; show d.ops + 1 + 1 + 1 + 1 + 1 < 4611686018427387904; omega) pos
      rw [(calm6 hc2.out pos _ _ _).rd hp0 hp1n, hY] at hrd
      have hrd' := Lib.hid hrd
      have hkv := Lib.hid (ho0.out.below hm17.out.below (Nat.le_refl _)).keep
      clear hrd hY hkp hkp2 hKeep mE mF mG mH hSE hSF hSG hSH hm14 hS14 r14
      have cp17 : w17.cell? ⟨w.heap.size, 1, none⟩ = some (.int .i64 pos) := hS17.out.r1.cell 1
      cases ks with
      | nil =>
        have hYX : (Y == X) = true := by have h := hsay.out; simpa [keepOf] using h
        go_wp2_with (first
          | (go_at_call 19; refine hrd'.out.mono ?_; clear hrd'; rintro e w18 ⟨rfl, hA, hT⟩
             have hm18 := Lib.hid (hm17.out.tch hA hT)
             have hS18 := Lib.hid (hS17.out.tch hT hf1.out hnq'.out hn4'.out)
             have r18 : Hid (RowV 37 (w18.alloc (.cells (bl z64).toArray 37)) w18.heap.size (bl z64)) := RowV.made w18 _
             clear hA hT cp17)
          | (with_reducible refine wpList_alloc_z rfl 37 rfl alloc37z ?_)
          | ((with_reducible refine wpList_store_at rfl 37 (.tmp 14) (.tmp 108) rfl (o := 0) rfl rfl r18.out (bl_size hY64) (bl_fits hY64 z64_len) (bl_one Y) ?_)
             intro w19 hr19 hg19
             rw [bl_splice hY64 z64_len] at hr19
             have hm19 := Lib.hid (hm18.out.made hg19)
             have hS19 := Lib.hid (hS18.out.made hg19)
             have r19 := Lib.hid hr19
             have cp19 := hS19.out.r1.cell 4
             simp only [OpV.cells, List.getElem?_cons_succ, List.getElem?_cons_zero] at cp19
             clear hr19 hg19 hm18 hS18 r18))
        refine wp_region_held (S := fun W => SR W w.heap.size w5.heap.size w4.heap.size (⟨kind, pos, num, byte, [], .slice kq ([] : List Bool).length kc⟩ : OpV).cells (⟨kind, pos, num, (byte + 1) % 256, [], .slice kq ([] : List Bool).length kc⟩ : OpV).cells X ∧ RowV 37 W w18.heap.size (bl Y)) (by kernel_rfl) ?_
        change wpAnyH _ _ _ _ _ _ _ _ (World.drew w19)
        have mI : Mine w w19.drew p (dRead (hd6 d pos (rep byte) C (([] : List Bool).take 60))) := hm19.out.stay (below_drewN w19 1)
        have hSI : SR w19.drew w.heap.size w5.heap.size w4.heap.size (⟨kind, pos, num, byte, [], .slice kq ([] : List Bool).length kc⟩ : OpV).cells (⟨kind, pos, num, (byte + 1) % 256, [], .slice kq ([] : List Bool).length kc⟩ : OpV).cells X ∧ RowV 37 w19.drew w18.heap.size (bl Y) := ⟨hS19.out.below (below_drewN w19 1), r19.out.block rfl⟩
        refine held_take (i := 0) (dst := some 120) rfl rfl (by kernel_rfl) (by kernel_rfl) (by kernel_rfl) (fun _ _ _ h => h) (y_move (.tmp 10) rfl rfl rfl) hSI ?_
        go_frame
        refine held_take (i := 1) (dst := some 121) (v := .bool true) rfl rfl (by kernel_rfl) (by kernel_rfl) (by kernel_rfl) (fun _ _ _ h => h) (.inl ⟨rfl, fun W _ => by go_simp⟩) hSI ?_
        go_frame
        refine held_take (i := 2) (dst := some 122) rfl rfl (by kernel_rfl) (by kernel_rfl) (by kernel_rfl) (fun _ _ _ h => h) (y_move (.tmp 121) rfl rfl rfl) hSI ?_
        go_frame
        refine held_take (i := 3) (dst := some 123) rfl rfl (by kernel_rfl) (by kernel_rfl) (by kernel_rfl) (fun _ _ _ h => h) (y_move (.tmp 15) rfl rfl rfl) hSI ?_
        go_frame
        refine held_take (i := 4) (dst := some 124) rfl rfl (by kernel_rfl) (by kernel_rfl) (by kernel_rfl) (fun _ _ _ h => h) (y_move (.tmp 123) rfl rfl rfl) hSI ?_
        go_frame
        refine held_take (i := 5) (dst := some 125) (v := undef) rfl rfl (by kernel_rfl) (by kernel_rfl) (by kernel_rfl) (fun _ _ _ h => h) (.inr ⟨rfl, rfl⟩) hSI ?_
        go_frame
        refine held_take (i := 6) (dst := some 126) (v := undef) rfl rfl (by kernel_rfl) (by kernel_rfl) (by kernel_rfl) (fun _ _ _ h => h) (.inr ⟨rfl, rfl⟩) hSI ?_
        go_frame
        refine held_take (i := 7) (dst := some 127) (v := undef) rfl rfl (by kernel_rfl) (by kernel_rfl) (by kernel_rfl) (fun _ _ _ h => h) (.inr ⟨rfl, rfl⟩) hSI ?_
        go_frame
        refine held_take (i := 8) (dst := some 128) (v := undef) rfl rfl (by kernel_rfl) (by kernel_rfl) (by kernel_rfl) (fun _ _ _ h => h) (.inr ⟨rfl, rfl⟩) hSI ?_
        go_frame
        refine held_take (i := 9) (dst := some 129) (v := .bool false) rfl rfl (by kernel_rfl) (by kernel_rfl) (by kernel_rfl) (fun _ _ _ h => h) (.inl ⟨rfl, fun W _ => by go_simp⟩) hSI ?_
        go_frame
        refine held_take (i := 10) (dst := some 130) rfl rfl (by kernel_rfl) (by kernel_rfl) (by kernel_rfl) (fun _ _ _ h => h) (y_move (.tmp 129) rfl rfl rfl) hSI ?_
        go_frame
        refine held_take (i := 11) (dst := some 131) rfl rfl (by kernel_rfl) (by kernel_rfl) (by kernel_rfl) (fun _ _ _ h => h) (y_move (.tmp 15) rfl rfl rfl) hSI ?_
        go_frame
        refine held_take (i := 12) (dst := some 132) (v := .bool true) rfl rfl (by kernel_rfl) (by kernel_rfl) (by kernel_rfl) (fun _ _ _ h => h) (.inl ⟨rfl, fun W _ => by go_simp⟩) hSI ?_
        go_frame
        refine held_take (i := 13) (dst := some 133) rfl rfl (by kernel_rfl) (by kernel_rfl) (by kernel_rfl) (fun _ _ _ h => h) (y_move (.tmp 132) rfl rfl rfl) hSI ?_
        go_frame
        refine held_take (i := 14) (dst := some 134) (v := agg Y) rfl rfl (by kernel_rfl) (by kernel_rfl) (by kernel_rfl) (fun _ _ _ h => h) (y_load_agg 37 (.tmp 14) rfl rfl rfl (fun W hW => load_blk hW.2 hY64)) hSI ?_
        go_frame
        refine held_take (i := 15) (dst := some 135) (v := agg X) rfl rfl (by kernel_rfl) (by kernel_rfl) (by kernel_rfl) (fun _ _ _ h => h) (y_load_agg 37 (.tmp 9) rfl rfl rfl (fun W hW => load_blk hW.1.r3 hX64.out)) hSI ?_
        go_frame
        refine held_take (i := 16) (dst := some 136) (v := .bool (Y == X)) rfl rfl (by kernel_rfl) (by kernel_rfl) (by kernel_rfl) (fun _ _ _ h => h) (y_eql_blk rfl rfl rfl rfl hY64 hX64.out) hSI ?_
        go_frame
        refine held_take (i := 17) (dst := some 137) (v := .bool true) rfl rfl (by kernel_rfl) (by kernel_rfl) (by kernel_rfl) (fun _ _ _ h => h) (.inl ⟨rfl, fun W _ => by go_simp⟩) hSI ?_
        go_frame
        refine held_take (i := 18) (dst := some 138) (v := .bool true) rfl rfl (by kernel_rfl) (by kernel_rfl) (by kernel_rfl) (fun _ _ _ h => h) (.inl ⟨rfl, fun W _ => by go_simp⟩) hSI ?_
        go_frame
        refine held_take (i := 19) (dst := some 139) (v := .bool true) rfl rfl (by kernel_rfl) (by kernel_rfl) (by kernel_rfl) (fun _ _ _ h => h) (.inl ⟨rfl, fun W _ => by go_simp⟩) hSI ?_
        go_frame
        refine held_take (i := 20) (dst := some 6) (v := .bool true) rfl rfl (by kernel_rfl) (by kernel_rfl) (by kernel_rfl) (fun _ _ _ h => h) (.inl ⟨rfl, fun W _ => by go_simp⟩) hSI ?_
        go_frame
        refine wpAnyH_done (by kernel_rfl) ?_ _
        go_wp2
        go_ret
        exact ⟨rfl, mI.below⟩
      | cons k0 rest =>
        cases kq with
        | none =>
          exfalso
          obtain ⟨q', c', he, _, _, hno, _⟩ := hkv.out
          simp only [Value.slice.injEq] at he
          have h := (hno he.1.symm).1
          cases h
        | some ka =>
          cases k0 with
          | false =>
            have hYX : (Y == X) = true := by have h := hsay.out; simpa [keepOf] using h
            go_wp2_with (first
              | (go_at_call 19; refine hrd'.out.mono ?_; clear hrd'; rintro e w18 ⟨rfl, hA, hT⟩
                 have hm18 := Lib.hid (hm17.out.tch hA hT)
                 have hS18 := Lib.hid (hS17.out.tch hT hf1.out hnq'.out hn4'.out)
                 have r18 : Hid (RowV 37 (w18.alloc (.cells (bl z64).toArray 37)) w18.heap.size (bl z64)) := RowV.made w18 _
                 clear hA hT cp17)
              | (with_reducible refine wpList_alloc_z rfl 37 rfl alloc37z ?_)
              | ((with_reducible refine wpList_store_at rfl 37 (.tmp 14) (.tmp 108) rfl (o := 0) rfl rfl r18.out (bl_size hY64) (bl_fits hY64 z64_len) (bl_one Y) ?_)
                 intro w19 hr19 hg19
                 rw [bl_splice hY64 z64_len] at hr19
                 have hm19 := Lib.hid (hm18.out.made hg19)
                 have hS19 := Lib.hid (hS18.out.made hg19)
                 have r19 := Lib.hid hr19
                 have cp19 := hS19.out.r1.cell 4
                 simp only [OpV.cells, List.getElem?_cons_succ, List.getElem?_cons_zero] at cp19
                 have ck19 : w19.cell? ka = some (.bool false) := by
                   obtain ⟨q', c', he, _, _, _, hce⟩ := (ho0.out.below hm19.out.below (Nat.le_refl _)).keep
                   simp only [Value.slice.injEq] at he
                   have h := hce ka he.1.symm 0 false rfl
                   rwa [show ka.add 0 = ka by cases ka; unfold Addr.add; simp] at h
                 clear hr19 hg19 hm18 hS18 r18))
            refine wp_region_held (S := fun W => SR W w.heap.size w5.heap.size w4.heap.size (⟨kind, pos, num, byte, (false :: rest), .slice (some ka) ((false :: rest) : List Bool).length kc⟩ : OpV).cells (⟨kind, pos, num, (byte + 1) % 256, (false :: rest), .slice (some ka) ((false :: rest) : List Bool).length kc⟩ : OpV).cells X ∧ RowV 37 W w18.heap.size (bl Y)) (by kernel_rfl) ?_
            change wpAnyH _ _ _ _ _ _ _ _ (World.drew w19)
            have mI : Mine w w19.drew p (dRead (hd6 d pos (rep byte) C (((false :: rest) : List Bool).take 60))) := hm19.out.stay (below_drewN w19 1)
            have hSI : SR w19.drew w.heap.size w5.heap.size w4.heap.size (⟨kind, pos, num, byte, (false :: rest), .slice (some ka) ((false :: rest) : List Bool).length kc⟩ : OpV).cells (⟨kind, pos, num, (byte + 1) % 256, (false :: rest), .slice (some ka) ((false :: rest) : List Bool).length kc⟩ : OpV).cells X ∧ RowV 37 w19.drew w18.heap.size (bl Y) := ⟨hS19.out.below (below_drewN w19 1), r19.out.block rfl⟩
            refine held_take (i := 0) (dst := some 120) rfl rfl (by kernel_rfl) (by kernel_rfl) (by kernel_rfl) (fun _ _ _ h => h) (y_move (.tmp 10) rfl rfl rfl) hSI ?_
            go_frame
            refine held_take (i := 1) (dst := some 121) (v := .bool true) rfl rfl (by kernel_rfl) (by kernel_rfl) (by kernel_rfl) (fun _ _ _ h => h) (.inl ⟨rfl, fun W _ => by go_simp⟩) hSI ?_
            go_frame
            refine held_take (i := 2) (dst := some 122) rfl rfl (by kernel_rfl) (by kernel_rfl) (by kernel_rfl) (fun _ _ _ h => h) (y_move (.tmp 121) rfl rfl rfl) hSI ?_
            go_frame
            refine held_take (i := 3) (dst := some 123) rfl rfl (by kernel_rfl) (by kernel_rfl) (by kernel_rfl) (fun _ _ _ h => h) (y_move (.tmp 15) rfl rfl rfl) hSI ?_
            go_frame
            refine held_take (i := 4) (dst := some 124) rfl rfl (by kernel_rfl) (by kernel_rfl) (by kernel_rfl) (fun _ _ _ h => h) (y_move (.tmp 123) rfl rfl rfl) hSI ?_
            go_frame
            refine held_take (i := 5) (dst := some 125) (v := undef) rfl rfl (by kernel_rfl) (by kernel_rfl) (by kernel_rfl) (fun _ _ _ h => h) (.inr ⟨rfl, rfl⟩) hSI ?_
            go_frame
            refine held_take (i := 6) (dst := some 126) (v := undef) rfl rfl (by kernel_rfl) (by kernel_rfl) (by kernel_rfl) (fun _ _ _ h => h) (.inr ⟨rfl, rfl⟩) hSI ?_
            go_frame
            refine held_take (i := 7) (dst := some 127) (v := undef) rfl rfl (by kernel_rfl) (by kernel_rfl) (by kernel_rfl) (fun _ _ _ h => h) (.inr ⟨rfl, rfl⟩) hSI ?_
            go_frame
            refine held_take (i := 8) (dst := some 128) (v := undef) rfl rfl (by kernel_rfl) (by kernel_rfl) (by kernel_rfl) (fun _ _ _ h => h) (.inr ⟨rfl, rfl⟩) hSI ?_
            go_frame
            refine held_take (i := 9) (dst := some 129) (v := .bool false) rfl rfl (by kernel_rfl) (by kernel_rfl) (by kernel_rfl) (fun _ _ _ h => h) (.inl ⟨rfl, fun W _ => by go_simp⟩) hSI ?_
            go_frame
            refine held_take (i := 10) (dst := some 130) rfl rfl (by kernel_rfl) (by kernel_rfl) (by kernel_rfl) (fun _ _ _ h => h) (y_move (.tmp 129) rfl rfl rfl) hSI ?_
            go_frame
            refine held_take (i := 11) (dst := some 131) rfl rfl (by kernel_rfl) (by kernel_rfl) (by kernel_rfl) (fun _ _ _ h => h) (y_move (.tmp 15) rfl rfl rfl) hSI ?_
            go_frame
            refine held_take (i := 12) (dst := some 132) (v := .bool true) rfl rfl (by kernel_rfl) (by kernel_rfl) (by kernel_rfl) (fun _ _ _ h => h) (.inl ⟨rfl, fun W _ => by go_simp⟩) hSI ?_
            go_frame
            refine held_take (i := 13) (dst := some 133) rfl rfl (by kernel_rfl) (by kernel_rfl) (by kernel_rfl) (fun _ _ _ h => h) (y_move (.tmp 132) rfl rfl rfl) hSI ?_
            go_frame
            refine held_take (i := 14) (dst := some 134) (v := agg Y) rfl rfl (by kernel_rfl) (by kernel_rfl) (by kernel_rfl) (fun _ _ _ h => h) (y_load_agg 37 (.tmp 14) rfl rfl rfl (fun W hW => load_blk hW.2 hY64)) hSI ?_
            go_frame
            refine held_take (i := 15) (dst := some 135) (v := agg X) rfl rfl (by kernel_rfl) (by kernel_rfl) (by kernel_rfl) (fun _ _ _ h => h) (y_load_agg 37 (.tmp 9) rfl rfl rfl (fun W hW => load_blk hW.1.r3 hX64.out)) hSI ?_
            go_frame
            refine held_take (i := 16) (dst := some 136) (v := .bool (Y == X)) rfl rfl (by kernel_rfl) (by kernel_rfl) (by kernel_rfl) (fun _ _ _ h => h) (y_eql_blk rfl rfl rfl rfl hY64 hX64.out) hSI ?_
            go_frame
            refine held_take (i := 17) (dst := some 137) (v := .bool true) rfl rfl (by kernel_rfl) (by kernel_rfl) (by kernel_rfl) (fun _ _ _ h => h) (.inl ⟨rfl, fun W _ => by go_simp⟩) hSI ?_
            go_frame
            refine held_take (i := 18) (dst := some 138) (v := .bool true) rfl rfl (by kernel_rfl) (by kernel_rfl) (by kernel_rfl) (fun _ _ _ h => h) (.inl ⟨rfl, fun W _ => by go_simp⟩) hSI ?_
            go_frame
            refine held_take (i := 19) (dst := some 139) (v := .bool true) rfl rfl (by kernel_rfl) (by kernel_rfl) (by kernel_rfl) (fun _ _ _ h => h) (.inl ⟨rfl, fun W _ => by go_simp⟩) hSI ?_
            go_frame
            refine held_take (i := 20) (dst := some 6) (v := .bool true) rfl rfl (by kernel_rfl) (by kernel_rfl) (by kernel_rfl) (fun _ _ _ h => h) (.inl ⟨rfl, fun W _ => by go_simp⟩) hSI ?_
            go_frame
            refine wpAnyH_done (by kernel_rfl) ?_ _
            go_wp2
            go_ret
            exact ⟨rfl, mI.below⟩
          | true =>
            have hYC : (Y == C) = true := by have h := hsay.out; simpa [keepOf] using h
            go_wp2_with (first
              | (go_at_call 19; refine hrd'.out.mono ?_; clear hrd'; rintro e w18 ⟨rfl, hA, hT⟩
                 have hm18 := Lib.hid (hm17.out.tch hA hT)
                 have hS18 := Lib.hid (hS17.out.tch hT hf1.out hnq'.out hn4'.out)
                 have r18 : Hid (RowV 37 (w18.alloc (.cells (bl z64).toArray 37)) w18.heap.size (bl z64)) := RowV.made w18 _
                 clear hA hT cp17)
              | (with_reducible refine wpList_alloc_z rfl 37 rfl alloc37z ?_)
              | ((with_reducible refine wpList_store_at rfl 37 (.tmp 14) (.tmp 108) rfl (o := 0) rfl rfl r18.out (bl_size hY64) (bl_fits hY64 z64_len) (bl_one Y) ?_)
                 intro w19 hr19 hg19
                 rw [bl_splice hY64 z64_len] at hr19
                 have hm19 := Lib.hid (hm18.out.made hg19)
                 have hS19 := Lib.hid (hS18.out.made hg19)
                 have r19 := Lib.hid hr19
                 have cp19 := hS19.out.r1.cell 4
                 simp only [OpV.cells, List.getElem?_cons_succ, List.getElem?_cons_zero] at cp19
                 have ck19 : w19.cell? ka = some (.bool true) := by
                   obtain ⟨q', c', he, _, _, _, hce⟩ := (ho0.out.below hm19.out.below (Nat.le_refl _)).keep
                   simp only [Value.slice.injEq] at he
                   have h := hce ka he.1.symm 0 true rfl
                   rwa [show ka.add 0 = ka by cases ka; unfold Addr.add; simp] at h
                 clear hr19 hg19 hm18 hS18 r18))
            refine wp_region_held (S := fun W => SR W w.heap.size w5.heap.size w4.heap.size (⟨kind, pos, num, byte, (true :: rest), .slice (some ka) ((true :: rest) : List Bool).length kc⟩ : OpV).cells (⟨kind, pos, num, (byte + 1) % 256, (true :: rest), .slice (some ka) ((true :: rest) : List Bool).length kc⟩ : OpV).cells X ∧ RowV 37 W w18.heap.size (bl Y)) (by kernel_rfl) ?_
            change wpAnyH _ _ _ _ _ _ _ _ (World.drew w19)
            have mI : Mine w w19.drew p (dRead (hd6 d pos (rep byte) C (((true :: rest) : List Bool).take 60))) := hm19.out.stay (below_drewN w19 1)
            have hSI : SR w19.drew w.heap.size w5.heap.size w4.heap.size (⟨kind, pos, num, byte, (true :: rest), .slice (some ka) ((true :: rest) : List Bool).length kc⟩ : OpV).cells (⟨kind, pos, num, (byte + 1) % 256, (true :: rest), .slice (some ka) ((true :: rest) : List Bool).length kc⟩ : OpV).cells X ∧ RowV 37 w19.drew w18.heap.size (bl Y) := ⟨hS19.out.below (below_drewN w19 1), r19.out.block rfl⟩
            refine held_take (i := 0) (dst := some 120) rfl rfl (by kernel_rfl) (by kernel_rfl) (by kernel_rfl) (fun _ _ _ h => h) (y_move (.tmp 10) rfl rfl rfl) hSI ?_
            go_frame
            refine held_take (i := 1) (dst := some 121) (v := .bool true) rfl rfl (by kernel_rfl) (by kernel_rfl) (by kernel_rfl) (fun _ _ _ h => h) (.inl ⟨rfl, fun W _ => by go_simp⟩) hSI ?_
            go_frame
            refine held_take (i := 2) (dst := some 122) rfl rfl (by kernel_rfl) (by kernel_rfl) (by kernel_rfl) (fun _ _ _ h => h) (y_move (.tmp 121) rfl rfl rfl) hSI ?_
            go_frame
            refine held_take (i := 3) (dst := some 123) rfl rfl (by kernel_rfl) (by kernel_rfl) (by kernel_rfl) (fun _ _ _ h => h) (y_move (.tmp 15) rfl rfl rfl) hSI ?_
            go_frame
            refine held_take (i := 4) (dst := some 124) rfl rfl (by kernel_rfl) (by kernel_rfl) (by kernel_rfl) (fun _ _ _ h => h) (y_move (.tmp 123) rfl rfl rfl) hSI ?_
            go_frame
            refine held_take (i := 5) (dst := some 125) (v := agg Y) rfl rfl (by kernel_rfl) (by kernel_rfl) (by kernel_rfl) (fun _ _ _ h => h) (y_load_agg 37 (.tmp 14) rfl rfl rfl (fun W hW => load_blk hW.2 hY64)) hSI ?_
            go_frame
            refine held_take (i := 6) (dst := some 126) rfl rfl (by kernel_rfl) (by kernel_rfl) (by kernel_rfl) (fun _ _ _ h => h) (y_load_agg 35 (.tmp 11) rfl rfl rfl (fun W hW => load_op hW.1.r2)) hSI ?_
            go_frame
            have hcb3 := block_any kind pos num ((byte + 1) % 256) (some ka) ((true :: rest) : List Bool).length kc w19.drew
            rw [← bl_rep, hC'.out] at hcb3
            change Calls _ _ #[.agg (⟨kind, pos, num, (byte + 1) % 256, (true :: rest), .slice (some ka) ((true :: rest) : List Bool).length kc⟩ : OpV).cells.toArray] _ _ at hcb3
            refine held_call (i := 7) (dst := some 127) rfl rfl (by kernel_rfl) rfl (by go_simp) hcb3 ?_
            rintro e w20 ⟨rfl, hbb⟩
            have mJ := mI.stay hbb
            have hSJ := And.intro (hSI.1.below hbb) (hSI.2.below hbb)
            refine ⟨_, rfl, hSJ, ?_⟩
            go_frame
            clear hcb3 hbb
            refine held_take (i := 8) (dst := some 128) (v := .bool (Y == C)) rfl rfl (by kernel_rfl) (by kernel_rfl) (by kernel_rfl) (fun _ _ _ h => h) (y_eql_blk rfl rfl rfl rfl hY64 hC64) hSJ ?_
            go_frame
            refine held_take (i := 9) (dst := some 129) (v := .bool true) rfl rfl (by kernel_rfl) (by kernel_rfl) (by kernel_rfl) (fun _ _ _ h => h) (.inl ⟨rfl, fun W _ => by go_simp⟩) hSJ ?_
            go_frame
            refine held_take (i := 10) (dst := some 130) rfl rfl (by kernel_rfl) (by kernel_rfl) (by kernel_rfl) (fun _ _ _ h => h) (y_move (.tmp 129) rfl rfl rfl) hSJ ?_
            go_frame
            refine held_take (i := 11) (dst := some 131) (v := undef) rfl rfl (by kernel_rfl) (by kernel_rfl) (by kernel_rfl) (fun _ _ _ h => h) (.inr ⟨rfl, rfl⟩) hSJ ?_
            go_frame
            refine held_take (i := 12) (dst := some 132) (v := undef) rfl rfl (by kernel_rfl) (by kernel_rfl) (by kernel_rfl) (fun _ _ _ h => h) (.inr ⟨rfl, rfl⟩) hSJ ?_
            go_frame
            refine held_take (i := 13) (dst := some 133) (v := undef) rfl rfl (by kernel_rfl) (by kernel_rfl) (by kernel_rfl) (fun _ _ _ h => h) (.inr ⟨rfl, rfl⟩) hSJ ?_
            go_frame
            refine held_take (i := 14) (dst := some 134) (v := undef) rfl rfl (by kernel_rfl) (by kernel_rfl) (by kernel_rfl) (fun _ _ _ h => h) (.inr ⟨rfl, rfl⟩) hSJ ?_
            go_frame
            refine held_take (i := 15) (dst := some 135) (v := undef) rfl rfl (by kernel_rfl) (by kernel_rfl) (by kernel_rfl) (fun _ _ _ h => h) (.inr ⟨rfl, rfl⟩) hSJ ?_
            go_frame
            refine held_take (i := 16) (dst := some 136) (v := undef) rfl rfl (by kernel_rfl) (by kernel_rfl) (by kernel_rfl) (fun _ _ _ h => h) (.inr ⟨rfl, rfl⟩) hSJ ?_
            go_frame
            refine held_take (i := 17) (dst := some 137) (v := undef) rfl rfl (by kernel_rfl) (by kernel_rfl) (by kernel_rfl) (fun _ _ _ h => h) (.inr ⟨rfl, rfl⟩) hSJ ?_
            go_frame
            refine held_take (i := 18) (dst := some 138) (v := .bool true) rfl rfl (by kernel_rfl) (by kernel_rfl) (by kernel_rfl) (fun _ _ _ h => h) (.inl ⟨rfl, fun W _ => by go_simp⟩) hSJ ?_
            go_frame
            refine held_take (i := 19) (dst := some 139) (v := .bool true) rfl rfl (by kernel_rfl) (by kernel_rfl) (by kernel_rfl) (fun _ _ _ h => h) (.inl ⟨rfl, fun W _ => by go_simp⟩) hSJ ?_
            go_frame
            refine held_take (i := 20) (dst := some 6) (v := .bool true) rfl rfl (by kernel_rfl) (by kernel_rfl) (by kernel_rfl) (fun _ _ _ h => h) (.inl ⟨rfl, fun W _ => by go_simp⟩) hSJ ?_
            go_frame
            refine wpAnyH_done (by kernel_rfl) ?_ _
            go_wp2
            go_ret
            exact ⟨rfl, mJ.below⟩
    · have hp1' : (d.held.length : Int) ≤ pos := by omega
      go_quiet (first | (go_at_call 20; refine Calls.quiet_of_same (len_any p d _ (h2q _).out.mine.disk)))
      go_wp2_with fail
      go_ret
      exact ⟨rfl, (h2q _).out.mine.below⟩
  · have hp0' : pos < 0 := by omega
    go_quiet (fail)
    go_wp2_with fail
    go_ret
    exact ⟨rfl, (h2q _).out.mine.below⟩

end Go.Proofs.Ytffchpgjaoakpaa
