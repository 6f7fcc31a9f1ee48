/- What a sector says (disk.says, Read's closure), and an operation by what its closure does. -/
import Derived.Test.YtjhnagipagkhiaaGreatCollect
namespace Go.Proofs.YtjhnagipagkhiaaGreat
open Go.RowKit

def z64 : List Int := List.replicate 64 0
theorem z64_len : z64.length = 64 := by simp [z64]
theorem bl_z64 : bl z64 = blk 0 := by simp [bl, z64, blk]
theorem bl_size {b : List Int} (h : b.length = 64) : (Tryz.prog.info? 48).map (·.size) = some (bl b).length := by rw [bl_len, h]; exact size37
theorem bl_fits {b c : List Int} (h : b.length = 64) (k : c.length = 64) : 0 + (bl b).length ≤ (bl c).length := by rw [bl_len, bl_len, h, k]; decide
theorem bl_splice {b c : List Int} (h : b.length = 64) (k : c.length = 64) : splice (bl c) 0 (bl b) = bl b := by
  unfold splice
  rw [List.take_zero, List.nil_append, Nat.zero_add, bl_len, h, List.drop_of_length_le (by rw [bl_len, k]; exact Nat.le_refl _), List.append_nil]
theorem alloc37z (u : World) : (Instr.alloc 48 true (.tuple #[])).run Tryz.prog u = .ok (.pointer (some ⟨u.heap.size, 0, none⟩)) (u.alloc (.cells (bl z64).toArray 48)) := by rw [bl_z64]; exact alloc37 u
theorem bl_part (b : List Int) : bl b = [] ++ (bl b ++ []) := by simp
theorem zero37' (w : World) : (zeroValue 48).run Tryz.prog w = .ok (agg z64) w := zero37 w

theorem At.sector' {w : World} {p : Pl} {d : Dk} (k : At w p d) {i : Nat} (hi : i < d.held.length) : ∀ j v, (bl (d.hold (i : Int)))[j]? = some v → w.cell? ((⟨p.h, i * 64, none⟩ : Addr).add j) = some v := by
  intro j v hj
  have h := k.sector (i := (i : Int)) (by omega) (by omega) j v hj
  have e : ∀ t, (⟨p.h, 0, none⟩ : Addr).add t = ⟨p.h, t, none⟩ := fun t => by unfold Addr.add; split <;> simp_all
  rw [e] at h
  simpa using h

set_option maxRecDepth 100000 in
set_option maxHeartbeats 2000000 in
theorem dsays_any (p : Pl) (d : Dk) (i : Nat) (w : World) (k : At w p d) (hi : i < d.held.length) :
    Calls Tryz.prog 45 #[ptr p, .int .i64 i] w (fun e w' => e = .returned (agg (d.says i)) ∧ Below w.heap.size w w') := by
  obtain ⟨cn, hm⟩ := k.map
  have hm1 := Lib.hid (hm.block (w' := w.alloc (.cells (bl z64).toArray 48)) (heap_alloc_old _ _ hm.lt))
  have c0 : w.cell? ⟨p.g, 0, none⟩ = some (.slice (some ⟨p.h, 0, none⟩) d.held.length p.c) := k.row.cell 0
  have c1 : w.cell? ⟨p.g, 1, none⟩ = some (.map (some p.m)) := k.row.cell 1
  have hglt := k.glt
  have hG := Lib.hid k.good
  have hlen2 := k.good.n
  have hr1 : Hid (RowV 48 (w.alloc (.cells (bl z64).toArray 48)) w.heap.size (bl z64)) := RowV.made w _
  have hb1 : Hid (Below w.heap.size w (w.alloc (.cells (bl z64).toArray 48))) := (Below.refl _ _).alloc (Nat.le_refl _) _
  have hk := Lib.hid k
  clear k hm
  cases hc : d.cache (i : Int) with
  | none =>
    have hcf : (cf d.cache (i : Int)).getD (agg z64) = agg z64 := by unfold cf; rw [hc]; rfl
    have hcs : (cf d.cache (i : Int)).isSome = false := by rw [cf_some, hc]; rfl
    have hs : d.says i = d.hold i := by unfold Dk.says; rw [hc]; rfl
    have hl := Dk.hold_len hG.out (i := (i : Int)) (by omega) (by omega)
    rw [hs]
    go_enter Tryz.func45, Tryz.ntmps45
    go_wp2_with (first
      | ((with_reducible refine wpList_alloc_z rfl 48 rfl alloc37z ?_)
         try simp only [World.size_alloc])
      | ((with_reducible refine wpList_lookup_ok_i rfl (.tmp 11) (.tmp 12) 76 rfl Tryz.underlying76 Tryz.underlying3 (zero37' _) rfl rfl hm1.out ?_)
         rw [hcf, hcs]
         have hr2 : Hid (RowV 48 ((w.alloc (.cells (bl z64).toArray 48)).alloc (.cells (bl z64).toArray 48)) (w.heap.size + 1) (bl z64)) := by
           have := RowV.made (T := 48) (w.alloc (.cells (bl z64).toArray 48)) (bl z64)
           rw [World.size_alloc] at this
           exact this)
      | ((with_reducible refine wpList_store_at rfl 48 (.tmp 5) (.tmp 14) rfl (o := 0) rfl rfl hr2.out (bl_size z64_len) (bl_fits z64_len z64_len) (bl_one z64) ?_)
         intro w3 h3 hg3
         have hr3 := Lib.hid ((hr1.out.block (heap_alloc_old _ _ hr1.out.lt)).kept hg3 (by omega))
         have hb3 := Lib.hid ((hb1.out.alloc hb1.out.size _).grown hg3 (by simp <;> omega) (fun j e => by cases e; omega))
         have hk3 := Lib.hid (hk.out.below hb3.out)
         have c0' : w3.cell? ⟨p.g, 0, none⟩ = some (.slice (some ⟨p.h, 0, none⟩) d.held.length p.c) := hk3.out.row.cell 0
         clear hr1 hr2 h3 hg3 hb1 hm1)
      | (with_reducible refine wpList_load_at rfl 48 (.tmp 23) rfl Tryz.underlying48 rfl (vs := bl (d.hold i)) (bl_size hl) rfl (hk3.out.sector' hi) ?_)
      | ((with_reducible refine wpList_store_at rfl 48 (.tmp 4) (.tmp 24) rfl (o := 0) rfl rfl hr3.out (bl_size hl) (bl_fits hl z64_len) (bl_one (d.hold i)) ?_)
         intro w4 h4 hg4
         rw [bl_splice hl z64_len] at h4)
      | (refine bodyPost_ret (results_cell_row (P := Tryz.prog) Tryz.results45 _ _ w.heap.size 48 (bl (d.hold i)).toArray (0, 0) _ rfl h4 Tryz.underlying48 rfl (by rw [List.size_toArray]; exact bl_size hl)) rfl ⟨rfl, ?_⟩))
    exact hb3.out.grown hg4 hb3.out.size (fun j e => by cases e; exact Nat.le_refl _)
  | some b =>
    have hcf : (cf d.cache (i : Int)).getD (agg z64) = agg b := by unfold cf; rw [hc]; rfl
    have hcs : (cf d.cache (i : Int)).isSome = true := by rw [cf_some, hc]; rfl
    have hs : d.says i = b := by unfold Dk.says; rw [hc]; rfl
    have hl := (hG.out.cache _ _ hc).2.2
    rw [hs]
    go_enter Tryz.func45, Tryz.ntmps45
    go_wp2_with (first
      | ((with_reducible refine wpList_alloc_z rfl 48 rfl alloc37z ?_)
         try simp only [World.size_alloc])
      | ((with_reducible refine wpList_lookup_ok_i rfl (.tmp 11) (.tmp 12) 76 rfl Tryz.underlying76 Tryz.underlying3 (zero37' _) rfl rfl hm1.out ?_)
         rw [hcf, hcs]
         have hr2 : Hid (RowV 48 ((w.alloc (.cells (bl z64).toArray 48)).alloc (.cells (bl z64).toArray 48)) (w.heap.size + 1) (bl z64)) := by
           have := RowV.made (T := 48) (w.alloc (.cells (bl z64).toArray 48)) (bl z64)
           rw [World.size_alloc] at this
           exact this)
      | ((with_reducible refine wpList_store_at rfl 48 (.tmp 5) (.tmp 14) rfl (o := 0) rfl rfl hr2.out (bl_size hl) (bl_fits hl z64_len) (bl_one b) ?_)
         intro w3 h3 hg3
         rw [bl_splice hl z64_len] at h3
         have hrb := Lib.hid h3
         have hr3 := Lib.hid ((hr1.out.block (heap_alloc_old _ _ hr1.out.lt)).kept hg3 (by omega))
         have hb3 := Lib.hid ((hb1.out.alloc hb1.out.size _).grown hg3 (by simp <;> omega) (fun j e => by cases e; omega))
         clear hr1 hr2 h3 hg3 hb1 hm1)
      | (with_reducible refine wpList_load_at rfl 48 (.tmp 5) rfl Tryz.underlying48 rfl (vs := bl b) (bl_size hl) rfl (hrb.out.part (o := 0) (pre := []) (rest := []) (bl_part b) rfl) ?_)
      | ((with_reducible refine wpList_store_at rfl 48 (.tmp 4) (.tmp 17) rfl (o := 0) rfl rfl hr3.out (bl_size hl) (bl_fits hl z64_len) (bl_one b) ?_)
         intro w4 h4 hg4
         rw [bl_splice hl z64_len] at h4)
      | (refine bodyPost_ret (results_cell_row (P := Tryz.prog) Tryz.results45 _ _ w.heap.size 48 (bl b).toArray (0, 0) _ rfl h4 Tryz.underlying48 rfl (by rw [List.size_toArray]; exact bl_size hl)) rfl ⟨rfl, ?_⟩))
    exact hb3.out.grown hg4 hb3.out.size (fun j e => by cases e; exact Nat.le_refl _)

end Go.Proofs.YtjhnagipagkhiaaGreat
