/- Which row may stand behind others, which kid. -/
import Derived.Test.YtaiepdhmlmnggaaKPart
import Derived.Maps.RangeWalk
namespace Go.Proofs.Ytaiepdhmlmnggaa
open Go.RowKit

theorem eq_key (w : World) (a b c d : Int) : (binOp .eql 28 (.agg #[.int .i64 a, .int .u16 b]) (.agg #[.int .i64 c, .int .u16 d])).run Try.prog w = .ok (.bool (eqK ⟨a, b⟩ ⟨c, d⟩)) w := by
  rw [run_eql_struct]
  have hS : Try.prog.underlying 28 = some (.struct (Try.prog.fieldsOf 28)) := by kernel_rfl
  have hp : Try.prog.stoodInHeld 28 = false := by kernel_rfl
  have u3 := Try.underlying3
  have u4 := Try.underlying26
  have a3 := Try.isAgg3
  have a4 := Try.isAgg26
  have z3 := Try.sizeOf3
  have z4 := Try.sizeOf26
  rw [show (10000 : Nat) = 9999 + 1 from rfl, run_equalIn_agg w 9999 28 _ _ hS hp]
  simp only [Program.fieldsOf, Try.underlying28]
  clear hS hp
  unfold eqK
  go_simp
  by_cases h1 : a = c <;> by_cases h2 : b = d <;> simp [h1, h2]

set_option maxRecDepth 100000 in
theorem slice_rows (p : Option Addr) (n c k : Nat) (hk : k ≤ n) (hn : n ≤ c) (u : World) :
    (Instr.slice 22 (.slice p n c) none (some (.int .i64 (k : Int))) none).run Try.prog u = .ok (.slice p k c) u := by
  have h := run_slice_h (P := Try.prog) u 22 p n c (by kernel_rfl) .i64 (k : Int) (by omega) (by omega)
  rw [h, show (sizeOf (Try.prog.elem 22)).run Try.prog u = .ok 4 u by kernel_rfl]
  simp only [Result.andThen, sliced, Int.toNat_natCast, Nat.zero_mul, Nat.sub_zero]
  congr 2
  split
  · rfl
  · cases p <;> simp [add_zero]
set_option maxRecDepth 100000 in
theorem slice_kids (p : Option Addr) (n c k : Nat) (hk : k ≤ n) (hn : n ≤ c) (u : World) :
    (Instr.slice 23 (.slice p n c) none (some (.int .i64 (k : Int))) none).run Try.prog u = .ok (.slice p k c) u := by
  have h := run_slice_h (P := Try.prog) u 23 p n c (by kernel_rfl) .i64 (k : Int) (by omega) (by omega)
  rw [h, show (sizeOf (Try.prog.elem 23)).run Try.prog u = .ok 3 u by kernel_rfl]
  simp only [Result.andThen, sliced, Int.toNat_natCast, Nat.zero_mul, Nat.sub_zero]
  congr 2
  split
  · rfl
  · cases p <;> simp [add_zero]

def lastR (L : List RowD) (r : RowD) : Bool := match L[L.length - 1]? with | none => true | some p => decide (cmpK p.key r.key < 0)
def fitsR (L : List RowD) (r : RowD) : Bool := decide (chkRowC r = 0) && lastR L r
theorem chkRowC_or (r : RowD) : chkRowC r = 0 ∨ chkRowC r = 151 := by
  unfold chkRowC
  split
  · exact .inl rfl
  · exact .inr rfl

set_option maxRecDepth 100000 in
set_option maxHeartbeats 4000000 in
theorem rowFits_any (q : Option Addr) (n c : Nat) (L : List RowD) (t id v : Int) (s : ByteArray) (w : World) (hr : RowsOn w q n c L) (hs : s.size ≤ maxLen) :
    Calls Try.prog 63 #[.slice q n c, .agg #[.int .i64 t, .int .u16 id, .int .i64 v, .string s]] w (fun e w' => e = .returned (.bool (fitsR L ⟨⟨t, id⟩, v, s⟩)) ∧ Below w.heap.size w w') := by
  obtain ⟨W, hW⟩ : ∃ W, w.alloc (.cells #[.int .i64 t, .int .u16 id, .int .i64 v, .string s] 30) = W := ⟨_, rfl⟩
  have hbx := Lib.hid (one_box (xs := [.int .i64 t, .int .u16 id, .int .i64 v, .string s]) hW)
  have hs2 := sizeRow t id v s
  have hrr := Lib.hid (hr.below hbx.out.1 (Nat.le_refl _))
  have hlen := Lib.hid hr.len
  have hm := Nat.le_trans hr.le hr.cap
  unfold maxLen at hm
  have hck := Lib.hid (checkRow_any t id v s W hs)
  obtain ⟨x, hx⟩ : ∃ x, chkRowC ⟨⟨t, id⟩, v, s⟩ = x := ⟨_, rfl⟩
  rw [hx] at hck
  have hx' := Lib.hid hx
  have hor := chkRowC_or ⟨⟨t, id⟩, v, s⟩
  rw [hx] at hor
  clear hx hr hs
  rcases hor with rfl | rfl
  · have hfit : Hid (fitsR L ⟨⟨t, id⟩, v, s⟩ = lastR L ⟨⟨t, id⟩, v, s⟩) := by show fitsR _ _ = _; unfold fitsR; rw [hx'.out]; rfl
    rw [hfit.out]
    rcases Nat.eq_zero_or_pos n with hn0 | hn0
    · subst hn0
      have hL := List.eq_nil_of_length_eq_zero hlen.out
      subst hL
      go_enter Try.func63, Try.ntmps63
      go_wp2_with (first
        | (with_reducible refine wpList_load_at rfl 30 (.tmp 3) rfl Try.underlying30 rfl hs2 rfl hbx.out.2.1.all ?_))
      clear hW
      refine hck.out.mono ?_
      clear hck
      rintro e w1 ⟨rfl, hb1⟩
      have hd := Lib.hid (hbx.out.1.trans (hb1.mono hbx.out.1.size))
      clear hb1
      go_wp2
      go_quiet (fail)
      rename_i nq
      go_wp2
      go_ret
      exact ⟨rfl, hd.out.trans ((below_drewN _ _).mono hd.out.size)⟩
    · obtain ⟨m, rfl⟩ : ∃ m, n = m + 1 := ⟨n - 1, by omega⟩
      obtain ⟨A, ⟨⟨pt, pid⟩, pv, ps⟩, hqA, hpx, _, hpc⟩ := hrr.out.at (show m < m + 1 by omega)
      subst hqA
      have hlast : Hid (lastR L ⟨⟨t, id⟩, v, s⟩ = decide (cmpK ⟨pt, pid⟩ ⟨t, id⟩ < 0)) := by
        show lastR _ _ = _
        unfold lastR
        rw [show L.length - 1 = m by rw [hlen.out]; rfl, hpx]
      rw [hlast.out]
      have hcmp := Lib.hid (fun u => compare_any ⟨pt, pid⟩ ⟨t, id⟩ u)
      obtain ⟨z, hz⟩ : ∃ z, cmpK ⟨pt, pid⟩ ⟨t, id⟩ = z := ⟨_, rfl⟩
      rw [hz] at hcmp ⊢
      have g0 : W.cell? (A.add (m * 4)) = some (.int .i64 pt) := by have h := hpc 0 _ rfl; rwa [add0] at h
      have g1 : W.cell? ⟨(A.add (m * 4)).block, (A.add (m * 4)).off + 1, none⟩ = some (.int .u16 pid) := hpc 1 _ rfl
      have hg := Lib.hid (And.intro g0 g1)
      have w0 : IntKind.i64.wrap ((m : Int) + 1 - 1) = m := by rw [Int.add_sub_cancel]; exact IntWalk.i64_in (m : Int) (by omega)
      have w1' : IntKind.i64.wrap (m : Int) = m := IntWalk.i64_in (m : Int) (by omega)
      have j0 : (0 : Int) ≤ m := by omega
      have j1 : (m : Int) < (m : Int) + 1 := by omega
      clear hpx hpc g0 g1 hz
      go_enter Try.func63, Try.ntmps63
      go_wp2_with (first
        | (with_reducible refine wpList_load_at rfl 30 (.tmp 3) rfl Try.underlying30 rfl hs2 rfl hbx.out.2.1.all ?_))
      clear hW
      refine hck.out.mono ?_
      clear hck
      rintro e w1 ⟨rfl, hb1⟩
      have hd := Lib.hid (hbx.out.1.trans (hb1.mono hbx.out.1.size))
      have p0 := (hbx.out.2.1.below hb1 (Nat.le_refl _)).cell 0 rfl
      have p1 := (hbx.out.2.1.below hb1 (Nat.le_refl _)).cell 1 rfl
      have g0 := cell_keeps hb1 (Nat.le_refl _) hg.out.1
      have g1 := cell_keeps hb1 (Nat.le_refl _) hg.out.2
      clear hb1
      go_wp2
      go_region_held3 (fun u => u.cell? ⟨w.heap.size, 0, none⟩ = some (.int .i64 t) ∧ u.cell? ⟨w.heap.size, 1, none⟩ = some (.int .u16 id) ∧ u.cell? (A.add (m * 4)) = some (.int .i64 pt) ∧ u.cell? ⟨(A.add (m * 4)).block, (A.add (m * 4)).off + 1, none⟩ = some (.int .u16 pid) ∧ Below w1.heap.size w1 u)
        (first | exact ⟨p0, p1, g0, g1, below_drew _⟩ | (go_split_ands; exact ⟨cell_keeps hb6.out (Nat.le_refl _) (by assumption), cell_keeps hb6.out (Nat.le_refl _) (by assumption), cell_keeps hb6.out (Nat.le_refl _) (by assumption), cell_keeps hb6.out (Nat.le_refl _) (by assumption), below_step hb6.out (by assumption)⟩))
        (first
          | (go_at_call 70; refine (hcmp.out _).mono ?_; rintro e x5 ⟨rfl, hb6'⟩; have hb6 := Lib.hid hb6'; clear hb6'))
      have hv4 : Hid (Below w1.heap.size w1 x5) := by
        show Below _ _ _
        go_split_ands
        assumption
      clear p0 p1 g0 g1 w0 w1' hcmp
      go_wp2
      go_ret
      exact ⟨rfl, hd.out.trans (hv4.out.mono hd.out.size)⟩
  · have hfit : Hid (fitsR L ⟨⟨t, id⟩, v, s⟩ = false) := by show fitsR _ _ = _; unfold fitsR; rw [hx'.out]; rfl
    rw [hfit.out]
    go_enter Try.func63, Try.ntmps63
    go_wp2_with (first
      | (with_reducible refine wpList_load_at rfl 30 (.tmp 3) rfl Try.underlying30 rfl hs2 rfl hbx.out.2.1.all ?_))
    clear hW
    refine hck.out.mono ?_
    clear hck
    rintro e w1 ⟨rfl, hb1⟩
    have hd := Lib.hid (hbx.out.1.trans (hb1.mono hbx.out.1.size))
    clear hb1
    go_wp2
    go_ret
    exact ⟨rfl, hd.out⟩
end Go.Proofs.Ytaiepdhmlmnggaa
