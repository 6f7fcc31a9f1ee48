/- What a sector says (disk.says, Read's closure), and an operation by what its closure does. -/
import Derived.Test.YtfpiojdfglbdpaaCollect
namespace Go.Proofs.Ytfpiojdfglbdpaa
open Go.RowKit

def z64 : List Int := List.replicate 64 0
theorem z64_len : z64.length = 64 := by simp [z64]
theorem bl_z64 : bl z64 = blk 0 := by simp [bl, z64, blk]
theorem bl_size {b : List Int} (h : b.length = 64) : (Try.prog.info? 64).map (·.size) = some (bl b).length := by rw [bl_len, h]; exact size37
theorem bl_fits {b c : List Int} (h : b.length = 64) (k : c.length = 64) : 0 + (bl b).length ≤ (bl c).length := by rw [bl_len, bl_len, h, k]; decide
theorem bl_splice {b c : List Int} (h : b.length = 64) (k : c.length = 64) : splice (bl c) 0 (bl b) = bl b := by
  unfold splice
  rw [List.take_zero, List.nil_append, Nat.zero_add, bl_len, h, List.drop_of_length_le (by rw [bl_len, k]; exact Nat.le_refl _), List.append_nil]
theorem alloc37z (u : World) : (Instr.alloc 64 true (.tuple #[])).run Try.prog u = .ok (.pointer (some ⟨u.heap.size, 0, none⟩)) (u.alloc (.cells (bl z64).toArray 64)) := by rw [bl_z64]; exact alloc37 u
theorem bl_part (b : List Int) : bl b = [] ++ (bl b ++ []) := by simp
theorem zero37' (w : World) : (zeroValue 64).run Try.prog w = .ok (agg z64) w := zero37 w

theorem At.sector' {w : World} {p : Pl} {d : Dk} (k : At w p d) {i : Nat} (hi : i < d.held.length) : ∀ j v, (bl (d.hold (i : Int)))[j]? = some v → w.cell? ((⟨p.h, i * 64, none⟩ : Addr).add j) = some v := by
  intro j v hj
  have h := k.sector (i := (i : Int)) (by omega) (by omega) j v hj
  have e : ∀ t, (⟨p.h, 0, none⟩ : Addr).add t = ⟨p.h, t, none⟩ := fun t => by unfold Addr.add; split <;> simp_all
  rw [e] at h
  simpa using h

end Go.Proofs.Ytfpiojdfglbdpaa
