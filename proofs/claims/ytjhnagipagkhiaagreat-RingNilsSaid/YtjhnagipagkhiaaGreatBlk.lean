/- Blocks of 64 bytes: Op.block. -/
import Derived.Test.YtjhnagipagkhiaaGreatCells
import Derived.WalkSpells
import Derived.WalkLawsBesides
import Derived.Handy
import Derived.IntWalk
namespace Go.Proofs.YtjhnagipagkhiaaGreat
open Go.RowKit

/-- a block, i bytes of which are b, and the others noughts -/
def blkN (b : Int) (i : Nat) : List Value := List.replicate i (.int .u8 b) ++ List.replicate (64 - i) (.int .u8 0)
def blk (b : Int) : List Value := List.replicate 64 (.int .u8 b)
theorem blkN_zero (b : Int) : blkN b 0 = blk 0 := by simp [blkN, blk]
theorem blkN_all (b : Int) : blkN b 64 = blk b := by simp [blkN, blk]
theorem blk_len (b : Int) : (blk b).length = 64 := by simp [blk]
theorem blkN_len (b : Int) (i : Nat) (h : i ≤ 64) : (blkN b i).length = 64 := by simp [blkN]; omega
theorem blkN_set (b : Int) (i : Nat) (h : i < 64) : (blkN b i).set i (.int .u8 b) = blkN b (i + 1) := by
  unfold blkN
  rw [List.set_append_right _ _ (by simp), List.length_replicate, Nat.sub_self, show 64 - i = (64 - (i + 1)) + 1 by omega, List.replicate_succ, List.set_cons_zero, List.replicate_succ']
  simp
theorem blk_one (b : Int) : ∀ v ∈ blk b, v.oneCell' = true := by
  intro v hv
  rw [List.eq_of_mem_replicate hv]; rfl

theorem alloc37 (u : World) : (Instr.alloc 48 true (.tuple #[])).run Tryz.prog u = .ok (.pointer (some ⟨u.heap.size, 0, none⟩)) (u.alloc (.cells (blk 0).toArray 48)) := by kernel_rfl
theorem size37 : (Tryz.prog.info? 48).map (·.size) = some 64 := by kernel_rfl

theorem size37b (b : Int) : (Tryz.prog.info? 48).map (·.size) = some (blk b).length := by rw [blk_len]; exact size37
theorem fit37 (b c : Int) : 0 + (blk b).length ≤ (blk c).length := by rw [blk_len, blk_len]; decide

theorem splice_blk (b c : Int) : splice (blk c) 0 (blk b) = blk b := by
  unfold splice
  rw [List.take_zero, List.nil_append, Nat.zero_add, blk_len, List.drop_of_length_le (by rw [blk_len]; exact Nat.le_refl _), List.append_nil]

end Go.Proofs.YtjhnagipagkhiaaGreat
