/- Blocks of 64 bytes: Op.block. -/
import Derived.Test.YtnjandmlhncapaaCells
import Derived.WalkSpells
import Derived.WalkLawsBesides
import Derived.Handy
import Derived.IntWalk
namespace Go.Proofs.Ytnjandmlhncapaa
open Go.RowKit

/-- a block, i bytes of which are b, and the others noughts -/
def blkN (b : Int) (i : Nat) : List Value := List.replicate i (.int .u8 b) ++ List.replicate (64 - i) (.int .u8 0)
def blk (b : Int) : List Value := List.replicate 64 (.int .u8 b)
theorem blkN_zero (b : Int) : blkN b 0 = blk 0 := by simp [blkN, blk]
theorem blkN_all (b : Int) : blkN b 64 = blk b := by simp [blkN, blk]
theorem blk_len (b : Int) : (blk b).length = 64 := by simp [blk]
theorem blkN_len (b : Int) (i : Nat) (h : i ≤ 64) : (blkN b i).length = 64 := by simp [blkN]; omega
theorem blkN_set (b : Int) (i : Nat) (h : i < 64) : (blkN b i).set i (.int .u8 b) = blkN b (i + 1) := by
  unfold blkN
  rw [List.set_append_right _ _ (by simp), List.length_replicate, Nat.sub_self, show 64 - i = (64 - (i + 1)) + 1 by omega, List.replicate_succ, List.set_cons_zero, List.replicate_succ']
  simp
theorem blk_one (b : Int) : ∀ v ∈ blk b, v.oneCell' = true := by
  intro v hv
  rw [List.eq_of_mem_replicate hv]; rfl

theorem alloc37 (u : World) : (Instr.alloc 37 true (.tuple #[])).run Try.prog u = .ok (.pointer (some ⟨u.heap.size, 0, none⟩)) (u.alloc (.cells (blk 0).toArray 37)) := by kernel_rfl
theorem size37 : (Try.prog.info? 37).map (·.size) = some 64 := by kernel_rfl

theorem size37b (b : Int) : (Try.prog.info? 37).map (·.size) = some (blk b).length := by rw [blk_len]; exact size37
theorem fit37 (b c : Int) : 0 + (blk b).length ≤ (blk c).length := by rw [blk_len, blk_len]; decide

theorem splice_blk (b c : Int) : splice (blk c) 0 (blk b) = blk b := by
  unfold splice
  rw [List.take_zero, List.nil_append, Nat.zero_add, blk_len, List.drop_of_length_le (by rw [blk_len]; exact Nat.le_refl _), List.append_nil]

structure BlkRel (w wr : World) (g : Nat) (op : List Value) (b : Int) (i : Nat) : Prop where
  below : Below w.heap.size w wr
  op : RowV 35 wr w.heap.size op
  out : RowV 37 wr (w.heap.size + 1) (blk 0)
  row : RowV 37 wr g (blkN b i)

set_option maxRecDepth 100000 in
set_option maxHeartbeats 1000000 in
theorem block_any (k a n b : Int) (p : Option Addr) (m c : Nat) (w : World) :
    Calls Try.prog 30 #[.agg #[.int .i64 k, .int .i64 a, .int .i64 n, .int .u8 b, .slice p m c]] w (fun e w' => e = .returned (.agg (blk b).toArray) ∧ Below w.heap.size w w') := by
  go_enter Try.func30, Try.ntmps30
  go_wp2_with (with_reducible refine wpList_alloc_z rfl 37 rfl alloc37 ?_)
  have hr0 : Hid (BlkRel w (((w.alloc (.cells #[.int .i64 k, .int .i64 a, .int .i64 n, .int .u8 b, .slice p m c] 35)).alloc (.cells (blk 0).toArray 37)).alloc (.cells (blk 0).toArray 37)) (w.heap.size + 1 + 1) [.int .i64 k, .int .i64 a, .int .i64 n, .int .u8 b, .slice p m c] b 0) := by
    refine ⟨(((Below.refl _ _).alloc (Nat.le_refl _) _).alloc (by simp) _).alloc (by simp; omega) _, ?_, ?_, ?_⟩
    · exact ((RowV.made w _).block (heap_alloc_old _ _ (by simp))).block (heap_alloc_old _ _ (by simp; omega))
    · have h := (RowV.made (T := 37) (w.alloc (.cells #[.int .i64 k, .int .i64 a, .int .i64 n, .int .u8 b, .slice p m c] 35)) (blk 0)).block (heap_alloc_old _ (.cells (blk 0).toArray 37) (by simp))
      rw [World.size_alloc] at h
      exact h
    · have h := RowV.made (T := 37) ((w.alloc (.cells #[.int .i64 k, .int .i64 a, .int .i64 n, .int .u8 b, .slice p m c] 35)).alloc (.cells (blk 0).toArray 37)) (blk 0)
      rw [World.size_alloc, World.size_alloc] at h
      rw [blkN_zero]
      exact h
  go_loopw [5] (fun v5 wr => ∃ i : Nat, i ≤ 64 ∧ v5 = .int .i64 i ∧ Hid (BlkRel w wr (w.heap.size + 1 + 1) [.int .i64 k, .int .i64 a, .int .i64 n, .int .u8 b, .slice p m c] b i)) (fun v5 _ => 64 - (intOf v5).toNat)
  case atStart => exact ⟨0, by omega, by go_num, hr0⟩
  case round =>
    obtain ⟨i, hi, rfl, hr⟩ := hrel
    by_cases hlt : i < 64
    · have c3 : wr.cell? ⟨w.heap.size, 3, none⟩ = some (.int .u8 b) := hr.out.op.cell 3
      obtain ⟨x, cx⟩ : ∃ x, wr.cell? ⟨w.heap.size + 1 + 1, i, none⟩ = some x := by
        rw [hr.out.row.cell i, List.getElem?_eq_getElem (by rw [blkN_len b i hi]; exact hlt)]
        exact ⟨_, rfl⟩
      have fx := hr.out.row.free i
      have hnext : Hid (BlkRel w (wr.setCell ⟨w.heap.size + 1 + 1, i, none⟩ (.int .u8 b)) (w.heap.size + 1 + 1) [.int .i64 k, .int .i64 a, .int .i64 n, .int .u8 b, .slice p m c] b (i + 1)) := by
        have hg := setCell_grown wr (w.heap.size + 1 + 1) i (.int .u8 b)
        refine ⟨hr.out.below.setCell (p := ⟨w.heap.size + 1 + 1, i, none⟩) (by show _ ≤ w.heap.size + 1 + 1; omega) _, hr.out.op.kept hg (by omega), hr.out.out.kept hg (by omega), ?_⟩
        rw [← blkN_set b i hlt]
        exact hr.out.row.set i _
      clear hr
      go_wp2
      go_roundw
      case rel => exact ⟨i + 1, by omega, by go_num, hnext⟩
      case measure => simp [intOf]; omega
    · obtain rfl : i = 64 := by omega
      have hb := Lib.hid hr.out.below
      have ho := Lib.hid hr.out.out
      have hrow := Lib.hid hr.out.row
      rw [blkN_all] at hrow
      clear hr hr0
      go_wp2_with (first
        | (with_reducible refine wpList_load_at rfl 37 (.tmp 3) rfl Try.underlying37 rfl (vs := blk b) (size37b b) rfl (hrow.out.part (o := 0) (pre := []) (rest := []) (by simp) rfl) ?_)
        | (with_reducible refine wpList_store_at rfl 37 (.tmp 2) (.tmp 13) rfl rfl rfl ho.out (size37b b) (fit37 b 0) (blk_one b) ?_; intro w3 h3 hg3))
      rw [splice_blk] at h3
      have hs : (Try.prog.info? 37).map (·.size) = some (blk b).toArray.size := by rw [List.size_toArray, blk_len]; exact size37
      refine bodyPost_ret (results_cell_row (P := Try.prog) Try.results30 _ _ (w.heap.size + 1) 37 (blk b).toArray (0, 0) _ rfl h3 Try.underlying37 rfl hs) rfl ⟨rfl, ?_⟩
      exact hb.out.grown hg3 hb.out.size (fun k e => by cases e; omega)

end Go.Proofs.Ytnjandmlhncapaa
