/- Two blocks of 64 bytes are compared: what the model answers, and the laws of a walk for it, under a guard that has come out true too. -/
import Derived.Test.YtnjandmlhncapaaNils
import Derived.Laws.StructEq
namespace Go.Proofs.Ytnjandmlhncapaa
open Go.RowKit

theorem same_at : ∀ (n k : Nat) (xs ys : List Int), xs.length = k + n → ys.length = k + n → xs.take k = ys.take k →
    ((List.range' k n 1).all fun i => xs[i]? == ys[i]?) = (xs == ys)
  | 0, k, xs, ys, hx, hy, he => by
    rw [List.take_of_length_le (by omega), List.take_of_length_le (by omega)] at he
    simp [he]
  | n + 1, k, xs, ys, hx, hy, he => by
    rw [List.range'_succ, List.all_cons]
    have h1 := List.getElem?_eq_getElem (show k < xs.length by omega)
    have h2 := List.getElem?_eq_getElem (show k < ys.length by omega)
    by_cases hk : xs[k]? = ys[k]?
    · rw [hk, beq_self_eq_true, Bool.true_and]
      exact same_at n (k + 1) xs ys (by omega) (by omega) (by rw [List.take_add_one, List.take_add_one, he, hk])
    · have hf : (xs[k]? == ys[k]?) = false := by simpa using hk
      have hn : (xs == ys) = false := by
        rw [beq_eq_false_iff_ne]
        rintro rfl
        exact hk rfl
      rw [hf, hn, Bool.false_and]

theorem size_u8 (w : World) : (sizeOf 5).run Try.prog w = .ok 1 w := by kernel_rfl

theorem part_u8 {xs : List Int} {i : Nat} (hi : i < xs.length) (w : World) : (part 5 (bl xs).toArray (i * 1)).run Try.prog w = .ok (.int .u8 xs[i]) w := by
  have hu : Try.prog.underlying 5 = some (.int .u8) := Try.underlying5
  simp [part, isAgg, run_underlying hu, bl, List.getElem?_eq_getElem hi]

theorem run_blocks (d : Nat) (xs ys : List Int) (hx : xs.length = 64) (hy : ys.length = 64) (w : World) :
    (Op.equalIn (d + 2) 37 (agg xs) (agg ys)).run Try.prog w = .ok (xs == ys) w := by
  rw [← same_at 64 0 xs ys (by omega) (by omega) rfl]
  have hu : Try.prog.underlying 37 = some (.array 64 5) := Try.underlying37
  unfold agg
  rw [Op.equalIn]
  simp only [Sem.run_bind, run_underlying hu, Result.andThen_ok, size_u8, Std.Legacy.Range.forIn_eq_forIn_range', Std.Legacy.Range.size, Nat.sub_zero, Nat.add_sub_cancel, Nat.div_one]
  have hl : ∀ i ∈ List.range' 0 64 1, i < 64 := fun i hi => by simpa using (List.mem_range'_1.1 hi).2
  generalize List.range' 0 64 1 = l at hl ⊢
  induction l with
  | nil => simp
  | cons i l ih =>
    have hi : i < 64 := hl i (by simp)
    have e1 := run_equalIn_int (P := Try.prog) w d 5 .u8 .u8 (xs[i]'(by omega)) (ys[i]'(by omega)) Try.underlying5
    simp only [List.forIn_cons, Sem.run_bind, part_u8 (show i < xs.length by omega), part_u8 (show i < ys.length by omega), e1, Result.andThen_ok, List.all_cons]
    have e2 : (xs[i]? == ys[i]?) = (xs[i]'(by omega) == ys[i]'(by omega)) := by
      rw [List.getElem?_eq_getElem (show i < xs.length by omega), List.getElem?_eq_getElem (show i < ys.length by omega)]
      rfl
    rw [e2]
    cases hb : (xs[i]'(by omega) == ys[i]'(by omega))
    · simp
    · simp only [Bool.not_true, Bool.false_eq_true, if_false, Sem.run_pure, Result.andThen_ok, Bool.true_and]
      exact ih fun j hj => hl j (by simp [hj])

theorem guard_blk : Try.prog.eqGuardType Try.prog.depth 37 = false := by kernel_rfl

theorem run_eql_blk (x y : Operand) (xs ys : List Int) (hx : xs.length = 64) (hy : ys.length = 64) (w : World) :
    (do eqGuard .eql 37 x y (agg xs) (agg ys); binOp .eql 37 (agg xs) (agg ys) : Sem Value).run Try.prog w = .ok (.bool (xs == ys)) w := by
  have h := run_blocks 9998 xs ys hx hy w
  unfold agg at h ⊢
  simp only [Sem.run_bind, run_eqGuard_agg w .eql 37 x y _ _ guard_blk, Result.andThen_ok, run_eql_struct, h]
theorem run_neq_blk (x y : Operand) (xs ys : List Int) (hx : xs.length = 64) (hy : ys.length = 64) (w : World) :
    (do eqGuard .neq 37 x y (agg xs) (agg ys); binOp .neq 37 (agg xs) (agg ys) : Sem Value).run Try.prog w = .ok (.bool (!(xs == ys))) w := by
  have h := run_blocks 9998 xs ys hx hy w
  unfold agg at h ⊢
  simp only [Sem.run_bind, run_eqGuard_agg w .neq 37 x y _ _ guard_blk, Result.andThen_ok, run_neq_struct, h]

end Go.Proofs.Ytnjandmlhncapaa
