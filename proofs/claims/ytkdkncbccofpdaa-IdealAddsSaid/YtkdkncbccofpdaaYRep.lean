/- slices.Replace of one row of a list of the call's own, by another row or by none. -/
import Derived.Test.YtkdkncbccofpdaaYInt
namespace Go.Proofs.Ytkdkncbccofpdaa
open Go.RowKit

theorem one_zeros (n : Nat) : ∀ v ∈ (Builtin.zeroCells (Value.agg #[.int .i64 0, .int .u16 0, .int .i64 0, .string ⟨#[]⟩]).cells n).toList, v.oneCell' = true := by
  intro v hv
  simp only [Builtin.zeroCells, Array.toList_map, List.mem_map] at hv
  obtain ⟨i, _, rfl⟩ := hv
  have h4 : i % 4 < 4 := Nat.mod_lt _ (by decide)
  show ((Value.agg #[.int .i64 0, .int .u16 0, .int .i64 0, .string ⟨#[]⟩]).cells[i % 4]!).oneCell' = true
  match i % 4, h4 with
  | 0, _ => rfl
  | 1, _ => rfl
  | 2, _ => rfl
  | 3, _ => rfl

section
variable {P : Program} {w : World}
/-- clear of a part of a row that is known whole -/
theorem wpList_clear_rk {t e T : TypeId} (hu : P.underlying t = some (.slice e)) {bytes : Nat} (hi : (P.info? e).map (fun i => (i.zero, i.size, i.bytes)) = some (some (.agg #[.int .i64 0, .int .u16 0, .int .i64 0, .string ⟨#[]⟩]), 4, bytes))
    {ops : Array Oper} {rest : List Oper} {o : Oper} {a : Act} {Q : Exit → Act → World → Prop} (hgd : o.guard = none) (d : Operand) (ho : o.op = .call { callee := .builtin .clear, args := #[d], argTypes := #[t] })
    {dp : Option Addr} {n c : Nat} (hd : a.eval d = .slice dp n c) {g off : Nat} {cur : List Value} (hg : RowV T w g cur) (hpos : 0 < n → dp = some ⟨g, off, none⟩) (hfit : off + n * 4 ≤ cur.length)
    (h : ∀ w' cs, cs.length = n * 4 → RowV T w' g (splice cur off cs) → w.grownBy w' (some g) → wpList P ops Q rest (a.put o.dst (.tuple #[])) w') : wpList P ops Q (o :: rest) a w := by
  obtain ⟨i0, hi0, hz0, hz1, hz2⟩ := info_parts hi
  have key : ∃ w' cs, (Builtin.clear_ #[t] o.type #[.slice dp n c]).run P w = .ok (.tuple #[]) w' ∧ cs.length = n * 4 ∧ RowV T w' g (splice cur off cs) ∧ w.grownBy w' (some g) := by
    by_cases h0 : n = 0
    · subst h0
      refine ⟨w, [], ?_, rfl, by simpa [splice] using hg, ⟨rfl, rfl, rfl, Nat.le_refl _, fun _ _ _ => rfl⟩⟩
      cases dp <;> simp [Builtin.clear_, run_underlying hu]
    · obtain rfl := hpos (by omega)
      obtain ⟨m, rfl⟩ : ∃ m, n = m + 1 := ⟨n - 1, by omega⟩
      have hzl : (Builtin.zeroCells (Value.agg #[.int .i64 0, .int .u16 0, .int .i64 0, .string ⟨#[]⟩]).cells (m + 1)).toList.length = (m + 1) * 4 := by
        rw [Array.length_toList, size_zeroCells]; rfl
      have hone := one_zeros (m + 1)
      obtain ⟨Z, hZ⟩ : ∃ Z, (Builtin.zeroCells (Value.agg #[.int .i64 0, .int .u16 0, .int .i64 0, .string ⟨#[]⟩]).cells (m + 1)).toList = Z := ⟨_, rfl⟩
      rw [hZ] at hzl hone
      have hst := run_storeCells_at P g off T Z 0 cur.toArray w hg (by rw [hzl]; simpa using hfit) hone
      simp only [Nat.add_zero] at hst
      refine ⟨w.setRow g (cur.take off ++ Z ++ cur.drop (off + Z.length)).toArray, Z, ?_, hzl, ?_, setRow_grown w g _⟩
      · simp [Builtin.clear_, run_underlying hu, zeroValue, typeInfo, hi0, hz0, hZ, hst]
      · unfold RowV splice
        rw [← List.append_assoc]
        exact setRow_heap w g _ _ T _ hg
  obtain ⟨w', cs, hrun, h1, h2, h3⟩ := key
  refine wpList_plain hgd fun K hK => ?_
  unfold Oper.wp
  simp [execOp, ho, resolve, invoke, builtin, hd, hrun, Result.andThen]
  exact hK _ _ (h w' cs h1 h2 h3)
end

theorem rep_set {cur : List Value} {l : List RowD} {r : RowD} {n i c : Nat} {X : List Value} (hl : l.length = n) (hi : i < n) (hs : cur.length = c * 4) (hc : n ≤ c) (ht : cur.take (n * 4) = cellsR l) (hX : X = cellsR (l.drop (i + 1))) {Z : List Value} (hZ : Z.length = 0) :
    (splice (splice (splice cur (i * 4) r.cells) ((i + 1) * 4) X) (n * 4) Z).take (n * 4) = cellsR (l.take i ++ r :: l.drop (i + 1)) := by
  obtain rfl := List.eq_nil_of_length_eq_zero hZ
  have hd : (cellsR (l.drop (i + 1))).length = (n - (i + 1)) * 4 := by rw [cellsR_len, List.length_drop, hl]
  have e1 : cur.take (i * 4) = cellsR (l.take i) := by
    rw [cellsR_take, ← ht, List.take_take, Nat.min_eq_left (by omega)]
  have e2 : cellsR (l.take i ++ r :: l.drop (i + 1)) = cellsR (l.take i) ++ (r.cells ++ cellsR (l.drop (i + 1))) := by rw [cellsR_append]; rfl
  have hr : r.cells.length = 4 := rfl
  rw [e2, ← e1, ← hX]
  rw [← hX] at hd
  unfold splice
  apply List.ext_getElem?
  intro k
  simp only [List.getElem?_take, List.getElem?_append, List.getElem?_drop, List.length_take, List.length_append, List.length_drop, List.length_nil, hd, hr, hs]
  repeat' split
  all_goals first
    | rfl
    | omega
    | (congr 1; omega)
    | (symm; apply List.getElem?_eq_none; omega)
    | (symm; apply List.getElem?_eq_none; rw [hd]; omega)
    | (simp; omega)
theorem rep_cut {cur : List Value} {l : List RowD} {n i c : Nat} {X : List Value} (hl : l.length = n) (hi : i < n) (hs : cur.length = c * 4) (hc : n ≤ c) (ht : cur.take (n * 4) = cellsR l) (hX : X = cellsR (l.drop (i + 1))) {Z : List Value} :
    (splice (splice cur (i * 4) X) ((n - 1) * 4) Z).take ((n - 1) * 4) = cellsR (l.take i ++ l.drop (i + 1)) := by
  have hd : (cellsR (l.drop (i + 1))).length = (n - (i + 1)) * 4 := by rw [cellsR_len, List.length_drop, hl]
  have e1 : cur.take (i * 4) = cellsR (l.take i) := by
    rw [cellsR_take, ← ht, List.take_take, Nat.min_eq_left (by omega)]
  have e2 : cellsR (l.take i ++ l.drop (i + 1)) = cellsR (l.take i) ++ cellsR (l.drop (i + 1)) := cellsR_append _ _
  rw [← hX] at hd
  have hfit : i * 4 + X.length ≤ cur.length := by rw [hd, hs]; omega
  have hll := length_splice cur (i * 4) X hfit
  have e3 : (n - 1) * 4 = i * 4 + X.length := by rw [hd]; omega
  rw [splice_take_lt (Nat.le_refl _) (by rw [hll, hs]; omega), e2, ← e1, ← hX, e3, splice_take hfit]
end Go.Proofs.Ytkdkncbccofpdaa
