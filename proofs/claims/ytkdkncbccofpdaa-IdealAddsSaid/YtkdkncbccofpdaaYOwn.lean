/- Rows of the call's own: append, append of a make, copy and clear, as laws for the walk; nothing of a program is claimed here. -/
import Derived.Test.YtkdkncbccofpdaaYLst
import Derived.Maps.AppendAt
import Derived.Lib.AppendZerosOnto
import Derived.Lib.SlBuf
import Derived.Lib.Overlaps
import Derived.Laws.Externs
import Derived.Lib.SliceRun
namespace Go.Proofs.Ytkdkncbccofpdaa
open Go.RowKit

theorem infoRow : (Try.prog.info? 68).map (fun i => (i.zero, i.size, i.bytes)) = some (some (.agg #[.int .i64 0, .int .u16 0, .int .i64 0, .string ⟨#[]⟩]), 4, 40) := by kernel_rfl

section
variable {P : Program} {w : World}

/-- append onto a row of the call's own, from whatever list of rows -/
theorem run_append_r {t T : TypeId} {bytes : Nat} {z : Value} (ht : P.underlying t = some (.slice T)) (hi : (P.info? T).map (fun i => (i.zero, i.size, i.bytes)) = some (some z, 4, bytes)) (hz : z.cells.size = 4) (ty : TypeId)
    {base : Nat} {q0 : Option Addr} {n0 c0 : Nat} {l : List RowD} {q : Option Addr} {m d : Nat} {ms : List RowD} (hown : OwnR T w base (.slice q0 n0 c0) l) (hr : RowsOn w q m d ms) (hbig : (n0 + m) * bytes ≤ 140737488355328) (hbig2 : n0 + m ≤ 140737488355328) (hbase : base ≤ w.heap.size) :
    ∃ q' c' w', (Builtin.append_ #[t, t] ty #[.slice q0 n0 c0, .slice q m d]).run P w = .ok (.slice q' (n0 + m) c') w' ∧ OwnR T w' base (.slice q' (n0 + m) c') (l ++ ms) ∧ w.grownBy w' (q0.map (·.block)) ∧ (q'.map (·.block) = q0.map (·.block) ∨ q'.map (·.block) = some w.heap.size) := by
  obtain ⟨i0, hi0, hz0, hz1, hz2⟩ := info_parts hi
  have hl := hown.len
  have hm := hr.len
  subst hl
  cases q with
  | none =>
    have h0 : m = 0 := by have := hr.nil rfl; have := hr.le; omega
    subst h0
    obtain rfl := List.eq_nil_of_length_eq_zero hm
    refine ⟨q0, c0, w, ?_, by simpa using hown, ⟨rfl, rfl, rfl, Nat.le_refl _, fun _ _ _ => rfl⟩, .inl rfl⟩
    obtain ⟨hlen, ⟨he, h0⟩ | ⟨g, cap, cur, he, hg, hh, hle, hm2, r⟩⟩ := hown
    · simp only [Value.slice.injEq] at he
      obtain ⟨rfl, h1, rfl⟩ := he
      simp [Builtin.append_, run_underlying ht, sizeOf, typeInfo, hi0, Builtin.lenOf, Builtin.firstCells, h1]
    · simp only [Value.slice.injEq] at he
      obtain ⟨rfl, _, rfl⟩ := he
      simp [Builtin.append_, run_underlying ht, sizeOf, typeInfo, hi0, Builtin.lenOf, Builtin.firstCells, hle, storeCells]
  | some ad =>
    obtain ⟨v', w', hrun, hown', hg, _, hat⟩ := run_append_own_at (P := P) w base t ty T i0 z 4 bytes ht hi0 hz0 hz1 hz2 hz (by decide) _ l.length (cellsR l) hown ad m d (cellsR ms) (by rw [cellsR_len, hm]) (fun j u hj => by
      obtain ⟨i, r, k, rfl, h1, h2⟩ := cellsR_get' ms j u hj
      obtain ⟨a', ha', hc⟩ := hr.get i r h1
      cases ha'
      rw [← Go.Deep.add_add]
      exact hc k u h2) (cellsR_one ms) (by unfold maxLen; omega) hbig hbase
    have hown2 : OwnR T w' base v' (l ++ ms) := by
      unfold OwnR
      rw [List.length_append, hm, cellsR_append]
      exact hown'
    obtain ⟨q', c', rfl⟩ := hown2.shape
    rw [List.length_append, hm] at hrun hown2
    exact ⟨q', c', w', hrun, hown2, by cases q0 <;> exact hg, by cases q0 <;> cases q' <;> exact hat⟩

theorem wpList_append_r {t T : TypeId} {bytes : Nat} {z : Value} (ht : P.underlying t = some (.slice T)) (hi : (P.info? T).map (fun i => (i.zero, i.size, i.bytes)) = some (some z, 4, bytes)) (hz : z.cells.size = 4)
    {ops : Array Oper} {rest : List Oper} {o : Oper} {a : Act} {Q : Exit → Act → World → Prop} (hgd : o.guard = none) (sl x : Operand)
    (ho : o.op = .call { callee := .builtin .append, args := #[sl, x], argTypes := #[t, t] }) {base : Nat} {q0 : Option Addr} {n0 c0 m d : Nat} {l ms : List RowD} {q : Option Addr} (hsl : a.eval sl = .slice q0 n0 c0) (hx : a.eval x = .slice q m d)
    (hown : OwnR T w base (.slice q0 n0 c0) l) (hr : RowsOn w q m d ms) (hbig : (n0 + m) * bytes ≤ 140737488355328) (hbig2 : n0 + m ≤ 140737488355328) (hbase : base ≤ w.heap.size)
    (h : ∀ q' c' w', OwnR T w' base (.slice q' (n0 + m) c') (l ++ ms) → w.grownBy w' (q0.map (·.block)) → (q'.map (·.block) = q0.map (·.block) ∨ q'.map (·.block) = some w.heap.size) → wpList P ops Q rest (a.put o.dst (.slice q' (n0 + m) c')) w') : wpList P ops Q (o :: rest) a w := by
  obtain ⟨q', c', w', hrun, h1, h2, h3⟩ := run_append_r ht hi hz o.type hown hr hbig hbig2 hbase
  exact Lib.wpList_append_run_sl w hgd sl x t ho _ _ hsl hx hrun (h q' c' w' h1 h2 h3)

/-- copy into a row that is known whole -/
theorem run_copy_rk {dT sT ty elem T : TypeId} (hu : P.underlying dT = some (.slice elem)) {bytes : Nat} {z : Value} (hi : (P.info? elem).map (fun i => (i.zero, i.size, i.bytes)) = some (some z, 4, bytes))
    {dp sp : Option Addr} {dLen dCap sLen sCap : Nat} {g off : Nat} {cur cs : List Value} (hg : RowV T w g cur) (hn : cs.length = Nat.min sLen dLen * 4)
    (hpos : 0 < cs.length → dp = some ⟨g, off, none⟩ ∧ ∃ ad, sp = some ad ∧ ∀ j v, cs[j]? = some v → w.cell? (ad.add j) = some v) (hfit : off + cs.length ≤ cur.length) (h1 : ∀ v ∈ cs, v.oneCell' = true) :
    ∃ w', (Builtin.copy_ #[dT, sT] ty #[.slice dp dLen dCap, .slice sp sLen sCap]).run P w = .ok (goInt (Nat.min sLen dLen)) w' ∧ RowV T w' g (splice cur off cs) ∧ w.grownBy w' (some g) := by
  obtain ⟨i0, hi0, hz0, hz1, hz2⟩ := info_parts hi
  by_cases h0 : cs.length = 0
  · have hm : Nat.min sLen dLen = 0 := by omega
    obtain rfl := List.eq_nil_of_length_eq_zero h0
    refine ⟨w, ?_, by simpa [splice] using hg, ⟨rfl, rfl, rfl, Nat.le_refl _, fun _ _ _ => rfl⟩⟩
    cases dp <;> cases sp <;> simp [Builtin.copy_, run_underlying hu, Builtin.lenOf, Builtin.firstCells, sizeOf, typeInfo, hi0, hm, loadCells, loadCellsFrom, storeCells]
  · obtain ⟨rfl, ad, rfl, hsrc⟩ := hpos (by omega)
    have hl := run_loadCells_list (P := P) w ad cs hsrc
    have hst := run_storeCells_at P g off T cs 0 cur.toArray w hg (by simpa using hfit) h1
    refine ⟨w.setRow g (cur.take off ++ cs ++ cur.drop (off + cs.length)).toArray, ?_, ?_, setRow_grown w g _⟩
    · rw [hn] at hl
      simp only [Nat.add_zero] at hst
      simp [Builtin.copy_, run_underlying hu, Builtin.lenOf, Builtin.firstCells, sizeOf, typeInfo, hi0, hz1, hl, hst]
    · unfold RowV splice
      rw [← List.append_assoc]
      exact setRow_heap w g _ _ T _ hg

theorem wpList_copy_rk {dT sT elem T : TypeId} (hu : P.underlying dT = some (.slice elem)) {bytes : Nat} {z : Value} (hi : (P.info? elem).map (fun i => (i.zero, i.size, i.bytes)) = some (some z, 4, bytes))
    {ops : Array Oper} {rest : List Oper} {o : Oper} {a : Act} {Q : Exit → Act → World → Prop} (hgd : o.guard = none) (d s : Operand) (ho : o.op = .call { callee := .builtin .copy, args := #[d, s], argTypes := #[dT, sT] })
    {dp sp : Option Addr} {dLen dCap sLen sCap : Nat} (hd : a.eval d = .slice dp dLen dCap) (hs : a.eval s = .slice sp sLen sCap) {g off : Nat} {cur cs : List Value} (hg : RowV T w g cur) (hn : cs.length = Nat.min sLen dLen * 4)
    (hpos : 0 < cs.length → dp = some ⟨g, off, none⟩ ∧ ∃ ad, sp = some ad ∧ ∀ j v, cs[j]? = some v → w.cell? (ad.add j) = some v) (hfit : off + cs.length ≤ cur.length) (h1 : ∀ v ∈ cs, v.oneCell' = true)
    (h : ∀ w', RowV T w' g (splice cur off cs) → w.grownBy w' (some g) → wpList P ops Q rest (a.put o.dst (goInt (Nat.min sLen dLen))) w') : wpList P ops Q (o :: rest) a w := by
  obtain ⟨w', hrun, h2, h3⟩ := run_copy_rk (sT := sT) (ty := o.type) (dCap := dCap) (sCap := sCap) hu hi hg hn hpos hfit h1
  refine wpList_plain hgd fun K hK => ?_
  unfold Oper.wp
  simp [execOp, ho, resolve, invoke, builtin, hd, hs, hrun, Result.andThen]
  exact hK _ _ (h w' h2 h3)

/-- append of a make, where there is no room -/
theorem wpList_append_z {t tn T : TypeId} {bytes : Nat} {z : Value} (ht : P.underlying t = some (.slice T)) (htn : P.underlying tn = some (.int .i64)) (hi : (P.info? T).map (fun i => (i.zero, i.size, i.bytes)) = some (some z, 4, bytes)) (hz : z.cells.size = 4)
    {ops : Array Oper} {rest : List Oper} {o : Oper} {a : Act} {Q : Exit → Act → World → Prop} (hgd : o.guard = none) (sl x : Operand)
    (ho : o.op = .call { callee := .builtin .append, args := #[sl, x], argTypes := #[t, tn] }) {q0 : Option Addr} {n0 c0 k : Nat} {olds : List Value} (hsl : a.eval sl = .slice q0 n0 c0) (hx : a.eval x = .int .i64 k)
    (hold : olds.length = n0 * 4) (hcell : ∃ ad, q0 = some ad ∧ ∀ j v, olds[j]? = some v → w.cell? (ad.add j) = some v) (hk : 0 < k) (hroom : c0 < n0 + k) (hbig : (n0 + k) * bytes ≤ 140737488355328) (hbig2 : n0 + k ≤ 140737488355328)
    (h : ∀ c' w', n0 + k ≤ c' → c' ≤ maxLen → (∃ cs, RowV T w' w.heap.size (olds ++ cs) ∧ (olds ++ cs).length = c' * 4) → Below w.heap.size w w' → w.heap.size < w'.heap.size → wpList P ops Q rest (a.put o.dst (.slice (some ⟨w.heap.size, 0, none⟩) (n0 + k) c')) w') : wpList P ops Q (o :: rest) a w := by
  obtain ⟨i0, hi0, hz0, hz1, hz2⟩ := info_parts hi
  obtain ⟨ad, rfl, hc⟩ := hcell
  have hf : (Builtin.firstCells i0.size n0 (.slice (some ad) n0 c0)).run P w.drew = .ok olds.toArray w.drew := by
    rw [hz1]
    exact run_firstCells_some w.drew 4 n0 ad n0 c0 olds hold hc
  have hrun := Lib.run_append_grow_zeros w t tn o.type T i0 z .i64 .i64 ht htn hi0 hz0 (some ad) n0 c0 olds hf k hk (by omega) hroom (by omega) (by rw [hz2]; exact Nat.le_trans (Nat.mul_le_mul_right _ (Nat.le_add_left k n0)) (Nat.le_trans hbig (by decide))) (by rw [hz2]; exact growslice_fits hroom hbig)
  have hge := grownCap_ge w (n0 + k) c0 T
  have hcm := grownCap_le_maxLen w (n0 + k) c0 T (by unfold maxLen; omega)
  refine Lib.wpList_append_run w hgd sl x t tn ho _ _ hsl hx _ _ hrun (h _ _ hge hcm ⟨(Builtin.zeroCells z.cells k ++ Builtin.zeroCells z.cells (grownCap w (n0 + k) c0 T - (n0 + k))).toList, ?_, ?_⟩ ?_ (by simp))
  · unfold RowV
    have e : (olds ++ (Builtin.zeroCells z.cells k ++ Builtin.zeroCells z.cells (grownCap w (n0 + k) c0 T - (n0 + k))).toList).toArray = olds.toArray ++ Builtin.zeroCells z.cells k ++ Builtin.zeroCells z.cells (grownCap w (n0 + k) c0 T - (n0 + k)) := by
      apply Array.ext'
      simp
    rw [e]
    exact heap_alloc_new w.drew _
  · simp only [List.length_append, Array.length_toList, Array.size_append, size_zeroCells, hz, hold]
    omega
  · exact (below_drew w).trans ((Below.refl w.drew.heap.size w.drew).alloc (Nat.le_refl _) _)
end
end Go.Proofs.Ytkdkncbccofpdaa
