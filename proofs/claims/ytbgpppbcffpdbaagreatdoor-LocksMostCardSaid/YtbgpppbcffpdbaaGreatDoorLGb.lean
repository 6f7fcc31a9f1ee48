/- Locks: lists of the call's own: copy, insert, clone, delete. -/
import Derived.Test.YtbgpppbcffpdbaaGreatDoorLGa
import Derived.Lib.AppendZerosOnto
import Derived.Lib.Overlaps
import Derived.Laws.Externs
import Derived.StillTailTactics
import Derived.BigQuiet

/-! Rows of the call's own, of any number of cells an element: copy, clear, append of a make, as laws for the walk; nothing of a program is claimed here. -/
namespace Go.Proofs.YtbgpppbcffpdbaaGreatDoor
open Go.RowKit

theorem infoHold : (Tryz.prog.info? 45).map (fun i => (i.zero, i.size, i.bytes)) = some (some (.agg #[.int .i64 0, .int .i64 0]), 2, 16) := by kernel_rfl
theorem infoWait : (Tryz.prog.info? 47).map (fun i => (i.zero, i.size, i.bytes)) = some (some (.agg #[.int .i64 0, .int .i64 0, .int .i64 0]), 3, 24) := by kernel_rfl
theorem infoQue : (Tryz.prog.info? 43).map (fun i => (i.zero, i.size, i.bytes)) = some (some (.agg #[.int .i64 0, .bool false, .int .u16 0, .slice none 0 0, .slice none 0 0]), 5, 64) := by kernel_rfl
theorem infoInt : (Tryz.prog.info? 3).map (fun i => (i.zero, i.size, i.bytes)) = some (some (.int .i64 0), 1, 8) := by kernel_rfl

theorem splice_take_lt {cs vs : List Value} {o k : Nat} (hk : k ≤ o) (ho : o ≤ cs.length) : (splice cs o vs).take k = cs.take k := by
  unfold splice
  rw [List.take_append_of_le_length (by simp; omega), List.take_take, Nat.min_eq_left hk]
/-- cells of a block beyond place i, as the source of a copy -/
theorem RowV.src {T : TypeId} {w : World} {g : Nat} {cur : List Value} (h : RowV T w g cur) {o : Nat} {cs : List Value} (hc : ∀ j v, cs[j]? = some v → cur[o + j]? = some v) : ∀ j v, cs[j]? = some v → w.cell? ((⟨g, o, none⟩ : Addr).add j) = some v := by
  intro j v hj
  have hadd : (⟨g, o, none⟩ : Addr).add j = ⟨g, o + j, none⟩ := by unfold Addr.add; split <;> simp_all
  rw [hadd, h.cell]
  exact hc j v hj
theorem one_zeros {cs : Array Value} (n : Nat) (h0 : 0 < cs.size) (h1 : ∀ v ∈ cs.toList, v.oneCell' = true) : ∀ v ∈ (Builtin.zeroCells cs n).toList, v.oneCell' = true := by
  intro v hv
  simp only [Builtin.zeroCells, Array.toList_map, List.mem_map] at hv
  obtain ⟨i, _, rfl⟩ := hv
  have h4 : i % cs.size < cs.size := Nat.mod_lt _ h0
  apply h1
  rw [getElem!_pos cs (i % cs.size) h4]
  exact Array.getElem_mem_toList h4

theorem grown_belowN {w w' : World} {q : Option Nat} {B : Nat} (h : w.grownBy w' q) (hB : B ≤ w.heap.size) (hq : ∀ k, q = some k → B ≤ k) : Below B w w' :=
  ⟨h.os, h.tape, h.output, h.size, fun k hk => h.block k (by omega) (fun e => by have := hq k e.symm; omega)⟩
theorem below_drew' (w : World) : Below w.heap.size w w.drew := ⟨rfl, rfl, rfl, Nat.le_refl _, fun _ _ => rfl⟩

section
variable {P : Program} {w : World}
/-- copy into a row that is known whole -/
theorem run_copy_rk {dT sT ty elem T : TypeId} (hu : P.underlying dT = some (.slice elem)) {bytes s : Nat} {z : Value} (hi : (P.info? elem).map (fun i => (i.zero, i.size, i.bytes)) = some (some z, s, bytes))
    {dp sp : Option Addr} {dLen dCap sLen sCap : Nat} {g off : Nat} {cur cs : List Value} (hg : RowV T w g cur) (hn : cs.length = Nat.min sLen dLen * s) (hs0 : 0 < s)
    (hpos : 0 < cs.length → dp = some ⟨g, off, none⟩ ∧ ∃ ad, sp = some ad ∧ ∀ j v, cs[j]? = some v → w.cell? (ad.add j) = some v) (hfit : off + cs.length ≤ cur.length) (h1 : ∀ v ∈ cs, v.oneCell' = true) :
    ∃ w', (Builtin.copy_ #[dT, sT] ty #[.slice dp dLen dCap, .slice sp sLen sCap]).run P w = .ok (goInt (Nat.min sLen dLen)) w' ∧ RowV T w' g (splice cur off cs) ∧ w.grownBy w' (some g) := by
  obtain ⟨i0, hi0, hz0, hz1, hz2⟩ := info_parts hi
  by_cases h0 : cs.length = 0
  · have hm : Nat.min sLen dLen = 0 := by
      rw [h0] at hn
      rcases Nat.mul_eq_zero.1 hn.symm with h | h <;> omega
    obtain rfl := List.eq_nil_of_length_eq_zero h0
    refine ⟨w, ?_, by simpa [splice] using hg, ⟨rfl, rfl, rfl, Nat.le_refl _, fun _ _ _ => rfl⟩⟩
    cases dp <;> cases sp <;> simp [Builtin.copy_, run_underlying hu, Builtin.lenOf, Builtin.firstCells, sizeOf, typeInfo, hi0, hm, loadCells, loadCellsFrom, storeCells]
  · obtain ⟨rfl, ad, rfl, hsrc⟩ := hpos (by omega)
    have hl := run_loadCells_list (P := P) w ad cs hsrc
    have hst := run_storeCells_at P g off T cs 0 cur.toArray w hg (by simpa using hfit) h1
    refine ⟨w.setRow g (cur.take off ++ cs ++ cur.drop (off + cs.length)).toArray, ?_, ?_, setRow_grown w g _⟩
    · rw [hn] at hl
      simp only [Nat.add_zero] at hst
      simp [Builtin.copy_, run_underlying hu, Builtin.lenOf, Builtin.firstCells, sizeOf, typeInfo, hi0, hz1, hl, hst]
    · unfold RowV splice
      rw [← List.append_assoc]
      exact setRow_heap w g _ _ T _ hg

theorem wpList_copy_rk {dT sT elem T : TypeId} (hu : P.underlying dT = some (.slice elem)) {bytes s : Nat} {z : Value} (hi : (P.info? elem).map (fun i => (i.zero, i.size, i.bytes)) = some (some z, s, bytes))
    {ops : Array Oper} {rest : List Oper} {o : Oper} {a : Act} {Q : Exit → Act → World → Prop} (hgd : o.guard = none) (d s' : Operand) (ho : o.op = .call { callee := .builtin .copy, args := #[d, s'], argTypes := #[dT, sT] })
    {dp sp : Option Addr} {dLen dCap sLen sCap : Nat} (hd : a.eval d = .slice dp dLen dCap) (hs : a.eval s' = .slice sp sLen sCap) {g off : Nat} {cur cs : List Value} (hg : RowV T w g cur) (hn : cs.length = Nat.min sLen dLen * s) (hs0 : 0 < s)
    (hpos : 0 < cs.length → dp = some ⟨g, off, none⟩ ∧ ∃ ad, sp = some ad ∧ ∀ j v, cs[j]? = some v → w.cell? (ad.add j) = some v) (hfit : off + cs.length ≤ cur.length) (h1 : ∀ v ∈ cs, v.oneCell' = true)
    (h : ∀ w', RowV T w' g (splice cur off cs) → w.grownBy w' (some g) → wpList P ops Q rest (a.put o.dst (goInt (Nat.min sLen dLen))) w') : wpList P ops Q (o :: rest) a w := by
  obtain ⟨w', hrun, h2, h3⟩ := run_copy_rk (sT := sT) (ty := o.type) (dCap := dCap) (sCap := sCap) hu hi hg hn hs0 hpos hfit h1
  refine wpList_plain hgd fun K hK => ?_
  unfold Oper.wp
  simp [execOp, ho, resolve, invoke, builtin, hd, hs, hrun, Result.andThen]
  exact hK _ _ (h w' h2 h3)

/-- append of a make, where there is no room -/
theorem wpList_append_z {t tn T : TypeId} {bytes s : Nat} {z : Value} (ht : P.underlying t = some (.slice T)) (htn : P.underlying tn = some (.int .i64)) (hi : (P.info? T).map (fun i => (i.zero, i.size, i.bytes)) = some (some z, s, bytes)) (hz : z.cells.size = s) (hs0 : 0 < s)
    {ops : Array Oper} {rest : List Oper} {o : Oper} {a : Act} {Q : Exit → Act → World → Prop} (hgd : o.guard = none) (sl x : Operand)
    (ho : o.op = .call { callee := .builtin .append, args := #[sl, x], argTypes := #[t, tn] }) {q0 : Option Addr} {n0 c0 k : Nat} {olds : List Value} (hsl : a.eval sl = .slice q0 n0 c0) (hx : a.eval x = .int .i64 k)
    (hold : olds.length = n0 * s) (hcell : ∃ ad, q0 = some ad ∧ ∀ j v, olds[j]? = some v → w.cell? (ad.add j) = some v) (hk : 0 < k) (hroom : c0 < n0 + k) (hbig : (n0 + k) * bytes ≤ 140737488355328) (hbig2 : n0 + k ≤ 140737488355328)
    (h : ∀ c' w', n0 + k ≤ c' → c' ≤ maxLen → (∃ cs, RowV T w' w.heap.size (olds ++ cs) ∧ (olds ++ cs).length = c' * s) → Below w.heap.size w w' → w.heap.size < w'.heap.size → wpList P ops Q rest (a.put o.dst (.slice (some ⟨w.heap.size, 0, none⟩) (n0 + k) c')) w') : wpList P ops Q (o :: rest) a w := by
  obtain ⟨i0, hi0, hz0, hz1, hz2⟩ := info_parts hi
  obtain ⟨ad, rfl, hc⟩ := hcell
  have hf : (Builtin.firstCells i0.size n0 (.slice (some ad) n0 c0)).run P w.drew = .ok olds.toArray w.drew := by
    rw [hz1]
    exact run_firstCells_some w.drew s n0 ad n0 c0 olds hold hc
  have hrun := Lib.run_append_grow_zeros w t tn o.type T i0 z .i64 .i64 ht htn hi0 hz0 (some ad) n0 c0 olds hf k hk (by rw [hz1]; exact hs0) hroom (by omega) (by rw [hz2]; exact Nat.le_trans (Nat.mul_le_mul_right _ (Nat.le_add_left k n0)) (Nat.le_trans hbig (by decide))) (by rw [hz2]; exact growslice_fits hroom hbig)
  have hge := grownCap_ge w (n0 + k) c0 T
  have hcm := grownCap_le_maxLen w (n0 + k) c0 T (by unfold maxLen; omega)
  refine Lib.wpList_append_run w hgd sl x t tn ho _ _ hsl hx _ _ hrun (h _ _ hge hcm ⟨(Builtin.zeroCells z.cells k ++ Builtin.zeroCells z.cells (grownCap w (n0 + k) c0 T - (n0 + k))).toList, ?_, ?_⟩ ?_ (by simp))
  · unfold RowV
    have e : (olds ++ (Builtin.zeroCells z.cells k ++ Builtin.zeroCells z.cells (grownCap w (n0 + k) c0 T - (n0 + k))).toList).toArray = olds.toArray ++ Builtin.zeroCells z.cells k ++ Builtin.zeroCells z.cells (grownCap w (n0 + k) c0 T - (n0 + k)) := by
      apply Array.ext'
      simp
    rw [e]
    exact heap_alloc_new w.drew _
  · simp only [List.length_append, Array.length_toList, Array.size_append, size_zeroCells, hz, hold]
    rw [← Nat.add_mul, ← Nat.add_mul]
    congr 1
    omega
  · exact (below_drew' w).trans ((Below.refl w.drew.heap.size w.drew).alloc (Nat.le_refl _) _)

/-- clear of a part of a row that is known whole -/
theorem wpList_clear_rk {t e T : TypeId} (hu : P.underlying t = some (.slice e)) {bytes s : Nat} {z : Value} (hi : (P.info? e).map (fun i => (i.zero, i.size, i.bytes)) = some (some z, s, bytes)) (hz : z.cells.size = s) (hs0 : 0 < s) (hz1' : ∀ v ∈ z.cells.toList, v.oneCell' = true)
    {ops : Array Oper} {rest : List Oper} {o : Oper} {a : Act} {Q : Exit → Act → World → Prop} (hgd : o.guard = none) (d : Operand) (ho : o.op = .call { callee := .builtin .clear, args := #[d], argTypes := #[t] })
    {dp : Option Addr} {n c : Nat} (hd : a.eval d = .slice dp n c) {g off : Nat} {cur : List Value} (hg : RowV T w g cur) (hpos : 0 < n → dp = some ⟨g, off, none⟩) (hfit : off + n * s ≤ cur.length)
    (h : ∀ w' cs, cs.length = n * s → RowV T w' g (splice cur off cs) → w.grownBy w' (some g) → wpList P ops Q rest (a.put o.dst (.tuple #[])) w') : wpList P ops Q (o :: rest) a w := by
  obtain ⟨i0, hi0, hz0, hz1, hz2⟩ := info_parts hi
  have key : ∃ w' cs, (Builtin.clear_ #[t] o.type #[.slice dp n c]).run P w = .ok (.tuple #[]) w' ∧ cs.length = n * s ∧ RowV T w' g (splice cur off cs) ∧ w.grownBy w' (some g) := by
    by_cases h0 : n = 0
    · subst h0
      refine ⟨w, [], ?_, by simp, by simpa [splice] using hg, ⟨rfl, rfl, rfl, Nat.le_refl _, fun _ _ _ => rfl⟩⟩
      cases dp <;> simp [Builtin.clear_, run_underlying hu]
    · obtain rfl := hpos (by omega)
      obtain ⟨m, rfl⟩ : ∃ m, n = m + 1 := ⟨n - 1, by omega⟩
      have hzl : (Builtin.zeroCells z.cells (m + 1)).toList.length = (m + 1) * s := by
        rw [Array.length_toList, size_zeroCells, hz]
      have hone := one_zeros (m + 1) (by rw [hz]; exact hs0) hz1'
      obtain ⟨Z, hZ⟩ : ∃ Z, (Builtin.zeroCells z.cells (m + 1)).toList = Z := ⟨_, rfl⟩
      rw [hZ] at hzl hone
      have hst := run_storeCells_at P g off T Z 0 cur.toArray w hg (by rw [hzl]; simpa using hfit) hone
      simp only [Nat.add_zero] at hst
      refine ⟨w.setRow g (cur.take off ++ Z ++ cur.drop (off + Z.length)).toArray, Z, ?_, hzl, ?_, setRow_grown w g _⟩
      · simp [Builtin.clear_, run_underlying hu, zeroValue, typeInfo, hi0, hz0, hZ, hst]
      · unfold RowV splice
        rw [← List.append_assoc]
        exact setRow_heap w g _ _ T _ hg
  obtain ⟨w', cs, hrun, h1, h2, h3⟩ := key
  refine wpList_plain hgd fun K hK => ?_
  unfold Oper.wp
  simp [execOp, ho, resolve, invoke, builtin, hd, hrun, Result.andThen]
  exact hK _ _ (h w' cs h1 h2 h3)
end
end Go.Proofs.YtbgpppbcffpdbaaGreatDoor

/-! slices.Insert of one thing of kind HoldD into a list of the call's own. -/
namespace Go.Proofs.YtbgpppbcffpdbaaGreatDoor
open Go.RowKit

theorem lenH (l : List HoldD) : (cellsL l).length = l.length * 2 := cellsL_len l
theorem takeH (l : List HoldD) (i : Nat) : cellsL (l.take i) = (cellsL l).take (i * 2) := cellsL_take l i
theorem dropH (l : List HoldD) (i : Nat) (hi : i ≤ l.length) : cellsL (l.drop i) = (cellsL l).drop (i * 2) := cellsL_drop l i hi
theorem mkH {T : TypeId} {w : World} {B g n c : Nat} {cur : List Value} {l : List HoldD} (hB : B ≤ g) (hr : RowV T w g cur) (hn : n ≤ c) (hc : c ≤ maxLen) (hs : cur.length = c * 2) (ht : cur.take (n * 2) = cellsL l) (hl : l.length = n) : OwnS T w B (.slice (some ⟨g, 0, none⟩) n c) l := OwnS.mk hB hr hn hc hs ht hl
theorem openedH {T : TypeId} {w : World} {B : Nat} {a : Addr} {n c : Nat} {l : List HoldD} (h : OwnS T w B (.slice (some a) n c) l) : ∃ g cur, a = ⟨g, 0, none⟩ ∧ B ≤ g ∧ RowV T w g cur ∧ n ≤ c ∧ c ≤ maxLen ∧ cur.length = c * 2 ∧ cur.take (n * 2) = cellsL l := h.opened

/-- a place more ahead of i: first what stands from i on, then the row -/
theorem ins_shiftH {cur : List Value} {l : List HoldD} {r : HoldD} {n i c : Nat} (hl : l.length = n) (hi : i ≤ n) (hs : cur.length = c * 2) (hc : n + 1 ≤ c) (ht : cur.take (n * 2) = cellsL l) :
    (splice (splice cur ((i + 1) * 2) (cellsL (l.drop i))) (i * 2) (Cel.cells r)).take ((n + 1) * 2) = cellsL (l.take i ++ r :: l.drop i) := by
  have e1 : cur.take (i * 2) = cellsL (l.take i) := by
    rw [takeH, ← ht, List.take_take, Nat.min_eq_left (by omega)]
  have hd : (cellsL (l.drop i)).length = (n - i) * 2 := by rw [lenH, List.length_drop, hl]
  have hr : (Cel.cells r).length = 2 := rfl
  obtain ⟨D, hD⟩ : ∃ D, cellsL (l.drop i) = D := ⟨_, rfl⟩
  rw [hD] at hd
  have e2 : cellsL (l.take i ++ r :: l.drop i) = cellsL (l.take i) ++ ((Cel.cells r) ++ D) := by rw [cellsL_append, ← hD]; rfl
  rw [e2, ← e1, hD]
  unfold splice
  apply List.ext_getElem?
  intro k
  simp only [List.getElem?_take, List.getElem?_append, List.getElem?_drop, List.length_take, List.length_append, List.length_drop, hd, hr, hs]
  repeat' split
  all_goals first
    | rfl
    | omega
    | (congr 1; omega)
    | (symm; apply List.getElem?_eq_none; omega)

set_option maxRecDepth 100000 in
set_option maxHeartbeats 2000000 in
theorem insert_shiftH (B g c n i vb : Nat) (cur : List Value) (l : List HoldD) (r : HoldD) (w : World) (hi : i < n) (hroom : n + 1 ≤ c) (hn : n ≤ 1000000) (hc : c ≤ maxLen) (hB : B ≤ g) (hg : RowV 45 w g cur) (hs : cur.length = c * 2) (ht : cur.take (n * 2) = cellsL l) (hl : l.length = n)
    (hv : RowV 45 w vb (Cel.cells r)) (hne : vb ≠ g) :
    Calls Tryz.prog 114 #[.slice (some ⟨g, 0, none⟩) n c, .int .i64 i, .slice (some ⟨vb, 0, none⟩) 1 1] w (fun e w' => e = .returned (.slice (some ⟨g, 0, none⟩) (n + 1) c) ∧ OwnS 45 w' B (.slice (some ⟨g, 0, none⟩) (n + 1) c) (l.take i ++ r :: l.drop i) ∧ w.grownBy w' (some g)) := by
  unfold maxLen at hc
  have hov : ∀ lb cb, (callFunc 147 #[.slice (some ⟨vb, 0, none⟩) 1 1, .slice (some ⟨g, (i + 1) * 2, none⟩) lb cb]).run Tryz.prog w = .ok (.value (.bool false)) w := fun lb cb => by
    rw [run_callFunc_extern Tryz.func147 (by kernel_rfl) (by kernel_rfl) (by kernel_rfl) (e := Extern.SlicesOverlaps.overlaps #[40, 40] #[4]) (by kernel_rfl),
      Lib.run_overlaps_apart w 40 4 45 Tryz.underlying40 2 Tryz.sizeOf45 ⟨vb, 0, none⟩ ⟨g, (i + 1) * 2, none⟩ 1 1 lb cb hne 45 45 2 (c * 2) (by unfold RowV at hv; simp [World.shape?, hv]; exact Cel.len r) (by unfold RowV at hg; simp [World.shape?, hg, hs]) (by omega) (hv.free 0) (hv.free 2)]
    rfl
  have hin : i ≤ n := by omega
  have hz2 : ¬ ((i : Int) = (n : Int)) := by omega
  have hb0 : ¬ ((c : Int) < (n : Int) + 1) := by omega
  have hb1 : ¬ (c = i) := by omega
  have hb2 : ¬ (c = i + 1) := by omega
  go_enter Tryz.func114, Tryz.ntmps114
  go_wp2_with (simp only [hov])
  have k0 : IntKind.i64.wrap ((i : Int) + 1) = (i : Int) + 1 := IntWalk.i64_in _ (by omega)
  have k1 : (0 : Int) ≤ (i : Int) + 1 := by omega
  have k2 : ((i : Int) + 1).toNat = i + 1 := by omega
  have k3 : (i : Int) + 1 ≤ (n : Int) + 1 := by omega
  have k4 : (i : Int) ≤ (n : Int) + 1 := by omega
  have k5 : i ≤ n + 1 := by omega
  go_still_tail 8, (by kernel_rfl)
  change wpList _ _ _ _ _ (World.drew w)
  clear k0 k1 k2 k3 k4 k5
  have hD : (cellsL (l.drop i)).length = (n - i) * 2 := by rw [lenH, List.length_drop, hl]
  have hcp : ∀ j v, (cellsL (l.drop i))[j]? = some v → cur[i * 2 + j]? = some v := fun j v hj => by
    rw [dropH l i (by omega), List.getElem?_drop, ← ht, List.getElem?_take] at hj
    split at hj
    · exact hj
    · cases hj
  have hfin := Lib.hid (ins_shiftH (r := r) hl hin hs hroom ht)
  obtain ⟨D, hDD⟩ : ∃ D, cellsL (l.drop i) = D := ⟨_, rfl⟩
  have h1D : ∀ v ∈ D, v.oneCell' = true := by rw [← hDD]; exact cellsL_one _
  rw [hDD] at hD hcp hfin
  have hDD' := Lib.hid hDD
  have hD' := Lib.hid hD
  have hcp' := Lib.hid hcp
  have h1D' := Lib.hid h1D
  have hht := Lib.hid ht
  have hss := Lib.hid hs
  have hll := Lib.hid hl
  have hgg := Lib.hid hg
  have hvv := Lib.hid hv
  clear hDD hD hcp h1D ht hs hl hg hv hov
  have n1 : Hid (D.length = Nat.min (n + 1 - i) (n - i) * 2) := by
    show D.length = _
    rw [hD'.out, show Nat.min (n + 1 - i) (n - i) = n - i by simp only [Nat.min_def]; split <;> omega]
  have hg1 : Hid (RowV 45 w.drew g cur) := hgg.out.block (w' := w.drew) rfl
  have p1 : Hid (0 < D.length → (some ⟨g, (i + 1) * 2, none⟩ : Option Addr) = some ⟨g, (i + 1) * 2, none⟩ ∧ ∃ ad, (some ⟨g, i * 2, none⟩ : Option Addr) = some ad ∧ ∀ j v, D[j]? = some v → w.drew.cell? (ad.add j) = some v) := fun _ => ⟨rfl, _, rfl, hg1.out.src hcp'.out⟩
  have f1 : Hid ((i + 1) * 2 + D.length ≤ cur.length) := by show _ ≤ _; rw [hD'.out, hss.out]; omega
  have q1 := Lib.hid (length_splice cur ((i + 1) * 2) D f1.out)
  have hr4 : Hid ((Cel.cells r).length = Nat.min 1 (n + 1 - i) * 2) := by
    show (Cel.cells r).length = _
    rw [show Nat.min 1 (n + 1 - i) = 1 by simp only [Nat.min_def]; split <;> omega]
    rfl
  have f2 : Hid (i * 2 + (Cel.cells r).length ≤ (splice cur ((i + 1) * 2) D).length) := by show _ ≤ _; rw [q1.out, hss.out]; show i * 2 + 2 ≤ _; omega
  go_wp2_with (first
    | ((with_reducible refine wpList_copy_rk Tryz.underlying40 infoHold rfl (.tmp 73) (.tmp 76) rfl rfl rfl hg1.out n1.out (by decide) p1.out f1.out h1D'.out ?_)
       intro w2 hg2 hgr2
       have hg3 := Lib.hid hg2
       have hgr3 := Lib.hid hgr2
       have hv3 := Lib.hid ((hvv.out.block (w' := w.drew) rfl).kept hgr2 hne)
       have p2 : Hid (0 < (Cel.cells r).length → (some ⟨g, i * 2, none⟩ : Option Addr) = some ⟨g, i * 2, none⟩ ∧ ∃ ad, (some ⟨vb, 0, none⟩ : Option Addr) = some ad ∧ ∀ j v, (Cel.cells r)[j]? = some v → w2.cell? (ad.add j) = some v) := fun _ => ⟨rfl, _, rfl, hv3.out.src (fun j v hj => by rw [Nat.zero_add]; exact hj)⟩
       clear hg2 hgr2)
    | ((with_reducible refine wpList_copy_rk Tryz.underlying40 infoHold rfl (.tmp 80) (.tmp 81) rfl rfl rfl hg3.out hr4.out (by decide) p2.out f2.out (Cel.one r) ?_)
       intro w4 hg4' hgr4'
       have hg4 := Lib.hid hg4'
       have hgr4 := Lib.hid hgr4'
       clear hg4' hgr4'))
  go_ret
  have hlen := length_splice (splice cur ((i + 1) * 2) D) (i * 2) (Cel.cells r) f2.out
  refine ⟨rfl, mkH hB hg4.out hroom (by unfold maxLen; exact hc) (by rw [hlen, q1.out, hss.out]) hfin.out (by simp [hll.out]; omega), ?_⟩
  exact grown_trans (below_grown (below_drew' w) _) (grown_trans hgr3.out hgr4.out)
theorem ins_growH {cs : List Value} {l : List HoldD} {r : HoldD} {n i c : Nat} (hl : l.length = n) (hi : i ≤ n) (hs : (cellsL (l.take i) ++ cs).length = c * 2) (hc : n + 1 ≤ c) :
    (splice (splice (cellsL (l.take i) ++ cs) (i * 2) (Cel.cells r)) ((i + 1) * 2) (cellsL (l.drop i))).take ((n + 1) * 2) = cellsL (l.take i ++ r :: l.drop i) := by
  have ht : (cellsL (l.take i)).length = i * 2 := by rw [lenH, List.length_take, hl, Nat.min_eq_left hi]
  have hd : (cellsL (l.drop i)).length = (n - i) * 2 := by rw [lenH, List.length_drop, hl]
  have hr : (Cel.cells r).length = 2 := rfl
  have e2 : cellsL (l.take i ++ r :: l.drop i) = cellsL (l.take i) ++ ((Cel.cells r) ++ cellsL (l.drop i)) := by rw [cellsL_append]; rfl
  rw [e2]
  obtain ⟨D, hD⟩ : ∃ D, cellsL (l.drop i) = D := ⟨_, rfl⟩
  obtain ⟨A, hA⟩ : ∃ A, cellsL (l.take i) = A := ⟨_, rfl⟩
  rw [hD] at hd ⊢
  rw [hA] at ht hs ⊢
  rw [List.length_append] at hs
  unfold splice
  apply List.ext_getElem?
  intro k
  simp only [List.getElem?_take, List.getElem?_append, List.getElem?_drop, List.length_take, List.length_append, List.length_drop, hd, hr, ht]
  repeat' split
  all_goals first
    | rfl
    | omega
    | (congr 1; omega)
    | (symm; apply List.getElem?_eq_none; omega)

set_option maxRecDepth 100000 in
set_option maxHeartbeats 2000000 in
theorem insert_growH (B g c n i vb : Nat) (cur : List Value) (l : List HoldD) (r : HoldD) (w : World) (hi : i < n) (hnc : n ≤ c) (hroom : c < n + 1) (hn : n ≤ 1000000) (hB : B ≤ w.heap.size) (hg : RowV 45 w g cur) (ht : cur.take (n * 2) = cellsL l) (hl : l.length = n)
    (hv : RowV 45 w vb (Cel.cells r)) :
    Calls Tryz.prog 114 #[.slice (some ⟨g, 0, none⟩) n c, .int .i64 i, .slice (some ⟨vb, 0, none⟩) 1 1] w (fun e w' => ∃ q' c', e = .returned (.slice q' (n + 1) c') ∧ OwnS 45 w' B (.slice q' (n + 1) c') (l.take i ++ r :: l.drop i) ∧ Below w.heap.size w w') := by
  have hin : i ≤ n := by omega
  have hz2 : ¬ ((i : Int) = (n : Int)) := by omega
  have hb0 : (c : Int) < (n : Int) + 1 := by omega
  have hb1 : ¬ (c = i) := by omega
  have hglt := hg.lt
  have hvlt := hv.lt
  obtain ⟨k, hk⟩ : ∃ k : Nat, (n : Int) + 1 - (i : Int) = k := ⟨n + 1 - i, by omega⟩
  have hk1 : 0 < k := by omega
  have hk2 : i + k = n + 1 := by omega
  have htl : (cellsL (l.take i)).length = i * 2 := by rw [lenH, List.length_take, hl, Nat.min_eq_left hin]
  have hD : (cellsL (l.drop i)).length = (n - i) * 2 := by rw [lenH, List.length_drop, hl]
  have hcT : ∀ j v, (cellsL (l.take i))[j]? = some v → cur[0 + j]? = some v := fun j v hj => by
    rw [takeH l i, ← ht, List.getElem?_take, List.getElem?_take] at hj
    rw [Nat.zero_add]
    split at hj
    · split at hj
      · exact hj
      · cases hj
    · cases hj
  have hcp : ∀ j v, (cellsL (l.drop i))[j]? = some v → cur[i * 2 + j]? = some v := fun j v hj => by
    rw [dropH l i (by omega), List.getElem?_drop, ← ht, List.getElem?_take] at hj
    split at hj
    · exact hj
    · cases hj
  have hfin := Lib.hid (fun cs c (hs : (cellsL (l.take i) ++ cs).length = c * 2) (hc : n + 1 ≤ c) => ins_growH (r := r) (cs := cs) hl hin hs hc)
  have hlf : Hid ((l.take i ++ r :: l.drop i).length = n + 1) := by show _ = _; simp [hl]; omega
  obtain ⟨D, hDD⟩ : ∃ D, cellsL (l.drop i) = D := ⟨_, rfl⟩
  obtain ⟨A, hAA⟩ : ∃ A, cellsL (l.take i) = A := ⟨_, rfl⟩
  obtain ⟨F, hFF⟩ : ∃ F, l.take i ++ r :: l.drop i = F := ⟨_, rfl⟩
  have h1D : ∀ v ∈ D, v.oneCell' = true := by rw [← hDD]; exact cellsL_one _
  rw [hDD] at hD hcp hfin
  rw [hAA] at htl hcT hfin
  rw [hFF] at hfin hlf ⊢
  have hD' := Lib.hid hD
  have htl' := Lib.hid htl
  have hcp' := Lib.hid hcp
  have h1D' := Lib.hid h1D
  have ho1 : Hid (∃ ad, (some ⟨g, 0, none⟩ : Option Addr) = some ad ∧ ∀ j v, A[j]? = some v → w.cell? (ad.add j) = some v) := ⟨_, rfl, hg.src hcT⟩
  have hgg := Lib.hid hg
  have hvv := Lib.hid hv
  have h40 : Hid ((i + k) * 16 ≤ 140737488355328) := by show _ ≤ _; omega
  have h41 : Hid (i + k ≤ 140737488355328) := by show _ ≤ _; omega
  have hr0 : Hid (c < i + k) := by show _ < _; omega
  have htn : Tryz.prog.underlying 3 = some (.int .i64) := Tryz.underlying3
  have n1 : Hid ((Cel.cells r).length = Nat.min 1 (n + 1 - i) * 2) := by
    show (Cel.cells r).length = _
    rw [show Nat.min 1 (n + 1 - i) = 1 by simp only [Nat.min_def]; split <;> omega]
    rfl
  have n2 : Hid (D.length = Nat.min (n - i) (n - i) * 2) := by
    show D.length = _
    rw [hD'.out, show Nat.min (n - i) (n - i) = n - i by simp only [Nat.min_def]; split <;> omega]
  clear hDD hAA hFF hD hcp h1D htl hcT ht hl hg hv
  go_enter Tryz.func114, Tryz.ntmps114
  go_wp2_with (first
    | (at_builtin
       refine wpList_append_z Tryz.underlying40 htn infoHold rfl (by decide) rfl (.tmp 34) (.tmp 39) rfl rfl rfl (olds := A) (k := k) htl'.out ho1.out hk1 hr0.out h40.out h41.out ?_
       intro c' w1 hc1 hc2 hrow hb hlt
       rw [hk2] at hc1 ⊢
       have hq1 : ¬ (c' = i) := by omega
       have hq2 : ¬ (c' = i + 1) := by omega
       have hc3 := Lib.hid hc1
       have hc4 := Lib.hid hc2
       have hb3 := Lib.hid hb
       have hrow' := Lib.hid hrow
       clear hc1 hc2 hb hrow
       obtain ⟨cs, hrw, hsz⟩ := hrow'.out
       have hsz' := Lib.hid hsz
       have hfin' := Lib.hid (hfin.out cs c' hsz hc3.out)
       obtain ⟨R, hR⟩ : ∃ R, A ++ cs = R := ⟨_, rfl⟩
       rw [hR] at hrw hsz' hfin'
       have hg1 := Lib.hid hrw
       have hv1 := Lib.hid (hvv.out.below hb3.out)
       have hg0 := Lib.hid (hgg.out.below hb3.out)
       have f1 : Hid (i * 2 + (Cel.cells r).length ≤ R.length) := by show _ ≤ _; rw [hsz'.out]; show i * 2 + 2 ≤ _; have := hc3.out; omega
       have q1 := Lib.hid (length_splice R (i * 2) (Cel.cells r) f1.out)
       have p1 : Hid (0 < (Cel.cells r).length → (some ⟨w.heap.size, i * 2, none⟩ : Option Addr) = some ⟨w.heap.size, i * 2, none⟩ ∧ ∃ ad, (some ⟨vb, 0, none⟩ : Option Addr) = some ad ∧ ∀ j v, (Cel.cells r)[j]? = some v → w1.cell? (ad.add j) = some v) := fun _ => ⟨rfl, _, rfl, hv1.out.src (fun j v hj => by rw [Nat.zero_add]; exact hj)⟩
       clear hrw hsz hR hrow')
    | ((with_reducible refine wpList_copy_rk Tryz.underlying40 infoHold rfl (.tmp 43) (.tmp 44) rfl rfl rfl hg1.out n1.out (by decide) p1.out f1.out (Cel.one r) ?_)
       intro w2 hg2 hgr2
       have hg3 := Lib.hid hg2
       have hgr3 := Lib.hid hgr2
       have hg4 := Lib.hid (hg0.out.kept hgr2 (by omega))
       clear hg2 hgr2))
  have k0 : IntKind.i64.wrap ((i : Int) + 1) = (i : Int) + 1 := IntWalk.i64_in _ (by omega)
  have k1 : (0 : Int) ≤ (i : Int) + 1 := by omega
  have k2 : ((i : Int) + 1).toNat = i + 1 := by omega
  have k3 : (i : Int) + 1 ≤ (n : Int) + 1 := by omega
  go_still_tail 8, (by kernel_rfl)
  change wpList _ _ _ _ _ (World.drew w2)
  clear k0 k1 k2 k3
  have hg5 : Hid (RowV 45 w2.drew w.heap.size (splice R (i * 2) (Cel.cells r))) := hg3.out.block (w' := w2.drew) rfl
  have p2 : Hid (0 < D.length → (some ⟨w.heap.size, (i + 1) * 2, none⟩ : Option Addr) = some ⟨w.heap.size, (i + 1) * 2, none⟩ ∧ ∃ ad, (some ⟨g, i * 2, none⟩ : Option Addr) = some ad ∧ ∀ j v, D[j]? = some v → w2.drew.cell? (ad.add j) = some v) := fun _ => ⟨rfl, _, rfl, (hg4.out.block (w' := w2.drew) rfl).src hcp'.out⟩
  have f2 : Hid ((i + 1) * 2 + D.length ≤ (splice R (i * 2) (Cel.cells r)).length) := by show _ ≤ _; rw [q1.out, hsz'.out, hD'.out]; have := hc3.out; omega
  go_wp2_with (first
    | ((with_reducible refine wpList_copy_rk Tryz.underlying40 infoHold rfl (.tmp 50) (.tmp 53) rfl rfl rfl hg5.out n2.out (by decide) p2.out f2.out h1D'.out ?_)
       intro w4 hg6' hgr6'
       have hg6 := Lib.hid hg6'
       have hgr6 := Lib.hid hgr6'
       clear hg6' hgr6'))
  go_ret
  have hlen := length_splice (splice R (i * 2) (Cel.cells r)) ((i + 1) * 2) D f2.out
  refine ⟨_, _, rfl, mkH hB hg6.out hc3.out hc4.out (by rw [hlen, q1.out, hsz'.out]) hfin'.out hlf.out, ?_⟩
  have hx : w1.grownBy w4 (some w.heap.size) := grown_trans hgr3.out (grown_trans (below_grown (below_drew' w2) _) hgr6.out)
  exact hb3.out.grown hx hb3.out.size (fun k e => by cases e; exact Nat.le_refl _)

end Go.Proofs.YtbgpppbcffpdbaaGreatDoor

/-! slices.Insert of one thing of kind WaitD into a list of the call's own. -/
namespace Go.Proofs.YtbgpppbcffpdbaaGreatDoor
open Go.RowKit

theorem lenW (l : List WaitD) : (cellsL l).length = l.length * 3 := cellsL_len l
theorem takeW (l : List WaitD) (i : Nat) : cellsL (l.take i) = (cellsL l).take (i * 3) := cellsL_take l i
theorem dropW (l : List WaitD) (i : Nat) (hi : i ≤ l.length) : cellsL (l.drop i) = (cellsL l).drop (i * 3) := cellsL_drop l i hi
theorem mkW {T : TypeId} {w : World} {B g n c : Nat} {cur : List Value} {l : List WaitD} (hB : B ≤ g) (hr : RowV T w g cur) (hn : n ≤ c) (hc : c ≤ maxLen) (hs : cur.length = c * 3) (ht : cur.take (n * 3) = cellsL l) (hl : l.length = n) : OwnS T w B (.slice (some ⟨g, 0, none⟩) n c) l := OwnS.mk hB hr hn hc hs ht hl
theorem openedW {T : TypeId} {w : World} {B : Nat} {a : Addr} {n c : Nat} {l : List WaitD} (h : OwnS T w B (.slice (some a) n c) l) : ∃ g cur, a = ⟨g, 0, none⟩ ∧ B ≤ g ∧ RowV T w g cur ∧ n ≤ c ∧ c ≤ maxLen ∧ cur.length = c * 3 ∧ cur.take (n * 3) = cellsL l := h.opened

/-- a place more ahead of i: first what stands from i on, then the row -/
theorem ins_shiftW {cur : List Value} {l : List WaitD} {r : WaitD} {n i c : Nat} (hl : l.length = n) (hi : i ≤ n) (hs : cur.length = c * 3) (hc : n + 1 ≤ c) (ht : cur.take (n * 3) = cellsL l) :
    (splice (splice cur ((i + 1) * 3) (cellsL (l.drop i))) (i * 3) (Cel.cells r)).take ((n + 1) * 3) = cellsL (l.take i ++ r :: l.drop i) := by
  have e1 : cur.take (i * 3) = cellsL (l.take i) := by
    rw [takeW, ← ht, List.take_take, Nat.min_eq_left (by omega)]
  have hd : (cellsL (l.drop i)).length = (n - i) * 3 := by rw [lenW, List.length_drop, hl]
  have hr : (Cel.cells r).length = 3 := rfl
  obtain ⟨D, hD⟩ : ∃ D, cellsL (l.drop i) = D := ⟨_, rfl⟩
  rw [hD] at hd
  have e2 : cellsL (l.take i ++ r :: l.drop i) = cellsL (l.take i) ++ ((Cel.cells r) ++ D) := by rw [cellsL_append, ← hD]; rfl
  rw [e2, ← e1, hD]
  unfold splice
  apply List.ext_getElem?
  intro k
  simp only [List.getElem?_take, List.getElem?_append, List.getElem?_drop, List.length_take, List.length_append, List.length_drop, hd, hr, hs]
  repeat' split
  all_goals first
    | rfl
    | omega
    | (congr 1; omega)
    | (symm; apply List.getElem?_eq_none; omega)

set_option maxRecDepth 100000 in
set_option maxHeartbeats 2000000 in
theorem insert_shiftW (B g c n i vb : Nat) (cur : List Value) (l : List WaitD) (r : WaitD) (w : World) (hi : i < n) (hroom : n + 1 ≤ c) (hn : n ≤ 1000000) (hc : c ≤ maxLen) (hB : B ≤ g) (hg : RowV 47 w g cur) (hs : cur.length = c * 3) (ht : cur.take (n * 3) = cellsL l) (hl : l.length = n)
    (hv : RowV 47 w vb (Cel.cells r)) (hne : vb ≠ g) :
    Calls Tryz.prog 115 #[.slice (some ⟨g, 0, none⟩) n c, .int .i64 i, .slice (some ⟨vb, 0, none⟩) 1 1] w (fun e w' => e = .returned (.slice (some ⟨g, 0, none⟩) (n + 1) c) ∧ OwnS 47 w' B (.slice (some ⟨g, 0, none⟩) (n + 1) c) (l.take i ++ r :: l.drop i) ∧ w.grownBy w' (some g)) := by
  unfold maxLen at hc
  have hov : ∀ lb cb, (callFunc 149 #[.slice (some ⟨vb, 0, none⟩) 1 1, .slice (some ⟨g, (i + 1) * 3, none⟩) lb cb]).run Tryz.prog w = .ok (.value (.bool false)) w := fun lb cb => by
    rw [run_callFunc_extern Tryz.func149 (by kernel_rfl) (by kernel_rfl) (by kernel_rfl) (e := Extern.SlicesOverlaps.overlaps #[41, 41] #[4]) (by kernel_rfl),
      Lib.run_overlaps_apart w 41 4 47 Tryz.underlying41 3 Tryz.sizeOf47 ⟨vb, 0, none⟩ ⟨g, (i + 1) * 3, none⟩ 1 1 lb cb hne 47 47 3 (c * 3) (by unfold RowV at hv; simp [World.shape?, hv]; exact Cel.len r) (by unfold RowV at hg; simp [World.shape?, hg, hs]) (by omega) (hv.free 0) (hv.free 3)]
    rfl
  have hin : i ≤ n := by omega
  have hz2 : ¬ ((i : Int) = (n : Int)) := by omega
  have hb0 : ¬ ((c : Int) < (n : Int) + 1) := by omega
  have hb1 : ¬ (c = i) := by omega
  have hb2 : ¬ (c = i + 1) := by omega
  go_enter Tryz.func115, Tryz.ntmps115
  go_wp2_with (simp only [hov])
  have k0 : IntKind.i64.wrap ((i : Int) + 1) = (i : Int) + 1 := IntWalk.i64_in _ (by omega)
  have k1 : (0 : Int) ≤ (i : Int) + 1 := by omega
  have k2 : ((i : Int) + 1).toNat = i + 1 := by omega
  have k3 : (i : Int) + 1 ≤ (n : Int) + 1 := by omega
  have k4 : (i : Int) ≤ (n : Int) + 1 := by omega
  have k5 : i ≤ n + 1 := by omega
  go_still_tail 8, (by kernel_rfl)
  change wpList _ _ _ _ _ (World.drew w)
  clear k0 k1 k2 k3 k4 k5
  have hD : (cellsL (l.drop i)).length = (n - i) * 3 := by rw [lenW, List.length_drop, hl]
  have hcp : ∀ j v, (cellsL (l.drop i))[j]? = some v → cur[i * 3 + j]? = some v := fun j v hj => by
    rw [dropW l i (by omega), List.getElem?_drop, ← ht, List.getElem?_take] at hj
    split at hj
    · exact hj
    · cases hj
  have hfin := Lib.hid (ins_shiftW (r := r) hl hin hs hroom ht)
  obtain ⟨D, hDD⟩ : ∃ D, cellsL (l.drop i) = D := ⟨_, rfl⟩
  have h1D : ∀ v ∈ D, v.oneCell' = true := by rw [← hDD]; exact cellsL_one _
  rw [hDD] at hD hcp hfin
  have hDD' := Lib.hid hDD
  have hD' := Lib.hid hD
  have hcp' := Lib.hid hcp
  have h1D' := Lib.hid h1D
  have hht := Lib.hid ht
  have hss := Lib.hid hs
  have hll := Lib.hid hl
  have hgg := Lib.hid hg
  have hvv := Lib.hid hv
  clear hDD hD hcp h1D ht hs hl hg hv hov
  have n1 : Hid (D.length = Nat.min (n + 1 - i) (n - i) * 3) := by
    show D.length = _
    rw [hD'.out, show Nat.min (n + 1 - i) (n - i) = n - i by simp only [Nat.min_def]; split <;> omega]
  have hg1 : Hid (RowV 47 w.drew g cur) := hgg.out.block (w' := w.drew) rfl
  have p1 : Hid (0 < D.length → (some ⟨g, (i + 1) * 3, none⟩ : Option Addr) = some ⟨g, (i + 1) * 3, none⟩ ∧ ∃ ad, (some ⟨g, i * 3, none⟩ : Option Addr) = some ad ∧ ∀ j v, D[j]? = some v → w.drew.cell? (ad.add j) = some v) := fun _ => ⟨rfl, _, rfl, hg1.out.src hcp'.out⟩
  have f1 : Hid ((i + 1) * 3 + D.length ≤ cur.length) := by show _ ≤ _; rw [hD'.out, hss.out]; omega
  have q1 := Lib.hid (length_splice cur ((i + 1) * 3) D f1.out)
  have hr4 : Hid ((Cel.cells r).length = Nat.min 1 (n + 1 - i) * 3) := by
    show (Cel.cells r).length = _
    rw [show Nat.min 1 (n + 1 - i) = 1 by simp only [Nat.min_def]; split <;> omega]
    rfl
  have f2 : Hid (i * 3 + (Cel.cells r).length ≤ (splice cur ((i + 1) * 3) D).length) := by show _ ≤ _; rw [q1.out, hss.out]; show i * 3 + 3 ≤ _; omega
  go_wp2_with (first
    | ((with_reducible refine wpList_copy_rk Tryz.underlying41 infoWait rfl (.tmp 73) (.tmp 76) rfl rfl rfl hg1.out n1.out (by decide) p1.out f1.out h1D'.out ?_)
       intro w2 hg2 hgr2
       have hg3 := Lib.hid hg2
       have hgr3 := Lib.hid hgr2
       have hv3 := Lib.hid ((hvv.out.block (w' := w.drew) rfl).kept hgr2 hne)
       have p2 : Hid (0 < (Cel.cells r).length → (some ⟨g, i * 3, none⟩ : Option Addr) = some ⟨g, i * 3, none⟩ ∧ ∃ ad, (some ⟨vb, 0, none⟩ : Option Addr) = some ad ∧ ∀ j v, (Cel.cells r)[j]? = some v → w2.cell? (ad.add j) = some v) := fun _ => ⟨rfl, _, rfl, hv3.out.src (fun j v hj => by rw [Nat.zero_add]; exact hj)⟩
       clear hg2 hgr2)
    | ((with_reducible refine wpList_copy_rk Tryz.underlying41 infoWait rfl (.tmp 80) (.tmp 81) rfl rfl rfl hg3.out hr4.out (by decide) p2.out f2.out (Cel.one r) ?_)
       intro w4 hg4' hgr4'
       have hg4 := Lib.hid hg4'
       have hgr4 := Lib.hid hgr4'
       clear hg4' hgr4'))
  go_ret
  have hlen := length_splice (splice cur ((i + 1) * 3) D) (i * 3) (Cel.cells r) f2.out
  refine ⟨rfl, mkW hB hg4.out hroom (by unfold maxLen; exact hc) (by rw [hlen, q1.out, hss.out]) hfin.out (by simp [hll.out]; omega), ?_⟩
  exact grown_trans (below_grown (below_drew' w) _) (grown_trans hgr3.out hgr4.out)
theorem ins_growW {cs : List Value} {l : List WaitD} {r : WaitD} {n i c : Nat} (hl : l.length = n) (hi : i ≤ n) (hs : (cellsL (l.take i) ++ cs).length = c * 3) (hc : n + 1 ≤ c) :
    (splice (splice (cellsL (l.take i) ++ cs) (i * 3) (Cel.cells r)) ((i + 1) * 3) (cellsL (l.drop i))).take ((n + 1) * 3) = cellsL (l.take i ++ r :: l.drop i) := by
  have ht : (cellsL (l.take i)).length = i * 3 := by rw [lenW, List.length_take, hl, Nat.min_eq_left hi]
  have hd : (cellsL (l.drop i)).length = (n - i) * 3 := by rw [lenW, List.length_drop, hl]
  have hr : (Cel.cells r).length = 3 := rfl
  have e2 : cellsL (l.take i ++ r :: l.drop i) = cellsL (l.take i) ++ ((Cel.cells r) ++ cellsL (l.drop i)) := by rw [cellsL_append]; rfl
  rw [e2]
  obtain ⟨D, hD⟩ : ∃ D, cellsL (l.drop i) = D := ⟨_, rfl⟩
  obtain ⟨A, hA⟩ : ∃ A, cellsL (l.take i) = A := ⟨_, rfl⟩
  rw [hD] at hd ⊢
  rw [hA] at ht hs ⊢
  rw [List.length_append] at hs
  unfold splice
  apply List.ext_getElem?
  intro k
  simp only [List.getElem?_take, List.getElem?_append, List.getElem?_drop, List.length_take, List.length_append, List.length_drop, hd, hr, ht]
  repeat' split
  all_goals first
    | rfl
    | omega
    | (congr 1; omega)
    | (symm; apply List.getElem?_eq_none; omega)

set_option maxRecDepth 100000 in
set_option maxHeartbeats 2000000 in
theorem insert_growW (B g c n i vb : Nat) (cur : List Value) (l : List WaitD) (r : WaitD) (w : World) (hi : i < n) (hnc : n ≤ c) (hroom : c < n + 1) (hn : n ≤ 1000000) (hB : B ≤ w.heap.size) (hg : RowV 47 w g cur) (ht : cur.take (n * 3) = cellsL l) (hl : l.length = n)
    (hv : RowV 47 w vb (Cel.cells r)) :
    Calls Tryz.prog 115 #[.slice (some ⟨g, 0, none⟩) n c, .int .i64 i, .slice (some ⟨vb, 0, none⟩) 1 1] w (fun e w' => ∃ q' c', e = .returned (.slice q' (n + 1) c') ∧ OwnS 47 w' B (.slice q' (n + 1) c') (l.take i ++ r :: l.drop i) ∧ Below w.heap.size w w') := by
  have hin : i ≤ n := by omega
  have hz2 : ¬ ((i : Int) = (n : Int)) := by omega
  have hb0 : (c : Int) < (n : Int) + 1 := by omega
  have hb1 : ¬ (c = i) := by omega
  have hglt := hg.lt
  have hvlt := hv.lt
  obtain ⟨k, hk⟩ : ∃ k : Nat, (n : Int) + 1 - (i : Int) = k := ⟨n + 1 - i, by omega⟩
  have hk1 : 0 < k := by omega
  have hk2 : i + k = n + 1 := by omega
  have htl : (cellsL (l.take i)).length = i * 3 := by rw [lenW, List.length_take, hl, Nat.min_eq_left hin]
  have hD : (cellsL (l.drop i)).length = (n - i) * 3 := by rw [lenW, List.length_drop, hl]
  have hcT : ∀ j v, (cellsL (l.take i))[j]? = some v → cur[0 + j]? = some v := fun j v hj => by
    rw [takeW l i, ← ht, List.getElem?_take, List.getElem?_take] at hj
    rw [Nat.zero_add]
    split at hj
    · split at hj
      · exact hj
      · cases hj
    · cases hj
  have hcp : ∀ j v, (cellsL (l.drop i))[j]? = some v → cur[i * 3 + j]? = some v := fun j v hj => by
    rw [dropW l i (by omega), List.getElem?_drop, ← ht, List.getElem?_take] at hj
    split at hj
    · exact hj
    · cases hj
  have hfin := Lib.hid (fun cs c (hs : (cellsL (l.take i) ++ cs).length = c * 3) (hc : n + 1 ≤ c) => ins_growW (r := r) (cs := cs) hl hin hs hc)
  have hlf : Hid ((l.take i ++ r :: l.drop i).length = n + 1) := by show _ = _; simp [hl]; omega
  obtain ⟨D, hDD⟩ : ∃ D, cellsL (l.drop i) = D := ⟨_, rfl⟩
  obtain ⟨A, hAA⟩ : ∃ A, cellsL (l.take i) = A := ⟨_, rfl⟩
  obtain ⟨F, hFF⟩ : ∃ F, l.take i ++ r :: l.drop i = F := ⟨_, rfl⟩
  have h1D : ∀ v ∈ D, v.oneCell' = true := by rw [← hDD]; exact cellsL_one _
  rw [hDD] at hD hcp hfin
  rw [hAA] at htl hcT hfin
  rw [hFF] at hfin hlf ⊢
  have hD' := Lib.hid hD
  have htl' := Lib.hid htl
  have hcp' := Lib.hid hcp
  have h1D' := Lib.hid h1D
  have ho1 : Hid (∃ ad, (some ⟨g, 0, none⟩ : Option Addr) = some ad ∧ ∀ j v, A[j]? = some v → w.cell? (ad.add j) = some v) := ⟨_, rfl, hg.src hcT⟩
  have hgg := Lib.hid hg
  have hvv := Lib.hid hv
  have h40 : Hid ((i + k) * 24 ≤ 140737488355328) := by show _ ≤ _; omega
  have h41 : Hid (i + k ≤ 140737488355328) := by show _ ≤ _; omega
  have hr0 : Hid (c < i + k) := by show _ < _; omega
  have htn : Tryz.prog.underlying 3 = some (.int .i64) := Tryz.underlying3
  have n1 : Hid ((Cel.cells r).length = Nat.min 1 (n + 1 - i) * 3) := by
    show (Cel.cells r).length = _
    rw [show Nat.min 1 (n + 1 - i) = 1 by simp only [Nat.min_def]; split <;> omega]
    rfl
  have n2 : Hid (D.length = Nat.min (n - i) (n - i) * 3) := by
    show D.length = _
    rw [hD'.out, show Nat.min (n - i) (n - i) = n - i by simp only [Nat.min_def]; split <;> omega]
  clear hDD hAA hFF hD hcp h1D htl hcT ht hl hg hv
  go_enter Tryz.func115, Tryz.ntmps115
  go_wp2_with (first
    | (at_builtin
       refine wpList_append_z Tryz.underlying41 htn infoWait rfl (by decide) rfl (.tmp 34) (.tmp 39) rfl rfl rfl (olds := A) (k := k) htl'.out ho1.out hk1 hr0.out h40.out h41.out ?_
       intro c' w1 hc1 hc2 hrow hb hlt
       rw [hk2] at hc1 ⊢
       have hq1 : ¬ (c' = i) := by omega
       have hq2 : ¬ (c' = i + 1) := by omega
       have hc3 := Lib.hid hc1
       have hc4 := Lib.hid hc2
       have hb3 := Lib.hid hb
       have hrow' := Lib.hid hrow
       clear hc1 hc2 hb hrow
       obtain ⟨cs, hrw, hsz⟩ := hrow'.out
       have hsz' := Lib.hid hsz
       have hfin' := Lib.hid (hfin.out cs c' hsz hc3.out)
       obtain ⟨R, hR⟩ : ∃ R, A ++ cs = R := ⟨_, rfl⟩
       rw [hR] at hrw hsz' hfin'
       have hg1 := Lib.hid hrw
       have hv1 := Lib.hid (hvv.out.below hb3.out)
       have hg0 := Lib.hid (hgg.out.below hb3.out)
       have f1 : Hid (i * 3 + (Cel.cells r).length ≤ R.length) := by show _ ≤ _; rw [hsz'.out]; show i * 3 + 3 ≤ _; have := hc3.out; omega
       have q1 := Lib.hid (length_splice R (i * 3) (Cel.cells r) f1.out)
       have p1 : Hid (0 < (Cel.cells r).length → (some ⟨w.heap.size, i * 3, none⟩ : Option Addr) = some ⟨w.heap.size, i * 3, none⟩ ∧ ∃ ad, (some ⟨vb, 0, none⟩ : Option Addr) = some ad ∧ ∀ j v, (Cel.cells r)[j]? = some v → w1.cell? (ad.add j) = some v) := fun _ => ⟨rfl, _, rfl, hv1.out.src (fun j v hj => by rw [Nat.zero_add]; exact hj)⟩
       clear hrw hsz hR hrow')
    | ((with_reducible refine wpList_copy_rk Tryz.underlying41 infoWait rfl (.tmp 43) (.tmp 44) rfl rfl rfl hg1.out n1.out (by decide) p1.out f1.out (Cel.one r) ?_)
       intro w2 hg2 hgr2
       have hg3 := Lib.hid hg2
       have hgr3 := Lib.hid hgr2
       have hg4 := Lib.hid (hg0.out.kept hgr2 (by omega))
       clear hg2 hgr2))
  have k0 : IntKind.i64.wrap ((i : Int) + 1) = (i : Int) + 1 := IntWalk.i64_in _ (by omega)
  have k1 : (0 : Int) ≤ (i : Int) + 1 := by omega
  have k2 : ((i : Int) + 1).toNat = i + 1 := by omega
  have k3 : (i : Int) + 1 ≤ (n : Int) + 1 := by omega
  go_still_tail 8, (by kernel_rfl)
  change wpList _ _ _ _ _ (World.drew w2)
  clear k0 k1 k2 k3
  have hg5 : Hid (RowV 47 w2.drew w.heap.size (splice R (i * 3) (Cel.cells r))) := hg3.out.block (w' := w2.drew) rfl
  have p2 : Hid (0 < D.length → (some ⟨w.heap.size, (i + 1) * 3, none⟩ : Option Addr) = some ⟨w.heap.size, (i + 1) * 3, none⟩ ∧ ∃ ad, (some ⟨g, i * 3, none⟩ : Option Addr) = some ad ∧ ∀ j v, D[j]? = some v → w2.drew.cell? (ad.add j) = some v) := fun _ => ⟨rfl, _, rfl, (hg4.out.block (w' := w2.drew) rfl).src hcp'.out⟩
  have f2 : Hid ((i + 1) * 3 + D.length ≤ (splice R (i * 3) (Cel.cells r)).length) := by show _ ≤ _; rw [q1.out, hsz'.out, hD'.out]; have := hc3.out; omega
  go_wp2_with (first
    | ((with_reducible refine wpList_copy_rk Tryz.underlying41 infoWait rfl (.tmp 50) (.tmp 53) rfl rfl rfl hg5.out n2.out (by decide) p2.out f2.out h1D'.out ?_)
       intro w4 hg6' hgr6'
       have hg6 := Lib.hid hg6'
       have hgr6 := Lib.hid hgr6'
       clear hg6' hgr6'))
  go_ret
  have hlen := length_splice (splice R (i * 3) (Cel.cells r)) ((i + 1) * 3) D f2.out
  refine ⟨_, _, rfl, mkW hB hg6.out hc3.out hc4.out (by rw [hlen, q1.out, hsz'.out]) hfin'.out hlf.out, ?_⟩
  have hx : w1.grownBy w4 (some w.heap.size) := grown_trans hgr3.out (grown_trans (below_grown (below_drew' w2) _) hgr6.out)
  exact hb3.out.grown hx hb3.out.size (fun k e => by cases e; exact Nat.le_refl _)

end Go.Proofs.YtbgpppbcffpdbaaGreatDoor

/-! slices.Insert of one thing of kind QV into a list of the call's own. -/
namespace Go.Proofs.YtbgpppbcffpdbaaGreatDoor
open Go.RowKit

theorem lenQ (l : List QV) : (cellsL l).length = l.length * 5 := cellsL_len l
theorem takeQ (l : List QV) (i : Nat) : cellsL (l.take i) = (cellsL l).take (i * 5) := cellsL_take l i
theorem dropQ (l : List QV) (i : Nat) (hi : i ≤ l.length) : cellsL (l.drop i) = (cellsL l).drop (i * 5) := cellsL_drop l i hi
theorem mkQ {T : TypeId} {w : World} {B g n c : Nat} {cur : List Value} {l : List QV} (hB : B ≤ g) (hr : RowV T w g cur) (hn : n ≤ c) (hc : c ≤ maxLen) (hs : cur.length = c * 5) (ht : cur.take (n * 5) = cellsL l) (hl : l.length = n) : OwnS T w B (.slice (some ⟨g, 0, none⟩) n c) l := OwnS.mk hB hr hn hc hs ht hl
theorem openedQ {T : TypeId} {w : World} {B : Nat} {a : Addr} {n c : Nat} {l : List QV} (h : OwnS T w B (.slice (some a) n c) l) : ∃ g cur, a = ⟨g, 0, none⟩ ∧ B ≤ g ∧ RowV T w g cur ∧ n ≤ c ∧ c ≤ maxLen ∧ cur.length = c * 5 ∧ cur.take (n * 5) = cellsL l := h.opened

/-- a place more ahead of i: first what stands from i on, then the row -/
theorem ins_shiftQ {cur : List Value} {l : List QV} {r : QV} {n i c : Nat} (hl : l.length = n) (hi : i ≤ n) (hs : cur.length = c * 5) (hc : n + 1 ≤ c) (ht : cur.take (n * 5) = cellsL l) :
    (splice (splice cur ((i + 1) * 5) (cellsL (l.drop i))) (i * 5) (Cel.cells r)).take ((n + 1) * 5) = cellsL (l.take i ++ r :: l.drop i) := by
  have e1 : cur.take (i * 5) = cellsL (l.take i) := by
    rw [takeQ, ← ht, List.take_take, Nat.min_eq_left (by omega)]
  have hd : (cellsL (l.drop i)).length = (n - i) * 5 := by rw [lenQ, List.length_drop, hl]
  have hr : (Cel.cells r).length = 5 := rfl
  obtain ⟨D, hD⟩ : ∃ D, cellsL (l.drop i) = D := ⟨_, rfl⟩
  rw [hD] at hd
  have e2 : cellsL (l.take i ++ r :: l.drop i) = cellsL (l.take i) ++ ((Cel.cells r) ++ D) := by rw [cellsL_append, ← hD]; rfl
  rw [e2, ← e1, hD]
  unfold splice
  apply List.ext_getElem?
  intro k
  simp only [List.getElem?_take, List.getElem?_append, List.getElem?_drop, List.length_take, List.length_append, List.length_drop, hd, hr, hs]
  repeat' split
  all_goals first
    | rfl
    | omega
    | (congr 1; omega)
    | (symm; apply List.getElem?_eq_none; omega)

set_option maxRecDepth 100000 in
set_option maxHeartbeats 2000000 in
theorem insert_shiftQ (B g c n i vb : Nat) (cur : List Value) (l : List QV) (r : QV) (w : World) (hi : i < n) (hroom : n + 1 ≤ c) (hn : n ≤ 1000000) (hc : c ≤ maxLen) (hB : B ≤ g) (hg : RowV 43 w g cur) (hs : cur.length = c * 5) (ht : cur.take (n * 5) = cellsL l) (hl : l.length = n)
    (hv : RowV 43 w vb (Cel.cells r)) (hne : vb ≠ g) :
    Calls Tryz.prog 113 #[.slice (some ⟨g, 0, none⟩) n c, .int .i64 i, .slice (some ⟨vb, 0, none⟩) 1 1] w (fun e w' => e = .returned (.slice (some ⟨g, 0, none⟩) (n + 1) c) ∧ OwnS 43 w' B (.slice (some ⟨g, 0, none⟩) (n + 1) c) (l.take i ++ r :: l.drop i) ∧ w.grownBy w' (some g)) := by
  unfold maxLen at hc
  have hov : ∀ lb cb, (callFunc 145 #[.slice (some ⟨vb, 0, none⟩) 1 1, .slice (some ⟨g, (i + 1) * 5, none⟩) lb cb]).run Tryz.prog w = .ok (.value (.bool false)) w := fun lb cb => by
    rw [run_callFunc_extern Tryz.func145 (by kernel_rfl) (by kernel_rfl) (by kernel_rfl) (e := Extern.SlicesOverlaps.overlaps #[22, 22] #[4]) (by kernel_rfl),
      Lib.run_overlaps_apart w 22 4 43 Tryz.underlying22 5 Tryz.sizeOf43 ⟨vb, 0, none⟩ ⟨g, (i + 1) * 5, none⟩ 1 1 lb cb hne 43 43 5 (c * 5) (by unfold RowV at hv; simp [World.shape?, hv]; exact Cel.len r) (by unfold RowV at hg; simp [World.shape?, hg, hs]) (by omega) (hv.free 0) (hv.free 5)]
    rfl
  have hin : i ≤ n := by omega
  have hz2 : ¬ ((i : Int) = (n : Int)) := by omega
  have hb0 : ¬ ((c : Int) < (n : Int) + 1) := by omega
  have hb1 : ¬ (c = i) := by omega
  have hb2 : ¬ (c = i + 1) := by omega
  go_enter Tryz.func113, Tryz.ntmps113
  go_wp2_with (simp only [hov])
  have k0 : IntKind.i64.wrap ((i : Int) + 1) = (i : Int) + 1 := IntWalk.i64_in _ (by omega)
  have k1 : (0 : Int) ≤ (i : Int) + 1 := by omega
  have k2 : ((i : Int) + 1).toNat = i + 1 := by omega
  have k3 : (i : Int) + 1 ≤ (n : Int) + 1 := by omega
  have k4 : (i : Int) ≤ (n : Int) + 1 := by omega
  have k5 : i ≤ n + 1 := by omega
  go_still_tail 8, (by kernel_rfl)
  change wpList _ _ _ _ _ (World.drew w)
  clear k0 k1 k2 k3 k4 k5
  have hD : (cellsL (l.drop i)).length = (n - i) * 5 := by rw [lenQ, List.length_drop, hl]
  have hcp : ∀ j v, (cellsL (l.drop i))[j]? = some v → cur[i * 5 + j]? = some v := fun j v hj => by
    rw [dropQ l i (by omega), List.getElem?_drop, ← ht, List.getElem?_take] at hj
    split at hj
    · exact hj
    · cases hj
  have hfin := Lib.hid (ins_shiftQ (r := r) hl hin hs hroom ht)
  obtain ⟨D, hDD⟩ : ∃ D, cellsL (l.drop i) = D := ⟨_, rfl⟩
  have h1D : ∀ v ∈ D, v.oneCell' = true := by rw [← hDD]; exact cellsL_one _
  rw [hDD] at hD hcp hfin
  have hDD' := Lib.hid hDD
  have hD' := Lib.hid hD
  have hcp' := Lib.hid hcp
  have h1D' := Lib.hid h1D
  have hht := Lib.hid ht
  have hss := Lib.hid hs
  have hll := Lib.hid hl
  have hgg := Lib.hid hg
  have hvv := Lib.hid hv
  clear hDD hD hcp h1D ht hs hl hg hv hov
  have n1 : Hid (D.length = Nat.min (n + 1 - i) (n - i) * 5) := by
    show D.length = _
    rw [hD'.out, show Nat.min (n + 1 - i) (n - i) = n - i by simp only [Nat.min_def]; split <;> omega]
  have hg1 : Hid (RowV 43 w.drew g cur) := hgg.out.block (w' := w.drew) rfl
  have p1 : Hid (0 < D.length → (some ⟨g, (i + 1) * 5, none⟩ : Option Addr) = some ⟨g, (i + 1) * 5, none⟩ ∧ ∃ ad, (some ⟨g, i * 5, none⟩ : Option Addr) = some ad ∧ ∀ j v, D[j]? = some v → w.drew.cell? (ad.add j) = some v) := fun _ => ⟨rfl, _, rfl, hg1.out.src hcp'.out⟩
  have f1 : Hid ((i + 1) * 5 + D.length ≤ cur.length) := by show _ ≤ _; rw [hD'.out, hss.out]; omega
  have q1 := Lib.hid (length_splice cur ((i + 1) * 5) D f1.out)
  have hr4 : Hid ((Cel.cells r).length = Nat.min 1 (n + 1 - i) * 5) := by
    show (Cel.cells r).length = _
    rw [show Nat.min 1 (n + 1 - i) = 1 by simp only [Nat.min_def]; split <;> omega]
    rfl
  have f2 : Hid (i * 5 + (Cel.cells r).length ≤ (splice cur ((i + 1) * 5) D).length) := by show _ ≤ _; rw [q1.out, hss.out]; show i * 5 + 5 ≤ _; omega
  go_wp2_with (first
    | ((with_reducible refine wpList_copy_rk Tryz.underlying22 infoQue rfl (.tmp 73) (.tmp 76) rfl rfl rfl hg1.out n1.out (by decide) p1.out f1.out h1D'.out ?_)
       intro w2 hg2 hgr2
       have hg3 := Lib.hid hg2
       have hgr3 := Lib.hid hgr2
       have hv3 := Lib.hid ((hvv.out.block (w' := w.drew) rfl).kept hgr2 hne)
       have p2 : Hid (0 < (Cel.cells r).length → (some ⟨g, i * 5, none⟩ : Option Addr) = some ⟨g, i * 5, none⟩ ∧ ∃ ad, (some ⟨vb, 0, none⟩ : Option Addr) = some ad ∧ ∀ j v, (Cel.cells r)[j]? = some v → w2.cell? (ad.add j) = some v) := fun _ => ⟨rfl, _, rfl, hv3.out.src (fun j v hj => by rw [Nat.zero_add]; exact hj)⟩
       clear hg2 hgr2)
    | ((with_reducible refine wpList_copy_rk Tryz.underlying22 infoQue rfl (.tmp 80) (.tmp 81) rfl rfl rfl hg3.out hr4.out (by decide) p2.out f2.out (Cel.one r) ?_)
       intro w4 hg4' hgr4'
       have hg4 := Lib.hid hg4'
       have hgr4 := Lib.hid hgr4'
       clear hg4' hgr4'))
  go_ret
  have hlen := length_splice (splice cur ((i + 1) * 5) D) (i * 5) (Cel.cells r) f2.out
  refine ⟨rfl, mkQ hB hg4.out hroom (by unfold maxLen; exact hc) (by rw [hlen, q1.out, hss.out]) hfin.out (by simp [hll.out]; omega), ?_⟩
  exact grown_trans (below_grown (below_drew' w) _) (grown_trans hgr3.out hgr4.out)
theorem ins_growQ {cs : List Value} {l : List QV} {r : QV} {n i c : Nat} (hl : l.length = n) (hi : i ≤ n) (hs : (cellsL (l.take i) ++ cs).length = c * 5) (hc : n + 1 ≤ c) :
    (splice (splice (cellsL (l.take i) ++ cs) (i * 5) (Cel.cells r)) ((i + 1) * 5) (cellsL (l.drop i))).take ((n + 1) * 5) = cellsL (l.take i ++ r :: l.drop i) := by
  have ht : (cellsL (l.take i)).length = i * 5 := by rw [lenQ, List.length_take, hl, Nat.min_eq_left hi]
  have hd : (cellsL (l.drop i)).length = (n - i) * 5 := by rw [lenQ, List.length_drop, hl]
  have hr : (Cel.cells r).length = 5 := rfl
  have e2 : cellsL (l.take i ++ r :: l.drop i) = cellsL (l.take i) ++ ((Cel.cells r) ++ cellsL (l.drop i)) := by rw [cellsL_append]; rfl
  rw [e2]
  obtain ⟨D, hD⟩ : ∃ D, cellsL (l.drop i) = D := ⟨_, rfl⟩
  obtain ⟨A, hA⟩ : ∃ A, cellsL (l.take i) = A := ⟨_, rfl⟩
  rw [hD] at hd ⊢
  rw [hA] at ht hs ⊢
  rw [List.length_append] at hs
  unfold splice
  apply List.ext_getElem?
  intro k
  simp only [List.getElem?_take, List.getElem?_append, List.getElem?_drop, List.length_take, List.length_append, List.length_drop, hd, hr, ht]
  repeat' split
  all_goals first
    | rfl
    | omega
    | (congr 1; omega)
    | (symm; apply List.getElem?_eq_none; omega)

set_option maxRecDepth 100000 in
set_option maxHeartbeats 2000000 in
theorem insert_growQ (B g c n i vb : Nat) (cur : List Value) (l : List QV) (r : QV) (w : World) (hi : i < n) (hnc : n ≤ c) (hroom : c < n + 1) (hn : n ≤ 1000000) (hB : B ≤ w.heap.size) (hg : RowV 43 w g cur) (ht : cur.take (n * 5) = cellsL l) (hl : l.length = n)
    (hv : RowV 43 w vb (Cel.cells r)) :
    Calls Tryz.prog 113 #[.slice (some ⟨g, 0, none⟩) n c, .int .i64 i, .slice (some ⟨vb, 0, none⟩) 1 1] w (fun e w' => ∃ q' c', e = .returned (.slice q' (n + 1) c') ∧ OwnS 43 w' B (.slice q' (n + 1) c') (l.take i ++ r :: l.drop i) ∧ Below w.heap.size w w') := by
  have hin : i ≤ n := by omega
  have hz2 : ¬ ((i : Int) = (n : Int)) := by omega
  have hb0 : (c : Int) < (n : Int) + 1 := by omega
  have hb1 : ¬ (c = i) := by omega
  have hglt := hg.lt
  have hvlt := hv.lt
  obtain ⟨k, hk⟩ : ∃ k : Nat, (n : Int) + 1 - (i : Int) = k := ⟨n + 1 - i, by omega⟩
  have hk1 : 0 < k := by omega
  have hk2 : i + k = n + 1 := by omega
  have htl : (cellsL (l.take i)).length = i * 5 := by rw [lenQ, List.length_take, hl, Nat.min_eq_left hin]
  have hD : (cellsL (l.drop i)).length = (n - i) * 5 := by rw [lenQ, List.length_drop, hl]
  have hcT : ∀ j v, (cellsL (l.take i))[j]? = some v → cur[0 + j]? = some v := fun j v hj => by
    rw [takeQ l i, ← ht, List.getElem?_take, List.getElem?_take] at hj
    rw [Nat.zero_add]
    split at hj
    · split at hj
      · exact hj
      · cases hj
    · cases hj
  have hcp : ∀ j v, (cellsL (l.drop i))[j]? = some v → cur[i * 5 + j]? = some v := fun j v hj => by
    rw [dropQ l i (by omega), List.getElem?_drop, ← ht, List.getElem?_take] at hj
    split at hj
    · exact hj
    · cases hj
  have hfin := Lib.hid (fun cs c (hs : (cellsL (l.take i) ++ cs).length = c * 5) (hc : n + 1 ≤ c) => ins_growQ (r := r) (cs := cs) hl hin hs hc)
  have hlf : Hid ((l.take i ++ r :: l.drop i).length = n + 1) := by show _ = _; simp [hl]; omega
  obtain ⟨D, hDD⟩ : ∃ D, cellsL (l.drop i) = D := ⟨_, rfl⟩
  obtain ⟨A, hAA⟩ : ∃ A, cellsL (l.take i) = A := ⟨_, rfl⟩
  obtain ⟨F, hFF⟩ : ∃ F, l.take i ++ r :: l.drop i = F := ⟨_, rfl⟩
  have h1D : ∀ v ∈ D, v.oneCell' = true := by rw [← hDD]; exact cellsL_one _
  rw [hDD] at hD hcp hfin
  rw [hAA] at htl hcT hfin
  rw [hFF] at hfin hlf ⊢
  have hD' := Lib.hid hD
  have htl' := Lib.hid htl
  have hcp' := Lib.hid hcp
  have h1D' := Lib.hid h1D
  have ho1 : Hid (∃ ad, (some ⟨g, 0, none⟩ : Option Addr) = some ad ∧ ∀ j v, A[j]? = some v → w.cell? (ad.add j) = some v) := ⟨_, rfl, hg.src hcT⟩
  have hgg := Lib.hid hg
  have hvv := Lib.hid hv
  have h40 : Hid ((i + k) * 64 ≤ 140737488355328) := by show _ ≤ _; omega
  have h41 : Hid (i + k ≤ 140737488355328) := by show _ ≤ _; omega
  have hr0 : Hid (c < i + k) := by show _ < _; omega
  have htn : Tryz.prog.underlying 3 = some (.int .i64) := Tryz.underlying3
  have n1 : Hid ((Cel.cells r).length = Nat.min 1 (n + 1 - i) * 5) := by
    show (Cel.cells r).length = _
    rw [show Nat.min 1 (n + 1 - i) = 1 by simp only [Nat.min_def]; split <;> omega]
    rfl
  have n2 : Hid (D.length = Nat.min (n - i) (n - i) * 5) := by
    show D.length = _
    rw [hD'.out, show Nat.min (n - i) (n - i) = n - i by simp only [Nat.min_def]; split <;> omega]
  clear hDD hAA hFF hD hcp h1D htl hcT ht hl hg hv
  go_enter Tryz.func113, Tryz.ntmps113
  go_wp2_with (first
    | (at_builtin
       refine wpList_append_z Tryz.underlying22 htn infoQue rfl (by decide) rfl (.tmp 34) (.tmp 39) rfl rfl rfl (olds := A) (k := k) htl'.out ho1.out hk1 hr0.out h40.out h41.out ?_
       intro c' w1 hc1 hc2 hrow hb hlt
       rw [hk2] at hc1 ⊢
       have hq1 : ¬ (c' = i) := by omega
       have hq2 : ¬ (c' = i + 1) := by omega
       have hc3 := Lib.hid hc1
       have hc4 := Lib.hid hc2
       have hb3 := Lib.hid hb
       have hrow' := Lib.hid hrow
       clear hc1 hc2 hb hrow
       obtain ⟨cs, hrw, hsz⟩ := hrow'.out
       have hsz' := Lib.hid hsz
       have hfin' := Lib.hid (hfin.out cs c' hsz hc3.out)
       obtain ⟨R, hR⟩ : ∃ R, A ++ cs = R := ⟨_, rfl⟩
       rw [hR] at hrw hsz' hfin'
       have hg1 := Lib.hid hrw
       have hv1 := Lib.hid (hvv.out.below hb3.out)
       have hg0 := Lib.hid (hgg.out.below hb3.out)
       have f1 : Hid (i * 5 + (Cel.cells r).length ≤ R.length) := by show _ ≤ _; rw [hsz'.out]; show i * 5 + 5 ≤ _; have := hc3.out; omega
       have q1 := Lib.hid (length_splice R (i * 5) (Cel.cells r) f1.out)
       have p1 : Hid (0 < (Cel.cells r).length → (some ⟨w.heap.size, i * 5, none⟩ : Option Addr) = some ⟨w.heap.size, i * 5, none⟩ ∧ ∃ ad, (some ⟨vb, 0, none⟩ : Option Addr) = some ad ∧ ∀ j v, (Cel.cells r)[j]? = some v → w1.cell? (ad.add j) = some v) := fun _ => ⟨rfl, _, rfl, hv1.out.src (fun j v hj => by rw [Nat.zero_add]; exact hj)⟩
       clear hrw hsz hR hrow')
    | ((with_reducible refine wpList_copy_rk Tryz.underlying22 infoQue rfl (.tmp 43) (.tmp 44) rfl rfl rfl hg1.out n1.out (by decide) p1.out f1.out (Cel.one r) ?_)
       intro w2 hg2 hgr2
       have hg3 := Lib.hid hg2
       have hgr3 := Lib.hid hgr2
       have hg4 := Lib.hid (hg0.out.kept hgr2 (by omega))
       clear hg2 hgr2))
  have k0 : IntKind.i64.wrap ((i : Int) + 1) = (i : Int) + 1 := IntWalk.i64_in _ (by omega)
  have k1 : (0 : Int) ≤ (i : Int) + 1 := by omega
  have k2 : ((i : Int) + 1).toNat = i + 1 := by omega
  have k3 : (i : Int) + 1 ≤ (n : Int) + 1 := by omega
  go_still_tail 8, (by kernel_rfl)
  change wpList _ _ _ _ _ (World.drew w2)
  clear k0 k1 k2 k3
  have hg5 : Hid (RowV 43 w2.drew w.heap.size (splice R (i * 5) (Cel.cells r))) := hg3.out.block (w' := w2.drew) rfl
  have p2 : Hid (0 < D.length → (some ⟨w.heap.size, (i + 1) * 5, none⟩ : Option Addr) = some ⟨w.heap.size, (i + 1) * 5, none⟩ ∧ ∃ ad, (some ⟨g, i * 5, none⟩ : Option Addr) = some ad ∧ ∀ j v, D[j]? = some v → w2.drew.cell? (ad.add j) = some v) := fun _ => ⟨rfl, _, rfl, (hg4.out.block (w' := w2.drew) rfl).src hcp'.out⟩
  have f2 : Hid ((i + 1) * 5 + D.length ≤ (splice R (i * 5) (Cel.cells r)).length) := by show _ ≤ _; rw [q1.out, hsz'.out, hD'.out]; have := hc3.out; omega
  go_wp2_with (first
    | ((with_reducible refine wpList_copy_rk Tryz.underlying22 infoQue rfl (.tmp 50) (.tmp 53) rfl rfl rfl hg5.out n2.out (by decide) p2.out f2.out h1D'.out ?_)
       intro w4 hg6' hgr6'
       have hg6 := Lib.hid hg6'
       have hgr6 := Lib.hid hgr6'
       clear hg6' hgr6'))
  go_ret
  have hlen := length_splice (splice R (i * 5) (Cel.cells r)) ((i + 1) * 5) D f2.out
  refine ⟨_, _, rfl, mkQ hB hg6.out hc3.out hc4.out (by rw [hlen, q1.out, hsz'.out]) hfin'.out hlf.out, ?_⟩
  have hx : w1.grownBy w4 (some w.heap.size) := grown_trans hgr3.out (grown_trans (below_grown (below_drew' w2) _) hgr6.out)
  exact hb3.out.grown hx hb3.out.size (fun k e => by cases e; exact Nat.le_refl _)

end Go.Proofs.YtbgpppbcffpdbaaGreatDoor

/-! slices.Clone of holders, of waiters and of queues: a list of the call's own. -/
namespace Go.Proofs.YtbgpppbcffpdbaaGreatDoor
open Go.RowKit

set_option maxRecDepth 100000 in
set_option maxHeartbeats 1000000 in
theorem cloneH (q : Option Addr) (n c : Nat) (l : List HoldD) (w : World) (h : SlOn w q n c l) (hsm : n ≤ 1000000) (hn0 : q = none → n = 0) :
    Calls Tryz.prog 109 #[.slice q n c] w (fun e w' => ∃ q' c', e = .returned (.slice q' n c') ∧ OwnS 45 w' w.heap.size (.slice q' n c') l ∧ Below w.heap.size w w' ∧ (∀ a, q' = some a → a.block = w.heap.size ∨ a.block = w.heap.size + 1)) := by
  cases q with
  | none =>
    obtain rfl := hn0 rfl
    have hc0 := h.nil rfl
    subst hc0
    have hl := h.len
    obtain rfl := List.eq_nil_of_length_eq_zero hl
    clear h
    have heq : ∀ u, (binOp .eql 40 (.slice none 0 0) (.slice none 0 0)).run Tryz.prog u = .ok (.bool true) u := fun u => Lib.run_eql_slice_nil u _ _ _ _ _ _ _ Tryz.underlying40
    go_enter Tryz.func109, Tryz.ntmps109
    go_wp2
    go_ret
    exact ⟨none, 0, rfl, OwnS.nil _ _ _, Below.refl _ _, fun a ha => by cases ha⟩
  | some ad =>
    obtain ⟨W, hW⟩ : ∃ W, w.alloc (.cells #[] 45) = W := ⟨_, rfl⟩
    have hb : Hid (Below w.heap.size w W) := by rw [← hW]; exact (Below.refl _ _).alloc (Nat.le_refl _) _
    have hsz : Hid (W.heap.size = w.heap.size + 1) := by rw [← hW]; show _ = _; simp
    have hon := Lib.hid (h.below hb.out (Nat.le_refl _))
    have ho : Hid (OwnS 45 W w.heap.size (.slice (some ⟨w.heap.size, 0, none⟩) 0 0) ([] : List HoldD)) := OwnS.empty hW rfl
    have heq : ∀ u, (binOp .eql 40 (.slice (some ad) n c) (.slice none 0 0)).run Tryz.prog u = .ok (.bool false) u := fun u => Lib.run_eql_slice_nil u _ _ _ _ _ _ _ Tryz.underlying40
    clear h
    go_enter Tryz.func109, Tryz.ntmps109
    go_wp2_with (first
      | (at_builtin
         refine wpList_append_l Tryz.underlying40 infoHold rfl rfl (.tmp 5) (.tmp 6) rfl rfl rfl ho.out hon.out (by omega) (by omega) (by have := hsz.out; omega) ?_
         intro q' c' w' h1 h2 h3
         rw [Nat.zero_add, List.nil_append] at h1
         have hh := Lib.hid h1
         have hg := Lib.hid h2
         have ha := Lib.hid h3
         clear h1 h2 h3))
    go_ret
    refine ⟨q', c', rfl, hh.out, hb.out.trans (grown_belowN hg.out hb.out.size (fun k e => by cases e; exact Nat.le_refl _)), fun a ha' => ?_⟩
    subst ha'
    rcases ha.out with h | h
    · left; simpa using h
    · right; have := hsz.out; simp at h; omega

set_option maxRecDepth 100000 in
set_option maxHeartbeats 1000000 in
theorem cloneW (q : Option Addr) (n c : Nat) (l : List WaitD) (w : World) (h : SlOn w q n c l) (hsm : n ≤ 1000000) (hn0 : q = none → n = 0) :
    Calls Tryz.prog 110 #[.slice q n c] w (fun e w' => ∃ q' c', e = .returned (.slice q' n c') ∧ OwnS 47 w' w.heap.size (.slice q' n c') l ∧ Below w.heap.size w w' ∧ (∀ a, q' = some a → a.block = w.heap.size ∨ a.block = w.heap.size + 1)) := by
  cases q with
  | none =>
    obtain rfl := hn0 rfl
    have hc0 := h.nil rfl
    subst hc0
    have hl := h.len
    obtain rfl := List.eq_nil_of_length_eq_zero hl
    clear h
    have heq : ∀ u, (binOp .eql 41 (.slice none 0 0) (.slice none 0 0)).run Tryz.prog u = .ok (.bool true) u := fun u => Lib.run_eql_slice_nil u _ _ _ _ _ _ _ Tryz.underlying41
    go_enter Tryz.func110, Tryz.ntmps110
    go_wp2
    go_ret
    exact ⟨none, 0, rfl, OwnS.nil _ _ _, Below.refl _ _, fun a ha => by cases ha⟩
  | some ad =>
    obtain ⟨W, hW⟩ : ∃ W, w.alloc (.cells #[] 47) = W := ⟨_, rfl⟩
    have hb : Hid (Below w.heap.size w W) := by rw [← hW]; exact (Below.refl _ _).alloc (Nat.le_refl _) _
    have hsz : Hid (W.heap.size = w.heap.size + 1) := by rw [← hW]; show _ = _; simp
    have hon := Lib.hid (h.below hb.out (Nat.le_refl _))
    have ho : Hid (OwnS 47 W w.heap.size (.slice (some ⟨w.heap.size, 0, none⟩) 0 0) ([] : List WaitD)) := OwnS.empty hW rfl
    have heq : ∀ u, (binOp .eql 41 (.slice (some ad) n c) (.slice none 0 0)).run Tryz.prog u = .ok (.bool false) u := fun u => Lib.run_eql_slice_nil u _ _ _ _ _ _ _ Tryz.underlying41
    clear h
    go_enter Tryz.func110, Tryz.ntmps110
    go_wp2_with (first
      | (at_builtin
         refine wpList_append_l Tryz.underlying41 infoWait rfl rfl (.tmp 5) (.tmp 6) rfl rfl rfl ho.out hon.out (by omega) (by omega) (by have := hsz.out; omega) ?_
         intro q' c' w' h1 h2 h3
         rw [Nat.zero_add, List.nil_append] at h1
         have hh := Lib.hid h1
         have hg := Lib.hid h2
         have ha := Lib.hid h3
         clear h1 h2 h3))
    go_ret
    refine ⟨q', c', rfl, hh.out, hb.out.trans (grown_belowN hg.out hb.out.size (fun k e => by cases e; exact Nat.le_refl _)), fun a ha' => ?_⟩
    subst ha'
    rcases ha.out with h | h
    · left; simpa using h
    · right; have := hsz.out; simp at h; omega

set_option maxRecDepth 100000 in
set_option maxHeartbeats 1000000 in
theorem cloneQ (q : Option Addr) (n c : Nat) (l : List QV) (w : World) (h : SlOn w q n c l) (hsm : n ≤ 1000000) (hn0 : q = none → n = 0) :
    Calls Tryz.prog 108 #[.slice q n c] w (fun e w' => ∃ q' c', e = .returned (.slice q' n c') ∧ OwnS 43 w' w.heap.size (.slice q' n c') l ∧ Below w.heap.size w w' ∧ (∀ a, q' = some a → a.block = w.heap.size ∨ a.block = w.heap.size + 1)) := by
  cases q with
  | none =>
    obtain rfl := hn0 rfl
    have hc0 := h.nil rfl
    subst hc0
    have hl := h.len
    obtain rfl := List.eq_nil_of_length_eq_zero hl
    clear h
    have heq : ∀ u, (binOp .eql 22 (.slice none 0 0) (.slice none 0 0)).run Tryz.prog u = .ok (.bool true) u := fun u => Lib.run_eql_slice_nil u _ _ _ _ _ _ _ Tryz.underlying22
    go_enter Tryz.func108, Tryz.ntmps108
    go_wp2
    go_ret
    exact ⟨none, 0, rfl, OwnS.nil _ _ _, Below.refl _ _, fun a ha => by cases ha⟩
  | some ad =>
    obtain ⟨W, hW⟩ : ∃ W, w.alloc (.cells #[] 43) = W := ⟨_, rfl⟩
    have hb : Hid (Below w.heap.size w W) := by rw [← hW]; exact (Below.refl _ _).alloc (Nat.le_refl _) _
    have hsz : Hid (W.heap.size = w.heap.size + 1) := by rw [← hW]; show _ = _; simp
    have hon := Lib.hid (h.below hb.out (Nat.le_refl _))
    have ho : Hid (OwnS 43 W w.heap.size (.slice (some ⟨w.heap.size, 0, none⟩) 0 0) ([] : List QV)) := OwnS.empty hW rfl
    have heq : ∀ u, (binOp .eql 22 (.slice (some ad) n c) (.slice none 0 0)).run Tryz.prog u = .ok (.bool false) u := fun u => Lib.run_eql_slice_nil u _ _ _ _ _ _ _ Tryz.underlying22
    clear h
    go_enter Tryz.func108, Tryz.ntmps108
    go_wp2_with (first
      | (at_builtin
         refine wpList_append_l Tryz.underlying22 infoQue rfl rfl (.tmp 5) (.tmp 6) rfl rfl rfl ho.out hon.out (by omega) (by omega) (by have := hsz.out; omega) ?_
         intro q' c' w' h1 h2 h3
         rw [Nat.zero_add, List.nil_append] at h1
         have hh := Lib.hid h1
         have hg := Lib.hid h2
         have ha := Lib.hid h3
         clear h1 h2 h3))
    go_ret
    refine ⟨q', c', rfl, hh.out, hb.out.trans (grown_belowN hg.out hb.out.size (fun k e => by cases e; exact Nat.le_refl _)), fun a ha' => ?_⟩
    subst ha'
    rcases ha.out with h | h
    · left; simpa using h
    · right; have := hsz.out; simp at h; omega
end Go.Proofs.YtbgpppbcffpdbaaGreatDoor

/-! slices.DeleteFunc at each closure of locks: what is left of a list of the call's own. -/
namespace Go.Proofs.YtbgpppbcffpdbaaGreatDoor
open Go.RowKit

theorem addr0 (g o : Nat) : (⟨g, 0, none⟩ : Addr).add o = ⟨g, o, none⟩ := by unfold Addr.add; split <;> simp_all
section
variable {α : Type}
/-- what stands in the list while its things are taken away: those that were kept, and those that are still to be looked at -/
structure DelM (l : List α) (p : α → Bool) (n i j : Nat) (M : List α) : Prop where
  len : M.length = n
  lt : i < j
  le : j ≤ n
  kept : M.take i = (l.take j).filter (fun a => !p a)
  rest : M.drop j = l.drop j
theorem DelM.start {l : List α} {p : α → Bool} {n k : Nat} {a : α} (hl : l.length = n) (h2 : l[k]? = some a) (h3 : p a = true) (h4 : ∀ i b, i < k → l[i]? = some b → p b = false) : DelM l p n k (k + 1) l := by
  have hk := (List.getElem?_eq_some_iff.1 h2).1
  refine ⟨hl, Nat.lt_succ_self _, by omega, ?_, rfl⟩
  rw [List.take_add_one, h2, List.filter_append]
  have e1 : (l.take k).filter (fun a => !p a) = l.take k := List.filter_eq_self.2 (fun b hb => by
    obtain ⟨i, hi⟩ := List.mem_iff_getElem?.1 hb
    rw [List.getElem?_take] at hi
    split at hi
    · rw [h4 i b (by assumption) hi]; rfl
    · cases hi)
  rw [e1]
  simp [h3]
theorem DelM.get {l : List α} {p : α → Bool} {n i j : Nat} {M : List α} {a : α} (h : DelM l p n i j M) (ha : M[j]? = some a) : l[j]? = some a := by
  have := congrArg (·[0]?) h.rest
  simp only [List.getElem?_drop, Nat.add_zero] at this
  rw [← this]; exact ha
theorem DelM.skip {l : List α} {p : α → Bool} {n i j : Nat} {M : List α} {a : α} (h : DelM l p n i j M) (hj : j < n) (ha : M[j]? = some a) (hp : p a = true) : DelM l p n i (j + 1) M := by
  refine ⟨h.len, by have := h.lt; omega, hj, ?_, ?_⟩
  · rw [List.take_add_one, h.get ha, List.filter_append, h.kept]; simp [hp]
  · rw [← List.drop_drop, ← List.drop_drop, h.rest]
theorem DelM.keep {l : List α} {p : α → Bool} {n i j : Nat} {M : List α} {a : α} (h : DelM l p n i j M) (hj : j < n) (ha : M[j]? = some a) (hp : p a = false) : DelM l p n (i + 1) (j + 1) (M.set i a) := by
  have hlt := h.lt
  have hlen := h.len
  refine ⟨by simp [hlen], by omega, hj, ?_, ?_⟩
  · have e1 : (M.set i a)[i]? = some a := by rw [List.getElem?_set]; simp; omega
    have e2 : (M.set i a).take i = M.take i := by rw [List.take_set_of_le (Nat.le_refl _)]
    rw [List.take_add_one, e1, e2, h.kept, List.take_add_one, h.get ha, List.filter_append]
    simp [hp]
  · rw [List.drop_set_of_lt (by omega), ← List.drop_drop, ← List.drop_drop, h.rest]
theorem DelM.done {l : List α} {p : α → Bool} {n i : Nat} {M : List α} (h : DelM l p n i n M) (hl : l.length = n) : M.take i = l.filter (fun a => !p a) := by
  rw [h.kept, List.take_of_length_le (by omega)]
end

theorem setH {cur : List Value} {l : List HoldD} {v : HoldD} {n i c : Nat} (hl : l.length = n) (hi : i < n) (hs : cur.length = c * 2) (hc : n ≤ c) (ht : cur.take (n * 2) = cellsL l) : (splice cur (i * 2) (Cel.cells v)).take (n * 2) = cellsL (l.set i v) := by
  have hr : (Cel.cells v).length = 2 := Cel.len v
  have e1 : cur.take (i * 2) = cellsL (l.take i) := by rw [takeH, ← ht, List.take_take, Nat.min_eq_left (by omega)]
  have e2 : l.set i v = l.take i ++ v :: l.drop (i + 1) := by rw [List.set_eq_take_append_cons_drop]; simp; omega
  have e3 : cellsL (l.take i ++ v :: l.drop (i + 1)) = cellsL (l.take i) ++ (Cel.cells v ++ cellsL (l.drop (i + 1))) := by rw [cellsL_append]; rfl
  rw [e2, e3, ← e1, dropH l (i + 1) (by omega), ← ht]
  unfold splice
  apply List.ext_getElem?
  intro k
  simp only [List.getElem?_take, List.getElem?_append, List.getElem?_drop, List.length_take, hr, hs]
  repeat' split
  all_goals first
    | rfl
    | omega
    | (congr 1; omega)
    | (symm; apply List.getElem?_eq_none; omega)

theorem setW {cur : List Value} {l : List WaitD} {v : WaitD} {n i c : Nat} (hl : l.length = n) (hi : i < n) (hs : cur.length = c * 3) (hc : n ≤ c) (ht : cur.take (n * 3) = cellsL l) : (splice cur (i * 3) (Cel.cells v)).take (n * 3) = cellsL (l.set i v) := by
  have hr : (Cel.cells v).length = 3 := Cel.len v
  have e1 : cur.take (i * 3) = cellsL (l.take i) := by rw [takeW, ← ht, List.take_take, Nat.min_eq_left (by omega)]
  have e2 : l.set i v = l.take i ++ v :: l.drop (i + 1) := by rw [List.set_eq_take_append_cons_drop]; simp; omega
  have e3 : cellsL (l.take i ++ v :: l.drop (i + 1)) = cellsL (l.take i) ++ (Cel.cells v ++ cellsL (l.drop (i + 1))) := by rw [cellsL_append]; rfl
  rw [e2, e3, ← e1, dropW l (i + 1) (by omega), ← ht]
  unfold splice
  apply List.ext_getElem?
  intro k
  simp only [List.getElem?_take, List.getElem?_append, List.getElem?_drop, List.length_take, hr, hs]
  repeat' split
  all_goals first
    | rfl
    | omega
    | (congr 1; omega)
    | (symm; apply List.getElem?_eq_none; omega)

theorem setQ {cur : List Value} {l : List QV} {v : QV} {n i c : Nat} (hl : l.length = n) (hi : i < n) (hs : cur.length = c * 5) (hc : n ≤ c) (ht : cur.take (n * 5) = cellsL l) : (splice cur (i * 5) (Cel.cells v)).take (n * 5) = cellsL (l.set i v) := by
  have hr : (Cel.cells v).length = 5 := Cel.len v
  have e1 : cur.take (i * 5) = cellsL (l.take i) := by rw [takeQ, ← ht, List.take_take, Nat.min_eq_left (by omega)]
  have e2 : l.set i v = l.take i ++ v :: l.drop (i + 1) := by rw [List.set_eq_take_append_cons_drop]; simp; omega
  have e3 : cellsL (l.take i ++ v :: l.drop (i + 1)) = cellsL (l.take i) ++ (Cel.cells v ++ cellsL (l.drop (i + 1))) := by rw [cellsL_append]; rfl
  rw [e2, e3, ← e1, dropQ l (i + 1) (by omega), ← ht]
  unfold splice
  apply List.ext_getElem?
  intro k
  simp only [List.getElem?_take, List.getElem?_append, List.getElem?_drop, List.length_take, hr, hs]
  repeat' split
  all_goals first
    | rfl
    | omega
    | (congr 1; omega)
    | (symm; apply List.getElem?_eq_none; omega)

set_option maxRecDepth 100000 in
set_option maxHeartbeats 2000000 in
theorem delW_row (g : Nat) (p : WaitD → Bool) (g0 n c B : Nat) (cur : List Value) (l : List WaitD) (w : World) (hB : B ≤ g0) (hg : RowV 47 w g0 cur) (hs : cur.length = c * 3) (ht : cur.take (n * 3) = cellsL l) (hl : l.length = n) (hnc : n ≤ c) (hc : c ≤ maxLen) (hsm : n ≤ 1000000)
    (hf : ∀ (a : WaitD) u, w.grownBy u (some g0) → Calls Tryz.prog 105 #[.agg #[.int .i64 a.x, .int .i64 a.m, .int .i64 a.h], .pointer (some ⟨g, 0, none⟩)] u (fun e w' => e = .returned (.bool (p a)) ∧ Below u.heap.size u w')) :
    Calls Tryz.prog 104 #[.slice (some ⟨g0, 0, none⟩) n c, .func (.func 105) #[] #[.pointer (some ⟨g, 0, none⟩)]] w (fun e w' => ∃ n', e = .returned (.slice (some ⟨g0, 0, none⟩) n' c) ∧ OwnS 47 w' B (.slice (some ⟨g0, 0, none⟩) n' c) (l.filter (fun a => !p a)) ∧ w.grownBy w' (some g0)) := by
  have hlt0 := hg.lt
  have hon : SlOn w (some ⟨g0, 0, none⟩) n c l := (mkW hB hg hnc hc hs ht hl).reads
  have hidx := Lib.hid (idxDropW_any g p (some ⟨g0, 0, none⟩) n c l w hon hsm (fun a u hu => hf a u (below_grown hu _)))
  have hf' := Lib.hid hf
  have hg' := Lib.hid hg
  have hs' := Lib.hid hs
  have ht' := Lib.hid ht
  have hl' := Lib.hid hl
  have hcm := Lib.hid hc
  have hB' := Lib.hid hB
  clear hf hg hs ht hl hon hc
  rcases fIdx_or p l with ⟨h1, h2⟩ | ⟨k, a, h1, h2, h3, h4⟩
  · rw [h1] at hidx
    have hfl : Hid (l.filter (fun a => !p a) = l) := List.filter_eq_self.2 (fun a ha => by simp [h2 a ha])
    clear h1 h2
    go_enter Tryz.func104, Tryz.ntmps104
    go_wp2_with fail
    refine hidx.out.mono ?_
    rintro e w1 ⟨rfl, hb1⟩
    have hb1' := Lib.hid hb1
    clear hb1
    go_wp2
    go_ret
    refine ⟨n, rfl, ?_, below_grown hb1'.out _⟩
    rw [hfl.out]
    exact mkW hB'.out (hg'.out.below hb1'.out) hnc hcm.out hs'.out ht'.out hl'.out
  · rw [h1] at hidx
    have hkn : k < n := by have := (List.getElem?_eq_some_iff.1 h2).1; have := hl'.out; omega
    have hst : Hid (DelM l p n k (k + 1) l) := DelM.start hl'.out h2 h3 h4
    clear h1 h2 h3 h4
    go_enter Tryz.func104, Tryz.ntmps104
    go_wp2_with fail
    refine hidx.out.mono ?_
    rintro e w1 ⟨rfl, hb1⟩
    have hb1' := Lib.hid hb1
    clear hb1 hidx
    have hk1 : ((k : Int) == -1) = false := by rw [beq_eq_false_iff_ne]; omega
    go_wp2
    go_loopw [5, 6] (fun v5 v6 wr => ∃ (i j : Nat) (M : List WaitD) (cu : List Value), v5 = .int .i64 i ∧ v6 = .int .i64 j ∧ Hid (DelM l p n i j M) ∧ Hid (RowV 47 wr g0 cu ∧ cu.length = c * 3 ∧ cu.take (n * 3) = cellsL M ∧ w.grownBy wr (some g0))) (fun _ v6 _ => n - (intOf v6).toNat)
    case atStart => exact ⟨k, k + 1, l, cur, rfl, by go_num, hst.out, hg'.out.below hb1'.out, hs'.out, ht'.out, below_grown hb1'.out _⟩
    case round =>
      obtain ⟨i, j, M, cu, rfl, rfl, hm, hr⟩ := hrel
      have hij := hm.out.lt
      have hjn := hm.out.le
      by_cases hlt : j < n
      · have hwlt := hr.out.1.lt
        obtain ⟨A, ⟨ax, am, ah⟩, hqA, hx, hcA⟩ := (mkW hB'.out hr.out.1 hnc hcm.out hr.out.2.1 hr.out.2.2.1 hm.out.len).reads.at hlt
        cases hqA
        have hcell : Hid (∀ j' v, ([.int .i64 ax, .int .i64 am, .int .i64 ah] : List Value)[j']? = some v → wr.cell? ((⟨g0, j * 3, none⟩ : Addr).add j') = some v) := fun j' v hv => by have h := hcA j' v hv; rwa [addr0] at h
        have hs2 := sizeWait (.int .i64 ax) (.int .i64 am) (.int .i64 ah)
        have hx' := Lib.hid hx
        have i0 : (0 : Int) ≤ j := by omega
        have i1 : (j : Int) < n := by omega
        clear hx hcA
        obtain ⟨WA, hWA⟩ : ∃ W', wr.alloc (.cells #[.int .i64 ax, .int .i64 am, .int .i64 ah] 47) = W' := ⟨_, rfl⟩
        have hbA := Lib.hid (one_box (xs := [.int .i64 ax, .int .i64 am, .int .i64 ah]) hWA)
        have hgA := Lib.hid (grown_below hr.out.2.2.2 hbA.out.1)
        have hcl := Lib.hid (hf'.out ⟨ax, am, ah⟩ WA hgA.out)
        obtain ⟨b, hbv⟩ : ∃ b, p ⟨ax, am, ah⟩ = b := ⟨_, rfl⟩
        have hbv' := Lib.hid hbv
        rw [hbv] at hcl
        clear hbv
        cases b with
        | true =>
          have hmn : Hid (DelM l p n i (j + 1) M) := hm.out.skip hlt hx'.out hbv'.out
          go_wp2_with (first
            | (with_reducible refine wpList_load_at rfl 47 (.tmp 24) rfl Tryz.underlying47 rfl hs2 rfl hcell.out ?_)
            | (with_reducible refine wpList_load_at rfl 47 (.tmp 7) rfl Tryz.underlying47 rfl hs2 rfl hbA.out.2.1.all ?_)
            | (go_at_call 105; refine hcl.out.mono ?_; rintro e w2 ⟨rfl, hb2⟩; have hb3 := Lib.hid hb2; clear hb2))
          go_roundw
          case rel => exact ⟨i, j + 1, M, cu, rfl, by go_num, hmn.out, (hr.out.1.below hbA.out.1).below hb3.out, hr.out.2.1, hr.out.2.2.1, grown_below hgA.out hb3.out⟩
          case measure => simp [intOf]; omega
        | false =>
          have hmn : Hid (DelM l p n (i + 1) (j + 1) (M.set i ⟨ax, am, ah⟩)) := hm.out.keep hlt hx'.out hbv'.out
          have hmt := Lib.hid (setW (v := ⟨ax, am, ah⟩) (i := i) hm.out.len (by omega) hr.out.2.1 hnc hr.out.2.2.1)
          have hfit : i * 3 + ([.int .i64 ax, .int .i64 am, .int .i64 ah] : List Value).length ≤ cu.length := by rw [hr.out.2.1]; show i * 3 + 3 ≤ _; omega
          have hone : ∀ v ∈ ([.int .i64 ax, .int .i64 am, .int .i64 ah] : List Value), v.oneCell' = true := Cel.one (⟨ax, am, ah⟩ : WaitD)
          have j0 : (0 : Int) ≤ i := by omega
          have j1 : (i : Int) < n := by omega
          go_wp2_with (first
            | (with_reducible refine wpList_load_at rfl 47 (.tmp 24) rfl Tryz.underlying47 rfl hs2 rfl hcell.out ?_)
            | (with_reducible refine wpList_load_at rfl 47 (.tmp 7) rfl Tryz.underlying47 rfl hs2 rfl hbA.out.2.1.all ?_)
            | (go_at_call 105; refine hcl.out.mono ?_; rintro e w2 ⟨rfl, hb2⟩; have hb3 := Lib.hid hb2; have hbx2 := Lib.hid (hbA.out.2.1.below hb2 (Nat.le_refl _)); have hrow2 := Lib.hid ((hr.out.1.below hbA.out.1).below hb2); clear hb2 hWA)
            | (with_reducible refine wpList_load_at rfl 47 (.tmp 7) rfl Tryz.underlying47 rfl hs2 rfl hbx2.out.all ?_)
            | ((with_reducible refine wpList_store_at rfl 47 (.tmp 33) (.tmp 32) rfl (o := i * 3) (vs := [.int .i64 ax, .int .i64 am, .int .i64 ah]) rfl rfl hrow2.out hs2 hfit hone ?_)
               intro w9 h9 hg9
               have q9 := Lib.hid h9
               have hg9' := Lib.hid hg9
               clear h9 hg9))
          go_roundw
          case rel => exact ⟨i + 1, j + 1, _, _, by go_num, by go_num, hmn.out, q9.out, by rw [length_splice _ _ _ hfit]; exact hr.out.2.1, hmt.out, grown_trans (grown_below hgA.out hb3.out) hg9'.out⟩
          case measure => simp [intOf]; omega
      · obtain rfl : n = j := by omega
        have hfl : Hid (M.take i = l.filter (fun a => !p a)) := hm.out.done hl'.out
        have hin : i < n := hij
        have hic : ¬ (c = i) := by omega
        have hi1 : (i : Int) ≤ n := by omega
        have hi2 : (i : Int) ≤ c := by omega
        have hi0 : (0 : Int) ≤ i := by omega
        have hi3 : i ≤ n := by omega
        have hfit : i * 3 + (n - i) * 3 ≤ cu.length := by rw [hr.out.2.1]; omega
        go_wp2_with (first
          | ((with_reducible refine wpList_clear_rk Tryz.underlying41 infoWait rfl (by decide) (by decide) rfl (.tmp 38) rfl rfl hr.out.1 (fun _ => rfl) hfit ?_)
             intro w5 Z hZ hg7' hgr7'
             have hg7 := Lib.hid hg7'
             have hgr7 := Lib.hid hgr7'
             have hZ' := Lib.hid hZ
             clear hg7' hgr7' hZ))
        go_ret
        refine ⟨i, rfl, ?_, grown_trans hr.out.2.2.2 hgr7.out⟩
        rw [← hfl.out]
        refine mkW hB'.out hg7.out (by omega) hcm.out (by rw [length_splice _ _ _ (by rw [hZ'.out]; exact hfit)]; exact hr.out.2.1) ?_ (by rw [List.length_take, hm.out.len]; omega)
        rw [splice_take_lt (Nat.le_refl _) (by rw [hr.out.2.1]; omega), takeW, ← hr.out.2.2.1, List.take_take, Nat.min_eq_left (by omega)]

set_option maxRecDepth 100000 in
theorem delW_nil (g : Nat) (p : WaitD → Bool) (w : World) (hf : ∀ (a : WaitD) u, Below w.heap.size w u → Calls Tryz.prog 105 #[.agg #[.int .i64 a.x, .int .i64 a.m, .int .i64 a.h], .pointer (some ⟨g, 0, none⟩)] u (fun e w' => e = .returned (.bool (p a)) ∧ Below u.heap.size u w')) :
    Calls Tryz.prog 104 #[.slice none 0 0, .func (.func 105) #[] #[.pointer (some ⟨g, 0, none⟩)]] w (fun e w' => e = .returned (.slice none 0 0) ∧ Below w.heap.size w w') := by
  have hidx := Lib.hid (idxDropW_any g p none 0 0 [] w (SlOn.none_ w) (by omega) hf)
  clear hf
  go_enter Tryz.func104, Tryz.ntmps104
  go_wp2_with fail
  refine hidx.out.mono ?_
  rintro e w1 ⟨rfl, hb1⟩
  have hb1' := Lib.hid hb1
  have e1 : fIdx p [] = -1 := rfl
  rw [e1]
  clear hb1
  go_wp2
  go_ret
  exact ⟨rfl, hb1'.out⟩

theorem delW (g : Nat) (p : WaitD → Bool) (q : Option Addr) (n c B : Nat) (l : List WaitD) (w : World) (hown : OwnS 47 w B (.slice q n c) l) (hsm : n ≤ 1000000)
    (hf : ∀ (a : WaitD) u, w.grownBy u (q.map (·.block)) → Calls Tryz.prog 105 #[.agg #[.int .i64 a.x, .int .i64 a.m, .int .i64 a.h], .pointer (some ⟨g, 0, none⟩)] u (fun e w' => e = .returned (.bool (p a)) ∧ Below u.heap.size u w')) :
    Calls Tryz.prog 104 #[.slice q n c, .func (.func 105) #[] #[.pointer (some ⟨g, 0, none⟩)]] w (fun e w' => ∃ n', e = .returned (.slice q n' c) ∧ OwnS 47 w' B (.slice q n' c) (l.filter (fun a => !p a)) ∧ w.grownBy w' (q.map (·.block))) := by
  cases q with
  | none =>
    obtain ⟨rfl, rfl, rfl⟩ := hown.nil_cap
    refine (delW_nil g p w (fun a u hu => hf a u (below_grown hu _))).mono ?_
    rintro e w' ⟨rfl, hb⟩
    exact ⟨0, rfl, OwnS.nil _ _ _, below_grown hb _⟩
  | some a =>
    obtain ⟨g0, cur, rfl, hB, hrow, hnc, hc, hs, ht⟩ := openedW hown
    exact delW_row g p g0 n c B cur l w hB hrow hs ht hown.len.symm hnc hc hsm hf

set_option maxRecDepth 100000 in
set_option maxHeartbeats 2000000 in
theorem delH_row (g : Nat) (p : HoldD → Bool) (g0 n c B : Nat) (cur : List Value) (l : List HoldD) (w : World) (hB : B ≤ g0) (hg : RowV 45 w g0 cur) (hs : cur.length = c * 2) (ht : cur.take (n * 2) = cellsL l) (hl : l.length = n) (hnc : n ≤ c) (hc : c ≤ maxLen) (hsm : n ≤ 1000000)
    (hf : ∀ (a : HoldD) u, w.grownBy u (some g0) → Calls Tryz.prog 103 #[.agg #[.int .i64 a.x, .int .i64 a.m], .pointer (some ⟨g, 0, none⟩)] u (fun e w' => e = .returned (.bool (p a)) ∧ Below u.heap.size u w')) :
    Calls Tryz.prog 102 #[.slice (some ⟨g0, 0, none⟩) n c, .func (.func 103) #[] #[.pointer (some ⟨g, 0, none⟩)]] w (fun e w' => ∃ n', e = .returned (.slice (some ⟨g0, 0, none⟩) n' c) ∧ OwnS 45 w' B (.slice (some ⟨g0, 0, none⟩) n' c) (l.filter (fun a => !p a)) ∧ w.grownBy w' (some g0)) := by
  have hlt0 := hg.lt
  have hon : SlOn w (some ⟨g0, 0, none⟩) n c l := (mkH hB hg hnc hc hs ht hl).reads
  have hidx := Lib.hid (idxDropH_any g p (some ⟨g0, 0, none⟩) n c l w hon hsm (fun a u hu => hf a u (below_grown hu _)))
  have hf' := Lib.hid hf
  have hg' := Lib.hid hg
  have hs' := Lib.hid hs
  have ht' := Lib.hid ht
  have hl' := Lib.hid hl
  have hcm := Lib.hid hc
  have hB' := Lib.hid hB
  clear hf hg hs ht hl hon hc
  rcases fIdx_or p l with ⟨h1, h2⟩ | ⟨k, a, h1, h2, h3, h4⟩
  · rw [h1] at hidx
    have hfl : Hid (l.filter (fun a => !p a) = l) := List.filter_eq_self.2 (fun a ha => by simp [h2 a ha])
    clear h1 h2
    go_enter Tryz.func102, Tryz.ntmps102
    go_wp2_with fail
    refine hidx.out.mono ?_
    rintro e w1 ⟨rfl, hb1⟩
    have hb1' := Lib.hid hb1
    clear hb1
    go_wp2
    go_ret
    refine ⟨n, rfl, ?_, below_grown hb1'.out _⟩
    rw [hfl.out]
    exact mkH hB'.out (hg'.out.below hb1'.out) hnc hcm.out hs'.out ht'.out hl'.out
  · rw [h1] at hidx
    have hkn : k < n := by have := (List.getElem?_eq_some_iff.1 h2).1; have := hl'.out; omega
    have hst : Hid (DelM l p n k (k + 1) l) := DelM.start hl'.out h2 h3 h4
    clear h1 h2 h3 h4
    go_enter Tryz.func102, Tryz.ntmps102
    go_wp2_with fail
    refine hidx.out.mono ?_
    rintro e w1 ⟨rfl, hb1⟩
    have hb1' := Lib.hid hb1
    clear hb1 hidx
    have hk1 : ((k : Int) == -1) = false := by rw [beq_eq_false_iff_ne]; omega
    go_wp2
    go_loopw [5, 6] (fun v5 v6 wr => ∃ (i j : Nat) (M : List HoldD) (cu : List Value), v5 = .int .i64 i ∧ v6 = .int .i64 j ∧ Hid (DelM l p n i j M) ∧ Hid (RowV 45 wr g0 cu ∧ cu.length = c * 2 ∧ cu.take (n * 2) = cellsL M ∧ w.grownBy wr (some g0))) (fun _ v6 _ => n - (intOf v6).toNat)
    case atStart => exact ⟨k, k + 1, l, cur, rfl, by go_num, hst.out, hg'.out.below hb1'.out, hs'.out, ht'.out, below_grown hb1'.out _⟩
    case round =>
      obtain ⟨i, j, M, cu, rfl, rfl, hm, hr⟩ := hrel
      have hij := hm.out.lt
      have hjn := hm.out.le
      by_cases hlt : j < n
      · have hwlt := hr.out.1.lt
        obtain ⟨A, ⟨ax, am⟩, hqA, hx, hcA⟩ := (mkH hB'.out hr.out.1 hnc hcm.out hr.out.2.1 hr.out.2.2.1 hm.out.len).reads.at hlt
        cases hqA
        have hcell : Hid (∀ j' v, ([.int .i64 ax, .int .i64 am] : List Value)[j']? = some v → wr.cell? ((⟨g0, j * 2, none⟩ : Addr).add j') = some v) := fun j' v hv => by have h := hcA j' v hv; rwa [addr0] at h
        have hs2 := sizeHold (.int .i64 ax) (.int .i64 am)
        have hx' := Lib.hid hx
        have i0 : (0 : Int) ≤ j := by omega
        have i1 : (j : Int) < n := by omega
        clear hx hcA
        obtain ⟨WA, hWA⟩ : ∃ W', wr.alloc (.cells #[.int .i64 ax, .int .i64 am] 45) = W' := ⟨_, rfl⟩
        have hbA := Lib.hid (one_box (xs := [.int .i64 ax, .int .i64 am]) hWA)
        have hgA := Lib.hid (grown_below hr.out.2.2.2 hbA.out.1)
        have hcl := Lib.hid (hf'.out ⟨ax, am⟩ WA hgA.out)
        obtain ⟨b, hbv⟩ : ∃ b, p ⟨ax, am⟩ = b := ⟨_, rfl⟩
        have hbv' := Lib.hid hbv
        rw [hbv] at hcl
        clear hbv
        cases b with
        | true =>
          have hmn : Hid (DelM l p n i (j + 1) M) := hm.out.skip hlt hx'.out hbv'.out
          go_wp2_with (first
            | (with_reducible refine wpList_load_at rfl 45 (.tmp 24) rfl Tryz.underlying45 rfl hs2 rfl hcell.out ?_)
            | (with_reducible refine wpList_load_at rfl 45 (.tmp 7) rfl Tryz.underlying45 rfl hs2 rfl hbA.out.2.1.all ?_)
            | (go_at_call 103; refine hcl.out.mono ?_; rintro e w2 ⟨rfl, hb2⟩; have hb3 := Lib.hid hb2; clear hb2))
          go_roundw
          case rel => exact ⟨i, j + 1, M, cu, rfl, by go_num, hmn.out, (hr.out.1.below hbA.out.1).below hb3.out, hr.out.2.1, hr.out.2.2.1, grown_below hgA.out hb3.out⟩
          case measure => simp [intOf]; omega
        | false =>
          have hmn : Hid (DelM l p n (i + 1) (j + 1) (M.set i ⟨ax, am⟩)) := hm.out.keep hlt hx'.out hbv'.out
          have hmt := Lib.hid (setH (v := ⟨ax, am⟩) (i := i) hm.out.len (by omega) hr.out.2.1 hnc hr.out.2.2.1)
          have hfit : i * 2 + ([.int .i64 ax, .int .i64 am] : List Value).length ≤ cu.length := by rw [hr.out.2.1]; show i * 2 + 2 ≤ _; omega
          have hone : ∀ v ∈ ([.int .i64 ax, .int .i64 am] : List Value), v.oneCell' = true := Cel.one (⟨ax, am⟩ : HoldD)
          have j0 : (0 : Int) ≤ i := by omega
          have j1 : (i : Int) < n := by omega
          go_wp2_with (first
            | (with_reducible refine wpList_load_at rfl 45 (.tmp 24) rfl Tryz.underlying45 rfl hs2 rfl hcell.out ?_)
            | (with_reducible refine wpList_load_at rfl 45 (.tmp 7) rfl Tryz.underlying45 rfl hs2 rfl hbA.out.2.1.all ?_)
            | (go_at_call 103; refine hcl.out.mono ?_; rintro e w2 ⟨rfl, hb2⟩; have hb3 := Lib.hid hb2; have hbx2 := Lib.hid (hbA.out.2.1.below hb2 (Nat.le_refl _)); have hrow2 := Lib.hid ((hr.out.1.below hbA.out.1).below hb2); clear hb2 hWA)
            | (with_reducible refine wpList_load_at rfl 45 (.tmp 7) rfl Tryz.underlying45 rfl hs2 rfl hbx2.out.all ?_)
            | ((with_reducible refine wpList_store_at rfl 45 (.tmp 33) (.tmp 32) rfl (o := i * 2) (vs := [.int .i64 ax, .int .i64 am]) rfl rfl hrow2.out hs2 hfit hone ?_)
               intro w9 h9 hg9
               have q9 := Lib.hid h9
               have hg9' := Lib.hid hg9
               clear h9 hg9))
          go_roundw
          case rel => exact ⟨i + 1, j + 1, _, _, by go_num, by go_num, hmn.out, q9.out, by rw [length_splice _ _ _ hfit]; exact hr.out.2.1, hmt.out, grown_trans (grown_below hgA.out hb3.out) hg9'.out⟩
          case measure => simp [intOf]; omega
      · obtain rfl : n = j := by omega
        have hfl : Hid (M.take i = l.filter (fun a => !p a)) := hm.out.done hl'.out
        have hin : i < n := hij
        have hic : ¬ (c = i) := by omega
        have hi1 : (i : Int) ≤ n := by omega
        have hi2 : (i : Int) ≤ c := by omega
        have hi0 : (0 : Int) ≤ i := by omega
        have hi3 : i ≤ n := by omega
        have hfit : i * 2 + (n - i) * 2 ≤ cu.length := by rw [hr.out.2.1]; omega
        go_wp2_with (first
          | ((with_reducible refine wpList_clear_rk Tryz.underlying40 infoHold rfl (by decide) (by decide) rfl (.tmp 38) rfl rfl hr.out.1 (fun _ => rfl) hfit ?_)
             intro w5 Z hZ hg7' hgr7'
             have hg7 := Lib.hid hg7'
             have hgr7 := Lib.hid hgr7'
             have hZ' := Lib.hid hZ
             clear hg7' hgr7' hZ))
        go_ret
        refine ⟨i, rfl, ?_, grown_trans hr.out.2.2.2 hgr7.out⟩
        rw [← hfl.out]
        refine mkH hB'.out hg7.out (by omega) hcm.out (by rw [length_splice _ _ _ (by rw [hZ'.out]; exact hfit)]; exact hr.out.2.1) ?_ (by rw [List.length_take, hm.out.len]; omega)
        rw [splice_take_lt (Nat.le_refl _) (by rw [hr.out.2.1]; omega), takeH, ← hr.out.2.2.1, List.take_take, Nat.min_eq_left (by omega)]

set_option maxRecDepth 100000 in
theorem delH_nil (g : Nat) (p : HoldD → Bool) (w : World) (hf : ∀ (a : HoldD) u, Below w.heap.size w u → Calls Tryz.prog 103 #[.agg #[.int .i64 a.x, .int .i64 a.m], .pointer (some ⟨g, 0, none⟩)] u (fun e w' => e = .returned (.bool (p a)) ∧ Below u.heap.size u w')) :
    Calls Tryz.prog 102 #[.slice none 0 0, .func (.func 103) #[] #[.pointer (some ⟨g, 0, none⟩)]] w (fun e w' => e = .returned (.slice none 0 0) ∧ Below w.heap.size w w') := by
  have hidx := Lib.hid (idxDropH_any g p none 0 0 [] w (SlOn.none_ w) (by omega) hf)
  clear hf
  go_enter Tryz.func102, Tryz.ntmps102
  go_wp2_with fail
  refine hidx.out.mono ?_
  rintro e w1 ⟨rfl, hb1⟩
  have hb1' := Lib.hid hb1
  have e1 : fIdx p [] = -1 := rfl
  rw [e1]
  clear hb1
  go_wp2
  go_ret
  exact ⟨rfl, hb1'.out⟩

theorem delH (g : Nat) (p : HoldD → Bool) (q : Option Addr) (n c B : Nat) (l : List HoldD) (w : World) (hown : OwnS 45 w B (.slice q n c) l) (hsm : n ≤ 1000000)
    (hf : ∀ (a : HoldD) u, w.grownBy u (q.map (·.block)) → Calls Tryz.prog 103 #[.agg #[.int .i64 a.x, .int .i64 a.m], .pointer (some ⟨g, 0, none⟩)] u (fun e w' => e = .returned (.bool (p a)) ∧ Below u.heap.size u w')) :
    Calls Tryz.prog 102 #[.slice q n c, .func (.func 103) #[] #[.pointer (some ⟨g, 0, none⟩)]] w (fun e w' => ∃ n', e = .returned (.slice q n' c) ∧ OwnS 45 w' B (.slice q n' c) (l.filter (fun a => !p a)) ∧ w.grownBy w' (q.map (·.block))) := by
  cases q with
  | none =>
    obtain ⟨rfl, rfl, rfl⟩ := hown.nil_cap
    refine (delH_nil g p w (fun a u hu => hf a u (below_grown hu _))).mono ?_
    rintro e w' ⟨rfl, hb⟩
    exact ⟨0, rfl, OwnS.nil _ _ _, below_grown hb _⟩
  | some a =>
    obtain ⟨g0, cur, rfl, hB, hrow, hnc, hc, hs, ht⟩ := openedH hown
    exact delH_row g p g0 n c B cur l w hB hrow hs ht hown.len.symm hnc hc hsm hf

set_option maxRecDepth 100000 in
set_option maxHeartbeats 2000000 in
theorem delQ_row (p : QV → Bool) (g0 n c B : Nat) (cur : List Value) (l : List QV) (w : World) (hB : B ≤ g0) (hg : RowV 43 w g0 cur) (hs : cur.length = c * 5) (ht : cur.take (n * 5) = cellsL l) (hl : l.length = n) (hnc : n ≤ c) (hc : c ≤ maxLen) (hsm : n ≤ 1000000)
    (hf : ∀ (a : QV) u, w.grownBy u (some g0) → Calls Tryz.prog 101 #[.agg #[.int .i64 a.res.t, .bool a.res.k, .int .u16 a.res.id, .slice a.hq a.hn a.hc, .slice a.wq a.wn a.wc]] u (fun e w' => e = .returned (.bool (p a)) ∧ Below u.heap.size u w')) :
    Calls Tryz.prog 100 #[.slice (some ⟨g0, 0, none⟩) n c, .func (.func 101) #[] #[]] w (fun e w' => ∃ n', e = .returned (.slice (some ⟨g0, 0, none⟩) n' c) ∧ OwnS 43 w' B (.slice (some ⟨g0, 0, none⟩) n' c) (l.filter (fun a => !p a)) ∧ w.grownBy w' (some g0)) := by
  have hlt0 := hg.lt
  have hon : SlOn w (some ⟨g0, 0, none⟩) n c l := (mkQ hB hg hnc hc hs ht hl).reads
  have hidx := Lib.hid (idxQ_any p (some ⟨g0, 0, none⟩) n c l w hon hsm (fun a u hu => hf a u (below_grown hu _)))
  have hf' := Lib.hid hf
  have hg' := Lib.hid hg
  have hs' := Lib.hid hs
  have ht' := Lib.hid ht
  have hl' := Lib.hid hl
  have hcm := Lib.hid hc
  have hB' := Lib.hid hB
  clear hf hg hs ht hl hon hc
  rcases fIdx_or p l with ⟨h1, h2⟩ | ⟨k, a, h1, h2, h3, h4⟩
  · rw [h1] at hidx
    have hfl : Hid (l.filter (fun a => !p a) = l) := List.filter_eq_self.2 (fun a ha => by simp [h2 a ha])
    clear h1 h2
    go_enter Tryz.func100, Tryz.ntmps100
    go_wp2_with fail
    refine hidx.out.mono ?_
    rintro e w1 ⟨rfl, hb1⟩
    have hb1' := Lib.hid hb1
    clear hb1
    go_wp2
    go_ret
    refine ⟨n, rfl, ?_, below_grown hb1'.out _⟩
    rw [hfl.out]
    exact mkQ hB'.out (hg'.out.below hb1'.out) hnc hcm.out hs'.out ht'.out hl'.out
  · rw [h1] at hidx
    have hkn : k < n := by have := (List.getElem?_eq_some_iff.1 h2).1; have := hl'.out; omega
    have hst : Hid (DelM l p n k (k + 1) l) := DelM.start hl'.out h2 h3 h4
    clear h1 h2 h3 h4
    go_enter Tryz.func100, Tryz.ntmps100
    go_wp2_with fail
    refine hidx.out.mono ?_
    rintro e w1 ⟨rfl, hb1⟩
    have hb1' := Lib.hid hb1
    clear hb1 hidx
    have hk1 : ((k : Int) == -1) = false := by rw [beq_eq_false_iff_ne]; omega
    go_wp2
    go_loopw [5, 6] (fun v5 v6 wr => ∃ (i j : Nat) (M : List QV) (cu : List Value), v5 = .int .i64 i ∧ v6 = .int .i64 j ∧ Hid (DelM l p n i j M) ∧ Hid (RowV 43 wr g0 cu ∧ cu.length = c * 5 ∧ cu.take (n * 5) = cellsL M ∧ w.grownBy wr (some g0))) (fun _ v6 _ => n - (intOf v6).toNat)
    case atStart => exact ⟨k, k + 1, l, cur, rfl, by go_num, hst.out, hg'.out.below hb1'.out, hs'.out, ht'.out, below_grown hb1'.out _⟩
    case round =>
      obtain ⟨i, j, M, cu, rfl, rfl, hm, hr⟩ := hrel
      have hij := hm.out.lt
      have hjn := hm.out.le
      by_cases hlt : j < n
      · have hwlt := hr.out.1.lt
        obtain ⟨A, ⟨⟨at_, ak, ai⟩, hq, hn, hc, wq, wn, wc⟩, hqA, hx, hcA⟩ := (mkQ hB'.out hr.out.1 hnc hcm.out hr.out.2.1 hr.out.2.2.1 hm.out.len).reads.at hlt
        cases hqA
        have hcell : Hid (∀ j' v, ([.int .i64 at_, .bool ak, .int .u16 ai, .slice hq hn hc, .slice wq wn wc] : List Value)[j']? = some v → wr.cell? ((⟨g0, j * 5, none⟩ : Addr).add j') = some v) := fun j' v hv => by have h := hcA j' v hv; rwa [addr0] at h
        have hs2 := sizeQue (.int .i64 at_) (.bool ak) (.int .u16 ai) (.slice hq hn hc) (.slice wq wn wc)
        have hx' := Lib.hid hx
        have i0 : (0 : Int) ≤ j := by omega
        have i1 : (j : Int) < n := by omega
        clear hx hcA
        obtain ⟨WA, hWA⟩ : ∃ W', wr.alloc (.cells #[.int .i64 at_, .bool ak, .int .u16 ai, .slice hq hn hc, .slice wq wn wc] 43) = W' := ⟨_, rfl⟩
        have hbA := Lib.hid (one_box (xs := [.int .i64 at_, .bool ak, .int .u16 ai, .slice hq hn hc, .slice wq wn wc]) hWA)
        have hgA := Lib.hid (grown_below hr.out.2.2.2 hbA.out.1)
        have hcl := Lib.hid (hf'.out ⟨⟨at_, ak, ai⟩, hq, hn, hc, wq, wn, wc⟩ WA hgA.out)
        obtain ⟨b, hbv⟩ : ∃ b, p ⟨⟨at_, ak, ai⟩, hq, hn, hc, wq, wn, wc⟩ = b := ⟨_, rfl⟩
        have hbv' := Lib.hid hbv
        rw [hbv] at hcl
        clear hbv
        cases b with
        | true =>
          have hmn : Hid (DelM l p n i (j + 1) M) := hm.out.skip hlt hx'.out hbv'.out
          go_wp2_with (first
            | (with_reducible refine wpList_load_at rfl 43 (.tmp 24) rfl Tryz.underlying43 rfl hs2 rfl hcell.out ?_)
            | (with_reducible refine wpList_load_at rfl 43 (.tmp 7) rfl Tryz.underlying43 rfl hs2 rfl hbA.out.2.1.all ?_)
            | (go_at_call 101; refine hcl.out.mono ?_; rintro e w2 ⟨rfl, hb2⟩; have hb3 := Lib.hid hb2; clear hb2))
          go_roundw
          case rel => exact ⟨i, j + 1, M, cu, rfl, by go_num, hmn.out, (hr.out.1.below hbA.out.1).below hb3.out, hr.out.2.1, hr.out.2.2.1, grown_below hgA.out hb3.out⟩
          case measure => simp [intOf]; omega
        | false =>
          have hmn : Hid (DelM l p n (i + 1) (j + 1) (M.set i ⟨⟨at_, ak, ai⟩, hq, hn, hc, wq, wn, wc⟩)) := hm.out.keep hlt hx'.out hbv'.out
          have hmt := Lib.hid (setQ (v := ⟨⟨at_, ak, ai⟩, hq, hn, hc, wq, wn, wc⟩) (i := i) hm.out.len (by omega) hr.out.2.1 hnc hr.out.2.2.1)
          have hfit : i * 5 + ([.int .i64 at_, .bool ak, .int .u16 ai, .slice hq hn hc, .slice wq wn wc] : List Value).length ≤ cu.length := by rw [hr.out.2.1]; show i * 5 + 5 ≤ _; omega
          have hone : ∀ v ∈ ([.int .i64 at_, .bool ak, .int .u16 ai, .slice hq hn hc, .slice wq wn wc] : List Value), v.oneCell' = true := Cel.one (⟨⟨at_, ak, ai⟩, hq, hn, hc, wq, wn, wc⟩ : QV)
          have j0 : (0 : Int) ≤ i := by omega
          have j1 : (i : Int) < n := by omega
          go_wp2_with (first
            | (with_reducible refine wpList_load_at rfl 43 (.tmp 24) rfl Tryz.underlying43 rfl hs2 rfl hcell.out ?_)
            | (with_reducible refine wpList_load_at rfl 43 (.tmp 7) rfl Tryz.underlying43 rfl hs2 rfl hbA.out.2.1.all ?_)
            | (go_at_call 101; refine hcl.out.mono ?_; rintro e w2 ⟨rfl, hb2⟩; have hb3 := Lib.hid hb2; have hbx2 := Lib.hid (hbA.out.2.1.below hb2 (Nat.le_refl _)); have hrow2 := Lib.hid ((hr.out.1.below hbA.out.1).below hb2); clear hb2 hWA)
            | (with_reducible refine wpList_load_at rfl 43 (.tmp 7) rfl Tryz.underlying43 rfl hs2 rfl hbx2.out.all ?_)
            | ((with_reducible refine wpList_store_at rfl 43 (.tmp 33) (.tmp 32) rfl (o := i * 5) (vs := [.int .i64 at_, .bool ak, .int .u16 ai, .slice hq hn hc, .slice wq wn wc]) rfl rfl hrow2.out hs2 hfit hone ?_)
               intro w9 h9 hg9
               have q9 := Lib.hid h9
               have hg9' := Lib.hid hg9
               clear h9 hg9))
          go_roundw
          case rel => exact ⟨i + 1, j + 1, _, _, by go_num, by go_num, hmn.out, q9.out, by rw [length_splice _ _ _ hfit]; exact hr.out.2.1, hmt.out, grown_trans (grown_below hgA.out hb3.out) hg9'.out⟩
          case measure => simp [intOf]; omega
      · obtain rfl : n = j := by omega
        have hfl : Hid (M.take i = l.filter (fun a => !p a)) := hm.out.done hl'.out
        have hin : i < n := hij
        have hic : ¬ (c = i) := by omega
        have hi1 : (i : Int) ≤ n := by omega
        have hi2 : (i : Int) ≤ c := by omega
        have hi0 : (0 : Int) ≤ i := by omega
        have hi3 : i ≤ n := by omega
        have hfit : i * 5 + (n - i) * 5 ≤ cu.length := by rw [hr.out.2.1]; omega
        go_wp2_with (first
          | ((with_reducible refine wpList_clear_rk Tryz.underlying22 infoQue rfl (by decide) (by decide) rfl (.tmp 38) rfl rfl hr.out.1 (fun _ => rfl) hfit ?_)
             intro w5 Z hZ hg7' hgr7'
             have hg7 := Lib.hid hg7'
             have hgr7 := Lib.hid hgr7'
             have hZ' := Lib.hid hZ
             clear hg7' hgr7' hZ))
        go_ret
        refine ⟨i, rfl, ?_, grown_trans hr.out.2.2.2 hgr7.out⟩
        rw [← hfl.out]
        refine mkQ hB'.out hg7.out (by omega) hcm.out (by rw [length_splice _ _ _ (by rw [hZ'.out]; exact hfit)]; exact hr.out.2.1) ?_ (by rw [List.length_take, hm.out.len]; omega)
        rw [splice_take_lt (Nat.le_refl _) (by rw [hr.out.2.1]; omega), takeQ, ← hr.out.2.2.1, List.take_take, Nat.min_eq_left (by omega)]

set_option maxRecDepth 100000 in
theorem delQ_nil (p : QV → Bool) (w : World) (hf : ∀ (a : QV) u, Below w.heap.size w u → Calls Tryz.prog 101 #[.agg #[.int .i64 a.res.t, .bool a.res.k, .int .u16 a.res.id, .slice a.hq a.hn a.hc, .slice a.wq a.wn a.wc]] u (fun e w' => e = .returned (.bool (p a)) ∧ Below u.heap.size u w')) :
    Calls Tryz.prog 100 #[.slice none 0 0, .func (.func 101) #[] #[]] w (fun e w' => e = .returned (.slice none 0 0) ∧ Below w.heap.size w w') := by
  have hidx := Lib.hid (idxQ_any p none 0 0 [] w (SlOn.none_ w) (by omega) hf)
  clear hf
  go_enter Tryz.func100, Tryz.ntmps100
  go_wp2_with fail
  refine hidx.out.mono ?_
  rintro e w1 ⟨rfl, hb1⟩
  have hb1' := Lib.hid hb1
  have e1 : fIdx p [] = -1 := rfl
  rw [e1]
  clear hb1
  go_wp2
  go_ret
  exact ⟨rfl, hb1'.out⟩

theorem delQ (p : QV → Bool) (q : Option Addr) (n c B : Nat) (l : List QV) (w : World) (hown : OwnS 43 w B (.slice q n c) l) (hsm : n ≤ 1000000)
    (hf : ∀ (a : QV) u, w.grownBy u (q.map (·.block)) → Calls Tryz.prog 101 #[.agg #[.int .i64 a.res.t, .bool a.res.k, .int .u16 a.res.id, .slice a.hq a.hn a.hc, .slice a.wq a.wn a.wc]] u (fun e w' => e = .returned (.bool (p a)) ∧ Below u.heap.size u w')) :
    Calls Tryz.prog 100 #[.slice q n c, .func (.func 101) #[] #[]] w (fun e w' => ∃ n', e = .returned (.slice q n' c) ∧ OwnS 43 w' B (.slice q n' c) (l.filter (fun a => !p a)) ∧ w.grownBy w' (q.map (·.block))) := by
  cases q with
  | none =>
    obtain ⟨rfl, rfl, rfl⟩ := hown.nil_cap
    refine (delQ_nil p w (fun a u hu => hf a u (below_grown hu _))).mono ?_
    rintro e w' ⟨rfl, hb⟩
    exact ⟨0, rfl, OwnS.nil _ _ _, below_grown hb _⟩
  | some a =>
    obtain ⟨g0, cur, rfl, hB, hrow, hnc, hc, hs, ht⟩ := openedQ hown
    exact delQ_row p g0 n c B cur l w hB hrow hs ht hown.len.symm hnc hc hsm hf
end Go.Proofs.YtbgpppbcffpdbaaGreatDoor
