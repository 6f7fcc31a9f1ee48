/- slices.Replace of one row: the walks. -/
import Derived.Test.YtkdkncbccofpdaaYRep
namespace Go.Proofs.Ytkdkncbccofpdaa
open Go.RowKit

theorem OwnR.front {T : TypeId} {w : World} {B g n c i : Nat} {cur : List Value} {l : List RowD} (hB : B ≤ g) (hr : RowV T w g cur) (hn : n ≤ c) (hc : c ≤ maxLen) (hs : cur.length = c * 4) (ht : cur.take (n * 4) = cellsR l) (hl : l.length = n) (hi : i ≤ n) : OwnR T w B (.slice (some ⟨g, 0, none⟩) i c) (l.take i) :=
  OwnR.mk hB hr (by omega) hc hs (by rw [cellsR_take, ← ht, List.take_take, Nat.min_eq_left (by omega)]) (by rw [List.length_take]; omega)

set_option maxRecDepth 100000 in
set_option maxHeartbeats 2000000 in
theorem replace_set_last (B g c n i vb : Nat) (cur : List Value) (l : List RowD) (r : RowD) (w : World) (hi : i + 1 = n) (hnc : n ≤ c) (hn : n ≤ 1000000) (hc : c ≤ maxLen) (hB : B ≤ g) (hBw : B ≤ w.heap.size) (hg : RowV 68 w g cur) (hs : cur.length = c * 4) (ht : cur.take (n * 4) = cellsR l) (hl : l.length = n)
    (hv : RowV 68 w vb r.cells) (hok : RowOk r) :
    Calls Try.prog 99 #[.slice (some ⟨g, 0, none⟩) n c, .int .i64 i, .int .i64 n, .slice (some ⟨vb, 0, none⟩) 1 1] w (fun e w' => ∃ q' c', e = .returned (.slice q' n c') ∧ OwnR 68 w' B (.slice q' n c') (l.take i ++ r :: l.drop (i + 1)) ∧ w.grownBy w' (some g)) := by
  have hr := Lib.hid (hv.rows1 hok)
  have ho := Lib.hid (OwnR.front (i := i) hB hg hnc hc hs ht hl (by omega))
  have hd : Hid (l.drop (i + 1) = []) := List.drop_of_length_le (by omega)
  subst hi
  unfold maxLen at hc
  have hb1 : ¬ (c = i) := by omega
  have hb2 : ¬ ((i : Int) = (i : Int) + 1) := by omega
  have hii : i ≤ i + 1 := by omega
  have h40 : Hid ((i + 1) * 40 ≤ 140737488355328) := by show _ ≤ _; omega
  have h41 : Hid (i + 1 ≤ 140737488355328) := by show _ ≤ _; omega
  clear hg hs ht hl hv hok
  go_enter Try.func99, Try.ntmps99
  go_wp2_with (first
    | (at_builtin
       refine wpList_append_r Try.underlying25 infoRow rfl rfl (.tmp 32) (.tmp 33) rfl rfl rfl ho.out hr.out h40.out h41.out hBw ?_
       intro q' c' w' h1 h2 h3
       have hh := Lib.hid h1
       have hgr := Lib.hid h2
       clear h1 h2 h3))
  go_ret
  refine ⟨q', c', rfl, ?_, hgr.out⟩
  rw [hd.out]
  exact hh.out

set_option maxRecDepth 100000 in
set_option maxHeartbeats 2000000 in
theorem replace_set_mid (B g c n i vb : Nat) (cur : List Value) (l : List RowD) (r : RowD) (w : World) (hi : i + 1 < n) (hnc : n ≤ c) (hn : n ≤ 1000000) (hc : c ≤ maxLen) (hB : B ≤ g) (hg : RowV 68 w g cur) (hs : cur.length = c * 4) (ht : cur.take (n * 4) = cellsR l) (hl : l.length = n)
    (hv : RowV 68 w vb r.cells) :
    Calls Try.prog 99 #[.slice (some ⟨g, 0, none⟩) n c, .int .i64 i, .int .i64 ((i : Int) + 1), .slice (some ⟨vb, 0, none⟩) 1 1] w (fun e w' => ∃ q' c', e = .returned (.slice q' n c') ∧ OwnR 68 w' B (.slice q' n c') (l.take i ++ r :: l.drop (i + 1)) ∧ w.grownBy w' (some g)) := by
  unfold maxLen at hc
  have hb1 : ¬ (c = i) := by omega
  have hb1' : ¬ (c = i + 1) := by omega
  have hb2 : ¬ ((i : Int) = (i : Int) + 1) := by omega
  have hb3 : ¬ ((i : Int) + 1 = (n : Int)) := by omega
  have hb4 : (i : Int) + 1 ≤ (n : Int) := by omega
  have hii : i ≤ i + 1 := by omega
  have hin : i ≤ n := by omega
  have hin1 : i + 1 ≤ n := by omega
  have hD : (cellsR (l.drop (i + 1))).length = (n - (i + 1)) * 4 := by rw [cellsR_len, List.length_drop, hl]
  have hcp : ∀ j v, (cellsR (l.drop (i + 1)))[j]? = some v → cur[(i + 1) * 4 + j]? = some v := fun j v hj => by
    rw [cellsR_drop l (i + 1) (by omega), List.getElem?_drop, ← ht, List.getElem?_take] at hj
    split at hj
    · exact hj
    · cases hj
  obtain ⟨D, hDD⟩ : ∃ D, cellsR (l.drop (i + 1)) = D := ⟨_, rfl⟩
  have hfin := Lib.hid (fun (Z : List Value) (hZ : Z.length = 0) => rep_set (r := r) (X := D) hl (by omega) hs hnc ht hDD.symm hZ)
  have h1D : ∀ v ∈ D, v.oneCell' = true := by rw [← hDD]; exact cellsR_one _
  rw [hDD] at hD hcp
  have hD' := Lib.hid hD
  have hcp' := Lib.hid hcp
  have h1D' := Lib.hid h1D
  have hss := Lib.hid hs
  have hll := Lib.hid hl
  have hgg := Lib.hid hg
  have hvv := Lib.hid hv
  have n1 : Hid (r.cells.length = Nat.min 1 (n - i) * 4) := by
    show r.cells.length = _
    rw [show Nat.min 1 (n - i) = 1 by simp only [Nat.min_def]; split <;> omega]
    rfl
  have n2 : Hid (D.length = Nat.min (n - (i + 1)) (n - (i + 1)) * 4) := by
    show D.length = _
    rw [hD'.out, show Nat.min (n - (i + 1)) (n - (i + 1)) = n - (i + 1) by simp only [Nat.min_def]; split <;> omega]
  clear hDD hD hcp h1D ht hs hl hg hv
  go_enter Try.func99, Try.ntmps99
  go_wp2
  have k0 : IntKind.i64.wrap ((i : Int) + 1) = (i : Int) + 1 := IntWalk.i64_in _ (by omega)
  have k1 : (0 : Int) ≤ (i : Int) + 1 := by omega
  have k2 : ((i : Int) + 1).toNat = i + 1 := by omega
  have k3 : IntKind.i64.wrap ((i : Int) + 1 + ((n - (i + 1) : Nat) : Int)) = (n : Int) := by rw [IntWalk.i64_in _ (by omega)]; omega
  go_quiet (fail)
  clear k0 k1 k2 k3
  have hnc' : ¬ ((c : Int) < (n : Int)) := by omega
  have hg1 : Hid (RowV 68 (w.drewN nq) g cur) := hgg.out.block (w' := w.drewN nq) rfl
  have hv1 : Hid (RowV 68 (w.drewN nq) vb r.cells) := hvv.out.block (w' := w.drewN nq) rfl
  have p1 : Hid (0 < r.cells.length → (some ⟨g, i * 4, none⟩ : Option Addr) = some ⟨g, i * 4, none⟩ ∧ ∃ ad, (some ⟨vb, 0, none⟩ : Option Addr) = some ad ∧ ∀ j v, r.cells[j]? = some v → (w.drewN nq).cell? (ad.add j) = some v) := fun _ => ⟨rfl, _, rfl, hv1.out.src (fun j v hj => by rw [Nat.zero_add]; exact hj)⟩
  have f1 : Hid (i * 4 + r.cells.length ≤ cur.length) := by show _ ≤ _; rw [hss.out]; show i * 4 + 4 ≤ _; omega
  have q1 := Lib.hid (length_splice cur (i * 4) r.cells f1.out)
  go_wp2_with (first
    | ((with_reducible refine wpList_copy_rk Try.underlying25 infoRow rfl (.tmp 95) (.tmp 96) rfl rfl rfl hg1.out n1.out p1.out f1.out r.one ?_)
       intro w2 hg2 hgr2
       have hg3 := Lib.hid hg2
       have hgr3 := Lib.hid hgr2
       clear hg2 hgr2))
  have k0 : IntKind.i64.wrap ((i : Int) + 1) = (i : Int) + 1 := IntWalk.i64_in _ (by omega)
  have k1 : (0 : Int) ≤ (i : Int) + 1 := by omega
  have k2 : ((i : Int) + 1).toNat = i + 1 := by omega
  go_still_tail 9, (by kernel_rfl)
  change wpList _ _ _ _ _ (World.drew w2)
  clear k0 k1 k2
  have hg5 : Hid (RowV 68 w2.drew g (splice cur (i * 4) r.cells)) := hg3.out.block (w' := w2.drew) rfl
  have hcp2 : Hid (∀ j v, D[j]? = some v → (splice cur (i * 4) r.cells)[(i + 1) * 4 + j]? = some v) := fun j v hj => by
    rw [← hcp'.out j v hj]
    have hr4 : r.cells.length = 4 := rfl
    unfold splice
    rw [List.getElem?_append_right (by rw [List.length_take, hss.out]; omega), List.getElem?_append_right (by rw [List.length_take, hss.out, hr4]; omega), List.getElem?_drop, List.length_take, hss.out, hr4]
    congr 1
    omega
  have p2 : Hid (0 < D.length → (some ⟨g, (i + 1) * 4, none⟩ : Option Addr) = some ⟨g, (i + 1) * 4, none⟩ ∧ ∃ ad, (some ⟨g, (i + 1) * 4, none⟩ : Option Addr) = some ad ∧ ∀ j v, D[j]? = some v → w2.drew.cell? (ad.add j) = some v) := fun _ => ⟨rfl, _, rfl, hg5.out.src hcp2.out⟩
  have f2 : Hid ((i + 1) * 4 + D.length ≤ (splice cur (i * 4) r.cells).length) := by show _ ≤ _; rw [q1.out, hss.out, hD'.out]; omega
  have q2 := Lib.hid (length_splice (splice cur (i * 4) r.cells) ((i + 1) * 4) D f2.out)
  have f3 : Hid (n * 4 + 0 * 4 ≤ (splice (splice cur (i * 4) r.cells) ((i + 1) * 4) D).length) := by show _ ≤ _; rw [q2.out, q1.out, hss.out]; omega
  go_wp2_with (first
    | ((with_reducible refine wpList_copy_rk Try.underlying25 infoRow rfl (.tmp 103) (.tmp 106) rfl rfl rfl hg5.out n2.out p2.out f2.out h1D'.out ?_)
       intro w4 hg6' hgr6'
       have hg6 := Lib.hid hg6'
       have hgr6 := Lib.hid hgr6'
       clear hg6' hgr6')
    | ((with_reducible refine wpList_clear_rk Try.underlying25 infoRow rfl (.tmp 110) rfl rfl hg6.out (fun h => absurd h (Nat.lt_irrefl 0)) f3.out ?_)
       intro w5 Z hZ hg7' hgr7'
       have hg7 := Lib.hid hg7'
       have hgr7 := Lib.hid hgr7'
       have hZ' := Lib.hid hZ
       clear hg7' hgr7' hZ))
  all_goals
    go_ret
    have q3 := length_splice (splice (splice cur (i * 4) r.cells) ((i + 1) * 4) D) (n * 4) Z (by rw [hZ'.out]; exact f3.out)
    refine ⟨some ⟨g, 0, none⟩, c, (by first | rfl | (have e : c = n := by assumption
                                                     rw [e]; rfl)), OwnR.mk hB hg7.out hnc (by unfold maxLen; exact hc) (by rw [q3, q2.out, q1.out, hss.out]) (hfin.out Z (by rw [hZ'.out])) (by simp [hll.out]; omega), ?_⟩
    exact grown_trans (below_grown (below_drewN w nq) _) (grown_trans hgr3.out (grown_trans (below_grown (below_drew w2) _) (grown_trans hgr6.out hgr7.out)))

section
variable {P : Program} {w : World}
theorem wpList_append_none {t T : TypeId} (ht : P.underlying t = some (.slice T)) {bytes : Nat} {z : Value} (hi : (P.info? T).map (fun i => (i.zero, i.size, i.bytes)) = some (some z, 4, bytes))
    {ops : Array Oper} {rest : List Oper} {o : Oper} {a : Act} {Q : Exit → Act → World → Prop} (hgd : o.guard = none) (sl x : Operand) (ho : o.op = .call { callee := .builtin .append, args := #[sl, x], argTypes := #[t, t] })
    {ad : Addr} {n0 c0 : Nat} (hsl : a.eval sl = .slice (some ad) n0 c0) (hx : a.eval x = .slice none 0 0) (hle : n0 ≤ c0) (h : wpList P ops Q rest (a.put o.dst (.slice (some ad) n0 c0)) w) : wpList P ops Q (o :: rest) a w := by
  obtain ⟨i0, hi0, hz0, hz1, hz2⟩ := info_parts hi
  refine Lib.wpList_append_run w hgd sl x t t ho _ _ hsl hx (.slice (some ad) n0 c0) w ?_ h
  simp [Builtin.append_, run_underlying ht, sizeOf, typeInfo, hi0, Builtin.lenOf, Builtin.firstCells, hle, storeCells]
end

set_option maxRecDepth 100000 in
set_option maxHeartbeats 2000000 in
theorem replace_cut_last (B g c n i : Nat) (cur : List Value) (l : List RowD) (w : World) (hi : i + 1 = n) (hnc : n ≤ c) (hn : n ≤ 1000000) (hc : c ≤ maxLen) (hB : B ≤ g) (hg : RowV 68 w g cur) (hs : cur.length = c * 4) (ht : cur.take (n * 4) = cellsR l) (hl : l.length = n) :
    Calls Try.prog 99 #[.slice (some ⟨g, 0, none⟩) n c, .int .i64 i, .int .i64 n, .slice none 0 0] w (fun e w' => ∃ q' c', e = .returned (.slice q' i c') ∧ OwnR 68 w' B (.slice q' i c') (l.take i ++ l.drop (i + 1)) ∧ w.grownBy w' (some g)) := by
  have hd : Hid (l.drop (i + 1) = []) := List.drop_of_length_le (by omega)
  have hfr : Hid (cur.take (i * 4) = cellsR (l.take i)) := by show _ = _; rw [cellsR_take, ← ht, List.take_take, Nat.min_eq_left (by omega)]
  have hlt : Hid ((l.take i).length = i) := by show _ = _; rw [List.length_take]; omega
  subst hi
  unfold maxLen at hc
  have hb1 : ¬ (c = i) := by omega
  have hb2 : ¬ ((i : Int) = (i : Int) + 1) := by omega
  have hii : i ≤ i + 1 := by omega
  have hic : i ≤ c := by omega
  have hi1 : i + 1 - i = 1 := by omega
  have hgg := Lib.hid hg
  have hss := Lib.hid hs
  have f1 : Hid (i * 4 + 1 * 4 ≤ cur.length) := by show _ ≤ _; rw [hs]; omega
  clear hg hs ht hl
  go_enter Try.func99, Try.ntmps99
  go_wp2_with (first
    | (at_builtin
       refine wpList_append_none Try.underlying25 infoRow rfl (.tmp 32) (.tmp 33) rfl rfl rfl hic ?_)
    | ((with_reducible refine wpList_clear_rk Try.underlying25 infoRow rfl (.tmp 43) rfl rfl hgg.out (fun _ => rfl) f1.out ?_)
       intro w5 Z hZ hg7' hgr7'
       have hg7 := Lib.hid hg7'
       have hgr7 := Lib.hid hgr7'
       have hZ' := Lib.hid hZ
       clear hg7' hgr7' hZ))
  go_ret
  have q3 := length_splice cur (i * 4) Z (by rw [hZ'.out]; exact f1.out)
  refine ⟨_, _, rfl, OwnR.mk hB hg7.out hic (by unfold maxLen; exact hc) (by rw [q3, hss.out]) ?_ ?_, hgr7.out⟩
  · rw [splice_take_lt (Nat.le_refl _) (by rw [hss.out]; omega), hd.out, List.append_nil]
    exact hfr.out
  · rw [hd.out, List.append_nil]
    exact hlt.out

set_option maxRecDepth 100000 in
set_option maxHeartbeats 2000000 in
theorem replace_cut_mid (B g c n i : Nat) (cur : List Value) (l : List RowD) (w : World) (hi : i + 1 < n) (hnc : n ≤ c) (hn : n ≤ 1000000) (hc : c ≤ maxLen) (hB : B ≤ g) (hg : RowV 68 w g cur) (hs : cur.length = c * 4) (ht : cur.take (n * 4) = cellsR l) (hl : l.length = n) :
    Calls Try.prog 99 #[.slice (some ⟨g, 0, none⟩) n c, .int .i64 i, .int .i64 ((i : Int) + 1), .slice none 0 0] w (fun e w' => ∃ q' c', e = .returned (.slice q' (n - 1) c') ∧ OwnR 68 w' B (.slice q' (n - 1) c') (l.take i ++ l.drop (i + 1)) ∧ w.grownBy w' (some g)) := by
  unfold maxLen at hc
  have hb1 : ¬ (c = i) := by omega
  have hb1' : ¬ (c = i + 1) := by omega
  have hb2 : ¬ ((i : Int) = (i : Int) + 1) := by omega
  have hb3 : ¬ ((i : Int) + 1 = (n : Int)) := by omega
  have hb4 : (i : Int) + 1 ≤ (n : Int) := by omega
  have hii : i ≤ i + 1 := by omega
  have hin : i ≤ n := by omega
  have hin1 : i + 1 ≤ n := by omega
  have hD : (cellsR (l.drop (i + 1))).length = (n - (i + 1)) * 4 := by rw [cellsR_len, List.length_drop, hl]
  have hcp : ∀ j v, (cellsR (l.drop (i + 1)))[j]? = some v → cur[(i + 1) * 4 + j]? = some v := fun j v hj => by
    rw [cellsR_drop l (i + 1) (by omega), List.getElem?_drop, ← ht, List.getElem?_take] at hj
    split at hj
    · exact hj
    · cases hj
  obtain ⟨D, hDD⟩ : ∃ D, cellsR (l.drop (i + 1)) = D := ⟨_, rfl⟩
  obtain ⟨m, hm⟩ : ∃ m, n = m + 1 := ⟨n - 1, by omega⟩
  have hfin := Lib.hid (fun (Z : List Value) => rep_cut (X := D) (Z := Z) hl (by omega) hs hnc ht hDD.symm)
  have h1D : ∀ v ∈ D, v.oneCell' = true := by rw [← hDD]; exact cellsR_one _
  rw [hDD] at hD hcp
  subst hm
  rw [show m + 1 - 1 = m by omega] at hfin ⊢
  have hD' := Lib.hid hD
  have hcp' := Lib.hid hcp
  have h1D' := Lib.hid h1D
  have hss := Lib.hid hs
  have hll := Lib.hid hl
  have hgg := Lib.hid hg
  clear hDD hD hcp h1D ht hs hl hg
  go_enter Try.func99, Try.ntmps99
  go_wp2
  have k0 : IntKind.i64.wrap (i : Int) = (i : Int) := IntWalk.i64_in _ (by omega)
  have k3 : IntKind.i64.wrap ((i : Int) + ((m + 1 - (i + 1) : Nat) : Int)) = (m : Int) := by rw [IntWalk.i64_in _ (by omega)]; omega
  have k4 : IntKind.i64.wrap ((i : Int) + ((m - i : Nat) : Int)) = (m : Int) := by rw [IntWalk.i64_in _ (by omega)]; omega
  have k1 : (0 : Int) ≤ (i : Int) + 1 := by omega
  have k2 : ((i : Int) + 1).toNat = i + 1 := by omega
  go_quiet (fail)
  clear k0 k1 k2 k3 k4
  have hnc' : ¬ ((c : Int) < (m : Int)) := by omega
  have him : i ≤ m := by omega
  have hmc : m ≤ c := by omega
  have hcm : ¬ (c = m) := by omega
  have hm1 : m + 1 - m = 1 := by omega
  have hg1 : Hid (RowV 68 (w.drewN nq) g cur) := hgg.out.block (w' := w.drewN nq) rfl
  have n1 : Hid (([] : List Value).length = Nat.min 0 (m - i) * 4) := by
    show 0 = _
    rw [show Nat.min 0 (m - i) = 0 by simp only [Nat.min_def]; split <;> omega]
  have p1 : Hid (0 < ([] : List Value).length → (some ⟨g, i * 4, none⟩ : Option Addr) = some ⟨g, i * 4, none⟩ ∧ ∃ ad, (none : Option Addr) = some ad ∧ ∀ j v, ([] : List Value)[j]? = some v → (w.drewN nq).cell? (ad.add j) = some v) := fun h => absurd h (Nat.lt_irrefl 0)
  have f1 : Hid (i * 4 + ([] : List Value).length ≤ cur.length) := by show i * 4 + 0 ≤ _; rw [hss.out]; omega
  have hsp : Hid (splice cur (i * 4) [] = cur) := by show splice cur (i * 4) [] = cur; simp [splice]
  have n2 : Hid (D.length = Nat.min (m - i) (m - i) * 4) := by
    show D.length = _
    rw [hD'.out, show Nat.min (m - i) (m - i) = m - i by simp only [Nat.min_def]; split <;> omega]
    omega
  have f2 : Hid (i * 4 + D.length ≤ cur.length) := by show _ ≤ _; rw [hss.out, hD'.out]; omega
  have q2 := Lib.hid (length_splice cur (i * 4) D f2.out)
  have f3 : Hid (m * 4 + 1 * 4 ≤ (splice cur (i * 4) D).length) := by show _ ≤ _; rw [q2.out, hss.out]; omega
  go_wp2_with (first
    | ((with_reducible refine wpList_copy_rk Try.underlying25 infoRow rfl (.tmp 95) (.tmp 96) rfl rfl rfl hg1.out n1.out p1.out f1.out (fun v hv => absurd hv List.not_mem_nil) ?_)
       intro w2 hg2 hgr2
       rw [hsp.out] at hg2
       have hg3 := Lib.hid hg2
       have hgr3 := Lib.hid hgr2
       clear hg2 hgr2))
  have k0 : IntKind.i64.wrap (i : Int) = (i : Int) := IntWalk.i64_in _ (by omega)
  have k1 : (0 : Int) ≤ (i : Int) + 1 := by omega
  have k2 : ((i : Int) + 1).toNat = i + 1 := by omega
  go_still_tail 9, (by kernel_rfl)
  change wpList _ _ _ _ _ (World.drew w2)
  clear k0 k1 k2
  have hg5 : Hid (RowV 68 w2.drew g cur) := hg3.out.block (w' := w2.drew) rfl
  have p2 : Hid (0 < D.length → (some ⟨g, i * 4, none⟩ : Option Addr) = some ⟨g, i * 4, none⟩ ∧ ∃ ad, (some ⟨g, (i + 1) * 4, none⟩ : Option Addr) = some ad ∧ ∀ j v, D[j]? = some v → w2.drew.cell? (ad.add j) = some v) := fun _ => ⟨rfl, _, rfl, hg5.out.src hcp'.out⟩
  go_wp2_with (first
    | ((with_reducible refine wpList_copy_rk Try.underlying25 infoRow rfl (.tmp 103) (.tmp 106) rfl rfl rfl hg5.out n2.out p2.out f2.out h1D'.out ?_)
       intro w4 hg6' hgr6'
       have hg6 := Lib.hid hg6'
       have hgr6 := Lib.hid hgr6'
       clear hg6' hgr6')
    | ((with_reducible refine wpList_clear_rk Try.underlying25 infoRow rfl (.tmp 110) rfl rfl hg6.out (fun _ => rfl) f3.out ?_)
       intro w5 Z hZ hg7' hgr7'
       have hg7 := Lib.hid hg7'
       have hgr7 := Lib.hid hgr7'
       have hZ' := Lib.hid hZ
       clear hg7' hgr7' hZ))
  go_ret
  have q3 := length_splice (splice cur (i * 4) D) (m * 4) Z (by rw [hZ'.out]; exact f3.out)
  refine ⟨_, _, rfl, OwnR.mk hB hg7.out hmc (by unfold maxLen; exact hc) (by rw [q3, q2.out, hss.out]) (hfin.out Z) (by simp [hll.out]; omega), ?_⟩
  exact grown_trans (below_grown (below_drewN w nq) _) (grown_trans hgr3.out (grown_trans (below_grown (below_drew w2) _) (grown_trans hgr6.out hgr7.out)))
end Go.Proofs.Ytkdkncbccofpdaa
