/- slices.Insert of one row: at the end, and where there is no room. -/
import Derived.Test.YtkdkncbccofpdaaYIns
namespace Go.Proofs.Ytkdkncbccofpdaa
open Go.RowKit

theorem ins_grow {cs : List Value} {l : List RowD} {r : RowD} {n i c : Nat} (hl : l.length = n) (hi : i ≤ n) (hs : (cellsR (l.take i) ++ cs).length = c * 4) (hc : n + 1 ≤ c) :
    (splice (splice (cellsR (l.take i) ++ cs) (i * 4) r.cells) ((i + 1) * 4) (cellsR (l.drop i))).take ((n + 1) * 4) = cellsR (l.take i ++ r :: l.drop i) := by
  have ht : (cellsR (l.take i)).length = i * 4 := by rw [cellsR_len, List.length_take, hl, Nat.min_eq_left hi]
  have hd : (cellsR (l.drop i)).length = (n - i) * 4 := by rw [cellsR_len, List.length_drop, hl]
  have hr : r.cells.length = 4 := rfl
  have e2 : cellsR (l.take i ++ r :: l.drop i) = cellsR (l.take i) ++ (r.cells ++ cellsR (l.drop i)) := by rw [cellsR_append]; rfl
  rw [e2]
  obtain ⟨D, hD⟩ : ∃ D, cellsR (l.drop i) = D := ⟨_, rfl⟩
  obtain ⟨A, hA⟩ : ∃ A, cellsR (l.take i) = A := ⟨_, rfl⟩
  rw [hD] at hd ⊢
  rw [hA] at ht hs ⊢
  rw [List.length_append] at hs
  unfold splice
  apply List.ext_getElem?
  intro k
  simp only [List.getElem?_take, List.getElem?_append, List.getElem?_drop, List.length_take, List.length_append, List.length_drop, hd, hr, ht]
  repeat' split
  all_goals first
    | rfl
    | omega
    | (congr 1; omega)
    | (symm; apply List.getElem?_eq_none; omega)

set_option maxRecDepth 100000 in
set_option maxHeartbeats 2000000 in
theorem insert_grow (B g c n i vb : Nat) (cur : List Value) (l : List RowD) (r : RowD) (w : World) (hi : i < n) (hnc : n ≤ c) (hroom : c < n + 1) (hn : n ≤ 1000000) (hB : B ≤ w.heap.size) (hg : RowV 68 w g cur) (ht : cur.take (n * 4) = cellsR l) (hl : l.length = n)
    (hv : RowV 68 w vb r.cells) :
    Calls Try.prog 100 #[.slice (some ⟨g, 0, none⟩) n c, .int .i64 i, .slice (some ⟨vb, 0, none⟩) 1 1] w (fun e w' => ∃ q' c', e = .returned (.slice q' (n + 1) c') ∧ OwnR 68 w' B (.slice q' (n + 1) c') (l.take i ++ r :: l.drop i) ∧ Below w.heap.size w w') := by
  have hin : i ≤ n := by omega
  have hz2 : ¬ ((i : Int) = (n : Int)) := by omega
  have hb0 : (c : Int) < (n : Int) + 1 := by omega
  have hb1 : ¬ (c = i) := by omega
  have hglt := hg.lt
  have hvlt := hv.lt
  obtain ⟨k, hk⟩ : ∃ k : Nat, (n : Int) + 1 - (i : Int) = k := ⟨n + 1 - i, by omega⟩
  have hk1 : 0 < k := by omega
  have hk2 : i + k = n + 1 := by omega
  have htl : (cellsR (l.take i)).length = i * 4 := by rw [cellsR_len, List.length_take, hl, Nat.min_eq_left hin]
  have hD : (cellsR (l.drop i)).length = (n - i) * 4 := by rw [cellsR_len, List.length_drop, hl]
  have hcT : ∀ j v, (cellsR (l.take i))[j]? = some v → cur[0 + j]? = some v := fun j v hj => by
    rw [cellsR_take l i, ← ht, List.getElem?_take, List.getElem?_take] at hj
    rw [Nat.zero_add]
    split at hj
    · split at hj
      · exact hj
      · cases hj
    · cases hj
  have hcp : ∀ j v, (cellsR (l.drop i))[j]? = some v → cur[i * 4 + j]? = some v := fun j v hj => by
    rw [cellsR_drop l i (by omega), List.getElem?_drop, ← ht, List.getElem?_take] at hj
    split at hj
    · exact hj
    · cases hj
  have hfin := Lib.hid (fun cs c (hs : (cellsR (l.take i) ++ cs).length = c * 4) (hc : n + 1 ≤ c) => ins_grow (r := r) (cs := cs) hl hin hs hc)
  have hlf : Hid ((l.take i ++ r :: l.drop i).length = n + 1) := by show _ = _; simp [hl]; omega
  obtain ⟨D, hDD⟩ : ∃ D, cellsR (l.drop i) = D := ⟨_, rfl⟩
  obtain ⟨A, hAA⟩ : ∃ A, cellsR (l.take i) = A := ⟨_, rfl⟩
  obtain ⟨F, hFF⟩ : ∃ F, l.take i ++ r :: l.drop i = F := ⟨_, rfl⟩
  have h1D : ∀ v ∈ D, v.oneCell' = true := by rw [← hDD]; exact cellsR_one _
  rw [hDD] at hD hcp hfin
  rw [hAA] at htl hcT hfin
  rw [hFF] at hfin hlf ⊢
  have hD' := Lib.hid hD
  have htl' := Lib.hid htl
  have hcp' := Lib.hid hcp
  have h1D' := Lib.hid h1D
  have ho1 : Hid (∃ ad, (some ⟨g, 0, none⟩ : Option Addr) = some ad ∧ ∀ j v, A[j]? = some v → w.cell? (ad.add j) = some v) := ⟨_, rfl, hg.src hcT⟩
  have hgg := Lib.hid hg
  have hvv := Lib.hid hv
  have h40 : Hid ((i + k) * 40 ≤ 140737488355328) := by show _ ≤ _; omega
  have h41 : Hid (i + k ≤ 140737488355328) := by show _ ≤ _; omega
  have hr0 : Hid (c < i + k) := by show _ < _; omega
  have htn : Try.prog.underlying 3 = some (.int .i64) := Try.underlying3
  have n1 : Hid (r.cells.length = Nat.min 1 (n + 1 - i) * 4) := by
    show r.cells.length = _
    rw [show Nat.min 1 (n + 1 - i) = 1 by simp only [Nat.min_def]; split <;> omega]
    rfl
  have n2 : Hid (D.length = Nat.min (n - i) (n - i) * 4) := by
    show D.length = _
    rw [hD'.out, show Nat.min (n - i) (n - i) = n - i by simp only [Nat.min_def]; split <;> omega]
  clear hDD hAA hFF hD hcp h1D htl hcT ht hl hg hv
  go_enter Try.func100, Try.ntmps100
  go_wp2_with (first
    | (at_builtin
       refine wpList_append_z Try.underlying25 htn infoRow rfl rfl (.tmp 34) (.tmp 39) rfl rfl rfl (olds := A) (k := k) htl'.out ho1.out hk1 hr0.out h40.out h41.out ?_
       intro c' w1 hc1 hc2 hrow hb hlt
       rw [hk2] at hc1 ⊢
       have hq1 : ¬ (c' = i) := by omega
       have hq2 : ¬ (c' = i + 1) := by omega
       have hc3 := Lib.hid hc1
       have hc4 := Lib.hid hc2
       have hb3 := Lib.hid hb
       have hrow' := Lib.hid hrow
       clear hc1 hc2 hb hrow
       obtain ⟨cs, hrw, hsz⟩ := hrow'.out
       have hsz' := Lib.hid hsz
       have hfin' := Lib.hid (hfin.out cs c' hsz hc3.out)
       obtain ⟨R, hR⟩ : ∃ R, A ++ cs = R := ⟨_, rfl⟩
       rw [hR] at hrw hsz' hfin'
       have hg1 := Lib.hid hrw
       have hv1 := Lib.hid (hvv.out.below hb3.out)
       have hg0 := Lib.hid (hgg.out.below hb3.out)
       have f1 : Hid (i * 4 + r.cells.length ≤ R.length) := by show _ ≤ _; rw [hsz'.out]; show i * 4 + 4 ≤ _; have := hc3.out; omega
       have q1 := Lib.hid (length_splice R (i * 4) r.cells f1.out)
       have p1 : Hid (0 < r.cells.length → (some ⟨w.heap.size, i * 4, none⟩ : Option Addr) = some ⟨w.heap.size, i * 4, none⟩ ∧ ∃ ad, (some ⟨vb, 0, none⟩ : Option Addr) = some ad ∧ ∀ j v, r.cells[j]? = some v → w1.cell? (ad.add j) = some v) := fun _ => ⟨rfl, _, rfl, hv1.out.src (fun j v hj => by rw [Nat.zero_add]; exact hj)⟩
       clear hrw hsz hR hrow')
    | ((with_reducible refine wpList_copy_rk Try.underlying25 infoRow rfl (.tmp 43) (.tmp 44) rfl rfl rfl hg1.out n1.out p1.out f1.out r.one ?_)
       intro w2 hg2 hgr2
       have hg3 := Lib.hid hg2
       have hgr3 := Lib.hid hgr2
       have hg4 := Lib.hid (hg0.out.kept hgr2 (by omega))
       clear hg2 hgr2))
  have k0 : IntKind.i64.wrap ((i : Int) + 1) = (i : Int) + 1 := IntWalk.i64_in _ (by omega)
  have k1 : (0 : Int) ≤ (i : Int) + 1 := by omega
  have k2 : ((i : Int) + 1).toNat = i + 1 := by omega
  have k3 : (i : Int) + 1 ≤ (n : Int) + 1 := by omega
  go_still_tail 8, (by kernel_rfl)
  change wpList _ _ _ _ _ (World.drew w2)
  clear k0 k1 k2 k3
  have hg5 : Hid (RowV 68 w2.drew w.heap.size (splice R (i * 4) r.cells)) := hg3.out.block (w' := w2.drew) rfl
  have p2 : Hid (0 < D.length → (some ⟨w.heap.size, (i + 1) * 4, none⟩ : Option Addr) = some ⟨w.heap.size, (i + 1) * 4, none⟩ ∧ ∃ ad, (some ⟨g, i * 4, none⟩ : Option Addr) = some ad ∧ ∀ j v, D[j]? = some v → w2.drew.cell? (ad.add j) = some v) := fun _ => ⟨rfl, _, rfl, (hg4.out.block (w' := w2.drew) rfl).src hcp'.out⟩
  have f2 : Hid ((i + 1) * 4 + D.length ≤ (splice R (i * 4) r.cells).length) := by show _ ≤ _; rw [q1.out, hsz'.out, hD'.out]; have := hc3.out; omega
  go_wp2_with (first
    | ((with_reducible refine wpList_copy_rk Try.underlying25 infoRow rfl (.tmp 50) (.tmp 53) rfl rfl rfl hg5.out n2.out p2.out f2.out h1D'.out ?_)
       intro w4 hg6' hgr6'
       have hg6 := Lib.hid hg6'
       have hgr6 := Lib.hid hgr6'
       clear hg6' hgr6'))
  go_ret
  have hlen := length_splice (splice R (i * 4) r.cells) ((i + 1) * 4) D f2.out
  refine ⟨_, _, rfl, OwnR.mk hB hg6.out hc3.out hc4.out (by rw [hlen, q1.out, hsz'.out]) hfin'.out hlf.out, ?_⟩
  have hx : w1.grownBy w4 (some w.heap.size) := grown_trans hgr3.out (grown_trans (below_grown (below_drew w2) _) hgr6.out)
  exact hb3.out.grown hx hb3.out.size (fun k e => by cases e; exact Nat.le_refl _)

theorem RowV.rows1 {T : TypeId} {w : World} {g : Nat} {r : RowD} (h : RowV T w g r.cells) (hok : RowOk r) : RowsOn w (some ⟨g, 0, none⟩) 1 1 [r] :=
  ⟨rfl, Nat.le_refl _, by unfold maxLen; omega, (fun e => by cases e), fun i r' hi => by
    match i, hi with
    | 0, hi =>
      simp at hi; subst hi
      exact ⟨_, rfl, fun j x hj => by rw [Nat.zero_mul, add0]; exact h.src (o := 0) (cs := r.cells) (fun j v hj => by rw [Nat.zero_add]; exact hj) j x hj⟩
    | i + 1, hi => simp at hi, fun r' hr' => by obtain rfl := List.mem_singleton.1 hr'; exact hok⟩

set_option maxRecDepth 100000 in
set_option maxHeartbeats 2000000 in
theorem insert_end (B : Nat) (q : Option Addr) (n c vb : Nat) (l : List RowD) (r : RowD) (w : World) (hn : n ≤ 1000000) (hB : B ≤ w.heap.size) (hown : OwnR 68 w B (.slice q n c) l) (hv : RowV 68 w vb r.cells) (hok : RowOk r) :
    Calls Try.prog 100 #[.slice q n c, .int .i64 n, .slice (some ⟨vb, 0, none⟩) 1 1] w (fun e w' => ∃ q' c', e = .returned (.slice q' (n + 1) c') ∧ OwnR 68 w' B (.slice q' (n + 1) c') (l ++ [r]) ∧ w.grownBy w' (q.map (·.block))) := by
  have hr := Lib.hid (hv.rows1 hok)
  have ho := Lib.hid hown
  clear hown hv hok
  go_enter Try.func100, Try.ntmps100
  go_wp2_with (first
    | (at_builtin
       refine wpList_append_r Try.underlying25 infoRow rfl rfl (.tmp 23) (.tmp 24) rfl rfl rfl ho.out hr.out (by omega) (by omega) hB ?_
       intro q' c' w' h1 h2 h3
       have hh := Lib.hid h1
       have hg := Lib.hid h2
       clear h1 h2 h3))
  all_goals
    go_ret
    exact ⟨q', c', rfl, hh.out, hg.out⟩

/-- one row more, in whatever place -/
theorem insert_any (B : Nat) (q : Option Addr) (n c i vb : Nat) (l : List RowD) (r : RowD) (w : World) (hi : i ≤ n) (hn : n ≤ 1000000) (hB : B ≤ w.heap.size) (hown : OwnR 68 w B (.slice q n c) l) (hv : RowV 68 w vb r.cells) (hok : RowOk r) (hne : ∀ a, q = some a → vb ≠ a.block) :
    Calls Try.prog 100 #[.slice q n c, .int .i64 i, .slice (some ⟨vb, 0, none⟩) 1 1] w (fun e w' => ∃ q' c', e = .returned (.slice q' (n + 1) c') ∧ OwnR 68 w' B (.slice q' (n + 1) c') (l.take i ++ r :: l.drop i) ∧ Below B w w') := by
  have hl := hown.len
  have hfar := hown.far
  have hb : ∀ {w' : World}, w.grownBy w' (q.map (·.block)) → Below B w w' := fun hg => grown_belowN hg hB (fun k hk => by
    cases q with
    | none => cases hk
    | some a => cases hk; exact (hfar a rfl).1)
  rcases Nat.lt_or_ge i n with hlt | hge
  · cases q with
    | none =>
      obtain ⟨_, ⟨he, h0⟩ | ⟨g, cap, cur, he, _⟩⟩ := hown
      · simp only [Value.slice.injEq] at he; omega
      · simp only [Value.slice.injEq] at he; exact absurd he.1 (by simp)
    | some a =>
      obtain ⟨g, cur, rfl, hBg, hrow, hnc, hc, hs, ht⟩ := hown.opened
      by_cases hroom : n + 1 ≤ c
      · refine (insert_shift B g c n i vb cur l r w hlt hroom hn hc hBg hrow hs ht hl.symm hv (hne _ rfl)).mono ?_
        rintro e w' ⟨rfl, h1, h2⟩
        exact ⟨_, _, rfl, h1, hb h2⟩
      · refine (insert_grow B g c n i vb cur l r w hlt hnc (by omega) hn hB hrow ht hl.symm hv).mono ?_
        rintro e w' ⟨q', c', rfl, h1, h2⟩
        exact ⟨_, _, rfl, h1, h2.mono hB⟩
  · obtain rfl : i = n := by omega
    refine (insert_end B q i c vb l r w hn hB hown hv hok).mono ?_
    rintro e w' ⟨q', c', rfl, h1, h2⟩
    refine ⟨q', c', rfl, ?_, hb h2⟩
    rw [List.take_of_length_le (by omega), List.drop_of_length_le (by omega)]
    exact h1
end Go.Proofs.Ytkdkncbccofpdaa
