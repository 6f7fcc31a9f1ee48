/- Parts of the proof: slices.Insert of one row: at the end, and where there is no room; slices.Replace of one row of a list of the call's own, by another row or by none; slices.Replace of one row: the walks; spliced of row: with a row more, with a row in the place of another, without a row -/
import Derived.Test.YtkdkncbccofpdaaQ03
namespace Go.Proofs.Ytkdkncbccofpdaa
open Go.RowKit
theorem ins_grow {cs : List Value} {l : List RowD} {r : RowD} {n i c : Nat} (hl : l.length = n) (hi : i ≤ n) (hs : (cellsR (l.take i) ++ cs).length = c * 4) (hc : n + 1 ≤ c) :
 (splice (splice (cellsR (l.take i) ++ cs) (i * 4) r.cells) ((i + 1) * 4) (cellsR (l.drop i))).take ((n + 1) * 4) = cellsR (l.take i ++ r :: l.drop i) := by
 have ht : (cellsR (l.take i)).length = i * 4 := by rw [cellsR_len, List.length_take, hl, Nat.min_eq_left hi]
 have hd : (cellsR (l.drop i)).length = (n - i) * 4 := by rw [cellsR_len, List.length_drop, hl]
 have hr : r.cells.length = 4 := rfl
 have e2 : cellsR (l.take i ++ r :: l.drop i) = cellsR (l.take i) ++ (r.cells ++ cellsR (l.drop i)) := by rw [cellsR_append]; rfl
 rw [e2]
 obtain ⟨D, hD⟩ : ∃ D, cellsR (l.drop i) = D := ⟨_, rfl⟩
 obtain ⟨A, hA⟩ : ∃ A, cellsR (l.take i) = A := ⟨_, rfl⟩
 rw [hD] at hd ⊢
 rw [hA] at ht hs ⊢
 rw [List.length_append] at hs
 unfold splice
 apply List.ext_getElem?
 intro k
 simp only [List.getElem?_take, List.getElem?_append, List.getElem?_drop, List.length_take, List.length_append, List.length_drop, hd, hr, ht]
 repeat' split
 all_goals first
  | rfl
  | omega
  | (congr 1; omega)
  | (symm; apply List.getElem?_eq_none; omega)
set_option maxRecDepth 100000 in
set_option maxHeartbeats 2000000 in
theorem insert_grow (B g c n i vb : Nat) (cur : List Value) (l : List RowD) (r : RowD) (w : World) (hi : i < n) (hnc : n ≤ c) (hroom : c < n + 1) (hn : n ≤ 1000000) (hB : B ≤ w.heap.size) (hg : RowV 68 w g cur) (ht : cur.take (n * 4) = cellsR l) (hl : l.length = n)
 (hv : RowV 68 w vb r.cells) :
 Calls Try.prog 100 #[.slice (some ⟨g, 0, none⟩) n c, .int .i64 i, .slice (some ⟨vb, 0, none⟩) 1 1] w (fun e w' => ∃ q' c', e = .returned (.slice q' (n + 1) c') ∧ OwnR 68 w' B (.slice q' (n + 1) c') (l.take i ++ r :: l.drop i) ∧ Below w.heap.size w w') := by
 have hin : i ≤ n := by omega
 have hz2 : ¬ ((i : Int) = (n : Int)) := by omega
 have hb0 : (c : Int) < (n : Int) + 1 := by omega
 have hb1 : ¬ (c = i) := by omega
 have hglt := hg.lt
 have hvlt := hv.lt
 obtain ⟨k, hk⟩ : ∃ k : Nat, (n : Int) + 1 - (i : Int) = k := ⟨n + 1 - i, by omega⟩
 have hk1 : 0 < k := by omega
 have hk2 : i + k = n + 1 := by omega
 have htl : (cellsR (l.take i)).length = i * 4 := by rw [cellsR_len, List.length_take, hl, Nat.min_eq_left hin]
 have hD : (cellsR (l.drop i)).length = (n - i) * 4 := by rw [cellsR_len, List.length_drop, hl]
 have hcT : ∀ j v, (cellsR (l.take i))[j]? = some v → cur[0 + j]? = some v := fun j v hj => by
  rw [cellsR_take l i, ← ht, List.getElem?_take, List.getElem?_take] at hj
  rw [Nat.zero_add]
  split at hj
  · split at hj
    · exact hj
    · cases hj
  · cases hj
 have hcp : ∀ j v, (cellsR (l.drop i))[j]? = some v → cur[i * 4 + j]? = some v := fun j v hj => by
  rw [cellsR_drop l i (by omega), List.getElem?_drop, ← ht, List.getElem?_take] at hj
  split at hj
  · exact hj
  · cases hj
 have hfin := Lib.hid (fun cs c (hs : (cellsR (l.take i) ++ cs).length = c * 4) (hc : n + 1 ≤ c) => ins_grow (r := r) (cs := cs) hl hin hs hc)
 have hlf : Hid ((l.take i ++ r :: l.drop i).length = n + 1) := by show _ = _; simp [hl]; omega
 obtain ⟨D, hDD⟩ : ∃ D, cellsR (l.drop i) = D := ⟨_, rfl⟩
 obtain ⟨A, hAA⟩ : ∃ A, cellsR (l.take i) = A := ⟨_, rfl⟩
 obtain ⟨F, hFF⟩ : ∃ F, l.take i ++ r :: l.drop i = F := ⟨_, rfl⟩
 have h1D : ∀ v ∈ D, v.oneCell' = true := by rw [← hDD]; exact cellsR_one _
 rw [hDD] at hD hcp hfin
 rw [hAA] at htl hcT hfin
 rw [hFF] at hfin hlf ⊢
 have hD' := Lib.hid hD
 have htl' := Lib.hid htl
 have hcp' := Lib.hid hcp
 have h1D' := Lib.hid h1D
 have ho1 : Hid (∃ ad, (some ⟨g, 0, none⟩ : Option Addr) = some ad ∧ ∀ j v, A[j]? = some v → w.cell? (ad.add j) = some v) := ⟨_, rfl, hg.src hcT⟩
 have hgg := Lib.hid hg
 have hvv := Lib.hid hv
 have h40 : Hid ((i + k) * 40 ≤ 140737488355328) := by show _ ≤ _; omega
 have h41 : Hid (i + k ≤ 140737488355328) := by show _ ≤ _; omega
 have hr0 : Hid (c < i + k) := by show _ < _; omega
 have htn : Try.prog.underlying 3 = some (.int .i64) := Try.underlying3
 have n1 : Hid (r.cells.length = Nat.min 1 (n + 1 - i) * 4) := by
  show r.cells.length = _
  rw [show Nat.min 1 (n + 1 - i) = 1 by simp only [Nat.min_def]; split <;> omega]
  rfl
 have n2 : Hid (D.length = Nat.min (n - i) (n - i) * 4) := by
  show D.length = _
  rw [hD'.out, show Nat.min (n - i) (n - i) = n - i by simp only [Nat.min_def]; split <;> omega]
 clear hDD hAA hFF hD hcp h1D htl hcT ht hl hg hv
 go_enter Try.func100, Try.ntmps100
 go_wp2_with (first
  | (at_builtin
     refine wpList_append_z Try.underlying25 htn infoRow rfl rfl (.tmp 34) (.tmp 39) rfl rfl rfl (olds := A) (k := k) htl'.out ho1.out hk1 hr0.out h40.out h41.out ?_
     intro c' w1 hc1 hc2 hrow hb hlt
     rw [hk2] at hc1 ⊢
     have hq1 : ¬ (c' = i) := by omega
     have hq2 : ¬ (c' = i + 1) := by omega
     have hc3 := Lib.hid hc1
     have hc4 := Lib.hid hc2
     have hb3 := Lib.hid hb
     have hrow' := Lib.hid hrow
     clear hc1 hc2 hb hrow
     obtain ⟨cs, hrw, hsz⟩ := hrow'.out
     have hsz' := Lib.hid hsz
     have hfin' := Lib.hid (hfin.out cs c' hsz hc3.out)
     obtain ⟨R, hR⟩ : ∃ R, A ++ cs = R := ⟨_, rfl⟩
     rw [hR] at hrw hsz' hfin'
     have hg1 := Lib.hid hrw
     have hv1 := Lib.hid (hvv.out.below hb3.out)
     have hg0 := Lib.hid (hgg.out.below hb3.out)
     have f1 : Hid (i * 4 + r.cells.length ≤ R.length) := by show _ ≤ _; rw [hsz'.out]; show i * 4 + 4 ≤ _; have := hc3.out; omega
     have q1 := Lib.hid (length_splice R (i * 4) r.cells f1.out)
     have p1 : Hid (0 < r.cells.length → (some ⟨w.heap.size, i * 4, none⟩ : Option Addr) = some ⟨w.heap.size, i * 4, none⟩ ∧ ∃ ad, (some ⟨vb, 0, none⟩ : Option Addr) = some ad ∧ ∀ j v, r.cells[j]? = some v → w1.cell? (ad.add j) = some v) := fun _ => ⟨rfl, _, rfl, hv1.out.src (fun j v hj => by rw [Nat.zero_add]; exact hj)⟩
     clear hrw hsz hR hrow')
  | ((with_reducible refine wpList_copy_rk Try.underlying25 infoRow rfl (.tmp 43) (.tmp 44) rfl rfl rfl hg1.out n1.out p1.out f1.out r.one ?_)
     intro w2 hg2 hgr2
     have hg3 := Lib.hid hg2
     have hgr3 := Lib.hid hgr2
     have hg4 := Lib.hid (hg0.out.kept hgr2 (by omega))
     clear hg2 hgr2))
 have k0 : IntKind.i64.wrap ((i : Int) + 1) = (i : Int) + 1 := IntWalk.i64_in _ (by omega)
 have k1 : (0 : Int) ≤ (i : Int) + 1 := by omega
 have k2 : ((i : Int) + 1).toNat = i + 1 := by omega
 have k3 : (i : Int) + 1 ≤ (n : Int) + 1 := by omega
 go_still_tail 8, (by kernel_rfl)
 change wpList _ _ _ _ _ (World.drew w2)
 clear k0 k1 k2 k3
 have hg5 : Hid (RowV 68 w2.drew w.heap.size (splice R (i * 4) r.cells)) := hg3.out.block (w' := w2.drew) rfl
 have p2 : Hid (0 < D.length → (some ⟨w.heap.size, (i + 1) * 4, none⟩ : Option Addr) = some ⟨w.heap.size, (i + 1) * 4, none⟩ ∧ ∃ ad, (some ⟨g, i * 4, none⟩ : Option Addr) = some ad ∧ ∀ j v, D[j]? = some v → w2.drew.cell? (ad.add j) = some v) := fun _ => ⟨rfl, _, rfl, (hg4.out.block (w' := w2.drew) rfl).src hcp'.out⟩
 have f2 : Hid ((i + 1) * 4 + D.length ≤ (splice R (i * 4) r.cells).length) := by show _ ≤ _; rw [q1.out, hsz'.out, hD'.out]; have := hc3.out; omega
 go_wp2_with (first
  | ((with_reducible refine wpList_copy_rk Try.underlying25 infoRow rfl (.tmp 50) (.tmp 53) rfl rfl rfl hg5.out n2.out p2.out f2.out h1D'.out ?_)
     intro w4 hg6' hgr6'
     have hg6 := Lib.hid hg6'
     have hgr6 := Lib.hid hgr6'
     clear hg6' hgr6'))
 go_ret
 have hlen := length_splice (splice R (i * 4) r.cells) ((i + 1) * 4) D f2.out
 refine ⟨_, _, rfl, OwnR.mk hB hg6.out hc3.out hc4.out (by rw [hlen, q1.out, hsz'.out]) hfin'.out hlf.out, ?_⟩
 have hx : w1.grownBy w4 (some w.heap.size) := grown_trans hgr3.out (grown_trans (below_grown (below_drew w2) _) hgr6.out)
 exact hb3.out.grown hx hb3.out.size (fun k e => by cases e; exact Nat.le_refl _)
theorem RowV.rows1 {T : TypeId} {w : World} {g : Nat} {r : RowD} (h : RowV T w g r.cells) (hok : RowOk r) : RowsOn w (some ⟨g, 0, none⟩) 1 1 [r] :=
 ⟨rfl, Nat.le_refl _, by unfold maxLen; omega, (fun e => by cases e), fun i r' hi => by
  match i, hi with
  | 0, hi =>
    simp at hi; subst hi
    exact ⟨_, rfl, fun j x hj => by rw [Nat.zero_mul, add0]; exact h.src (o := 0) (cs := r.cells) (fun j v hj => by rw [Nat.zero_add]; exact hj) j x hj⟩
  | i + 1, hi => simp at hi, fun r' hr' => by obtain rfl := List.mem_singleton.1 hr'; exact hok⟩
set_option maxRecDepth 100000 in
set_option maxHeartbeats 2000000 in
theorem insert_end (B : Nat) (q : Option Addr) (n c vb : Nat) (l : List RowD) (r : RowD) (w : World) (hn : n ≤ 1000000) (hB : B ≤ w.heap.size) (hown : OwnR 68 w B (.slice q n c) l) (hv : RowV 68 w vb r.cells) (hok : RowOk r) :
 Calls Try.prog 100 #[.slice q n c, .int .i64 n, .slice (some ⟨vb, 0, none⟩) 1 1] w (fun e w' => ∃ q' c', e = .returned (.slice q' (n + 1) c') ∧ OwnR 68 w' B (.slice q' (n + 1) c') (l ++ [r]) ∧ w.grownBy w' (q.map (·.block))) := by
 have hr := Lib.hid (hv.rows1 hok)
 have ho := Lib.hid hown
 clear hown hv hok
 go_enter Try.func100, Try.ntmps100
 go_wp2_with (first
  | (at_builtin
     refine wpList_append_r Try.underlying25 infoRow rfl rfl (.tmp 23) (.tmp 24) rfl rfl rfl ho.out hr.out (by omega) (by omega) hB ?_
     intro q' c' w' h1 h2 h3
     have hh := Lib.hid h1
     have hg := Lib.hid h2
     clear h1 h2 h3))
 all_goals
  go_ret
  exact ⟨q', c', rfl, hh.out, hg.out⟩
/-- one row more, in whatever place -/
theorem insert_any (B : Nat) (q : Option Addr) (n c i vb : Nat) (l : List RowD) (r : RowD) (w : World) (hi : i ≤ n) (hn : n ≤ 1000000) (hB : B ≤ w.heap.size) (hown : OwnR 68 w B (.slice q n c) l) (hv : RowV 68 w vb r.cells) (hok : RowOk r) (hne : ∀ a, q = some a → vb ≠ a.block) :
 Calls Try.prog 100 #[.slice q n c, .int .i64 i, .slice (some ⟨vb, 0, none⟩) 1 1] w (fun e w' => ∃ q' c', e = .returned (.slice q' (n + 1) c') ∧ OwnR 68 w' B (.slice q' (n + 1) c') (l.take i ++ r :: l.drop i) ∧ Below B w w') := by
 have hl := hown.len
 have hfar := hown.far
 have hb : ∀ {w' : World}, w.grownBy w' (q.map (·.block)) → Below B w w' := fun hg => grown_belowN hg hB (fun k hk => by
  cases q with
  | none => cases hk
  | some a => cases hk; exact (hfar a rfl).1)
 rcases Nat.lt_or_ge i n with hlt | hge
 · cases q with
   | none =>
     obtain ⟨_, ⟨he, h0⟩ | ⟨g, cap, cur, he, _⟩⟩ := hown
     · simp only [Value.slice.injEq] at he; omega
     · simp only [Value.slice.injEq] at he; exact absurd he.1 (by simp)
   | some a =>
     obtain ⟨g, cur, rfl, hBg, hrow, hnc, hc, hs, ht⟩ := hown.opened
     by_cases hroom : n + 1 ≤ c
     · refine (insert_shift B g c n i vb cur l r w hlt hroom hn hc hBg hrow hs ht hl.symm hv (hne _ rfl)).mono ?_
       rintro e w' ⟨rfl, h1, h2⟩
       exact ⟨_, _, rfl, h1, hb h2⟩
     · refine (insert_grow B g c n i vb cur l r w hlt hnc (by omega) hn hB hrow ht hl.symm hv).mono ?_
       rintro e w' ⟨q', c', rfl, h1, h2⟩
       exact ⟨_, _, rfl, h1, h2.mono hB⟩
 · obtain rfl : i = n := by omega
   refine (insert_end B q i c vb l r w hn hB hown hv hok).mono ?_
   rintro e w' ⟨q', c', rfl, h1, h2⟩
   refine ⟨q', c', rfl, ?_, hb h2⟩
   rw [List.take_of_length_le (by omega), List.drop_of_length_le (by omega)]
   exact h1
end Go.Proofs.Ytkdkncbccofpdaa
namespace Go.Proofs.Ytkdkncbccofpdaa
open Go.RowKit
theorem one_zeros (n : Nat) : ∀ v ∈ (Builtin.zeroCells (Value.agg #[.int .i64 0, .int .u16 0, .int .i64 0, .string ⟨#[]⟩]).cells n).toList, v.oneCell' = true := by
 intro v hv
 simp only [Builtin.zeroCells, Array.toList_map, List.mem_map] at hv
 obtain ⟨i, _, rfl⟩ := hv
 have h4 : i % 4 < 4 := Nat.mod_lt _ (by decide)
 show ((Value.agg #[.int .i64 0, .int .u16 0, .int .i64 0, .string ⟨#[]⟩]).cells[i % 4]!).oneCell' = true
 match i % 4, h4 with
 | 0, _ => rfl
 | 1, _ => rfl
 | 2, _ => rfl
 | 3, _ => rfl
section
variable {P : Program} {w : World}
/-- clear of a part of a row that is known whole -/
theorem wpList_clear_rk {t e T : TypeId} (hu : P.underlying t = some (.slice e)) {bytes : Nat} (hi : (P.info? e).map (fun i => (i.zero, i.size, i.bytes)) = some (some (.agg #[.int .i64 0, .int .u16 0, .int .i64 0, .string ⟨#[]⟩]), 4, bytes))
 {ops : Array Oper} {rest : List Oper} {o : Oper} {a : Act} {Q : Exit → Act → World → Prop} (hgd : o.guard = none) (d : Operand) (ho : o.op = .call { callee := .builtin .clear, args := #[d], argTypes := #[t] })
 {dp : Option Addr} {n c : Nat} (hd : a.eval d = .slice dp n c) {g off : Nat} {cur : List Value} (hg : RowV T w g cur) (hpos : 0 < n → dp = some ⟨g, off, none⟩) (hfit : off + n * 4 ≤ cur.length)
 (h : ∀ w' cs, cs.length = n * 4 → RowV T w' g (splice cur off cs) → w.grownBy w' (some g) → wpList P ops Q rest (a.put o.dst (.tuple #[])) w') : wpList P ops Q (o :: rest) a w := by
 obtain ⟨i0, hi0, hz0, hz1, hz2⟩ := info_parts hi
 have key : ∃ w' cs, (Builtin.clear_ #[t] o.type #[.slice dp n c]).run P w = .ok (.tuple #[]) w' ∧ cs.length = n * 4 ∧ RowV T w' g (splice cur off cs) ∧ w.grownBy w' (some g) := by
  by_cases h0 : n = 0
  · subst h0
    refine ⟨w, [], ?_, rfl, by simpa [splice] using hg, ⟨rfl, rfl, rfl, Nat.le_refl _, fun _ _ _ => rfl⟩⟩
    cases dp <;> simp [Builtin.clear_, run_underlying hu]
  · obtain rfl := hpos (by omega)
    obtain ⟨m, rfl⟩ : ∃ m, n = m + 1 := ⟨n - 1, by omega⟩
    have hzl : (Builtin.zeroCells (Value.agg #[.int .i64 0, .int .u16 0, .int .i64 0, .string ⟨#[]⟩]).cells (m + 1)).toList.length = (m + 1) * 4 := by
     rw [Array.length_toList, size_zeroCells]; rfl
    have hone := one_zeros (m + 1)
    obtain ⟨Z, hZ⟩ : ∃ Z, (Builtin.zeroCells (Value.agg #[.int .i64 0, .int .u16 0, .int .i64 0, .string ⟨#[]⟩]).cells (m + 1)).toList = Z := ⟨_, rfl⟩
    rw [hZ] at hzl hone
    have hst := run_storeCells_at P g off T Z 0 cur.toArray w hg (by rw [hzl]; simpa using hfit) hone
    simp only [Nat.add_zero] at hst
    refine ⟨w.setRow g (cur.take off ++ Z ++ cur.drop (off + Z.length)).toArray, Z, ?_, hzl, ?_, setRow_grown w g _⟩
    · simp [Builtin.clear_, run_underlying hu, zeroValue, typeInfo, hi0, hz0, hZ, hst]
    · unfold RowV splice
      rw [← List.append_assoc]
      exact setRow_heap w g _ _ T _ hg
 obtain ⟨w', cs, hrun, h1, h2, h3⟩ := key
 refine wpList_plain hgd fun K hK => ?_
 unfold Oper.wp
 simp [execOp, ho, resolve, invoke, builtin, hd, hrun, Result.andThen]
 exact hK _ _ (h w' cs h1 h2 h3)
end
theorem rep_set {cur : List Value} {l : List RowD} {r : RowD} {n i c : Nat} {X : List Value} (hl : l.length = n) (hi : i < n) (hs : cur.length = c * 4) (hc : n ≤ c) (ht : cur.take (n * 4) = cellsR l) (hX : X = cellsR (l.drop (i + 1))) {Z : List Value} (hZ : Z.length = 0) :
 (splice (splice (splice cur (i * 4) r.cells) ((i + 1) * 4) X) (n * 4) Z).take (n * 4) = cellsR (l.take i ++ r :: l.drop (i + 1)) := by
 obtain rfl := List.eq_nil_of_length_eq_zero hZ
 have hd : (cellsR (l.drop (i + 1))).length = (n - (i + 1)) * 4 := by rw [cellsR_len, List.length_drop, hl]
 have e1 : cur.take (i * 4) = cellsR (l.take i) := by
  rw [cellsR_take, ← ht, List.take_take, Nat.min_eq_left (by omega)]
 have e2 : cellsR (l.take i ++ r :: l.drop (i + 1)) = cellsR (l.take i) ++ (r.cells ++ cellsR (l.drop (i + 1))) := by rw [cellsR_append]; rfl
 have hr : r.cells.length = 4 := rfl
 rw [e2, ← e1, ← hX]
 rw [← hX] at hd
 unfold splice
 apply List.ext_getElem?
 intro k
 simp only [List.getElem?_take, List.getElem?_append, List.getElem?_drop, List.length_take, List.length_append, List.length_drop, List.length_nil, hd, hr, hs]
 repeat' split
 all_goals first
  | rfl
  | omega
  | (congr 1; omega)
  | (symm; apply List.getElem?_eq_none; omega)
  | (symm; apply List.getElem?_eq_none; rw [hd]; omega)
  | (simp; omega)
theorem rep_cut {cur : List Value} {l : List RowD} {n i c : Nat} {X : List Value} (hl : l.length = n) (hi : i < n) (hs : cur.length = c * 4) (hc : n ≤ c) (ht : cur.take (n * 4) = cellsR l) (hX : X = cellsR (l.drop (i + 1))) {Z : List Value} :
 (splice (splice cur (i * 4) X) ((n - 1) * 4) Z).take ((n - 1) * 4) = cellsR (l.take i ++ l.drop (i + 1)) := by
 have hd : (cellsR (l.drop (i + 1))).length = (n - (i + 1)) * 4 := by rw [cellsR_len, List.length_drop, hl]
 have e1 : cur.take (i * 4) = cellsR (l.take i) := by
  rw [cellsR_take, ← ht, List.take_take, Nat.min_eq_left (by omega)]
 have e2 : cellsR (l.take i ++ l.drop (i + 1)) = cellsR (l.take i) ++ cellsR (l.drop (i + 1)) := cellsR_append _ _
 rw [← hX] at hd
 have hfit : i * 4 + X.length ≤ cur.length := by rw [hd, hs]; omega
 have hll := length_splice cur (i * 4) X hfit
 have e3 : (n - 1) * 4 = i * 4 + X.length := by rw [hd]; omega
 rw [splice_take_lt (Nat.le_refl _) (by rw [hll, hs]; omega), e2, ← e1, ← hX, e3, splice_take hfit]
end Go.Proofs.Ytkdkncbccofpdaa
namespace Go.Proofs.Ytkdkncbccofpdaa
open Go.RowKit
theorem OwnR.front {T : TypeId} {w : World} {B g n c i : Nat} {cur : List Value} {l : List RowD} (hB : B ≤ g) (hr : RowV T w g cur) (hn : n ≤ c) (hc : c ≤ maxLen) (hs : cur.length = c * 4) (ht : cur.take (n * 4) = cellsR l) (hl : l.length = n) (hi : i ≤ n) : OwnR T w B (.slice (some ⟨g, 0, none⟩) i c) (l.take i) :=
 OwnR.mk hB hr (by omega) hc hs (by rw [cellsR_take, ← ht, List.take_take, Nat.min_eq_left (by omega)]) (by rw [List.length_take]; omega)
set_option maxRecDepth 100000 in
set_option maxHeartbeats 2000000 in
theorem replace_set_last (B g c n i vb : Nat) (cur : List Value) (l : List RowD) (r : RowD) (w : World) (hi : i + 1 = n) (hnc : n ≤ c) (hn : n ≤ 1000000) (hc : c ≤ maxLen) (hB : B ≤ g) (hBw : B ≤ w.heap.size) (hg : RowV 68 w g cur) (hs : cur.length = c * 4) (ht : cur.take (n * 4) = cellsR l) (hl : l.length = n)
 (hv : RowV 68 w vb r.cells) (hok : RowOk r) :
 Calls Try.prog 99 #[.slice (some ⟨g, 0, none⟩) n c, .int .i64 i, .int .i64 n, .slice (some ⟨vb, 0, none⟩) 1 1] w (fun e w' => ∃ q' c', e = .returned (.slice q' n c') ∧ OwnR 68 w' B (.slice q' n c') (l.take i ++ r :: l.drop (i + 1)) ∧ w.grownBy w' (some g)) := by
 have hr := Lib.hid (hv.rows1 hok)
 have ho := Lib.hid (OwnR.front (i := i) hB hg hnc hc hs ht hl (by omega))
 have hd : Hid (l.drop (i + 1) = []) := List.drop_of_length_le (by omega)
 subst hi
 unfold maxLen at hc
 have hb1 : ¬ (c = i) := by omega
 have hb2 : ¬ ((i : Int) = (i : Int) + 1) := by omega
 have hii : i ≤ i + 1 := by omega
 have h40 : Hid ((i + 1) * 40 ≤ 140737488355328) := by show _ ≤ _; omega
 have h41 : Hid (i + 1 ≤ 140737488355328) := by show _ ≤ _; omega
 clear hg hs ht hl hv hok
 go_enter Try.func99, Try.ntmps99
 go_wp2_with (first
  | (at_builtin
     refine wpList_append_r Try.underlying25 infoRow rfl rfl (.tmp 32) (.tmp 33) rfl rfl rfl ho.out hr.out h40.out h41.out hBw ?_
     intro q' c' w' h1 h2 h3
     have hh := Lib.hid h1
     have hgr := Lib.hid h2
     clear h1 h2 h3))
 go_ret
 refine ⟨q', c', rfl, ?_, hgr.out⟩
 rw [hd.out]
 exact hh.out
set_option maxRecDepth 100000 in
set_option maxHeartbeats 2000000 in
theorem replace_set_mid (B g c n i vb : Nat) (cur : List Value) (l : List RowD) (r : RowD) (w : World) (hi : i + 1 < n) (hnc : n ≤ c) (hn : n ≤ 1000000) (hc : c ≤ maxLen) (hB : B ≤ g) (hg : RowV 68 w g cur) (hs : cur.length = c * 4) (ht : cur.take (n * 4) = cellsR l) (hl : l.length = n)
 (hv : RowV 68 w vb r.cells) :
 Calls Try.prog 99 #[.slice (some ⟨g, 0, none⟩) n c, .int .i64 i, .int .i64 ((i : Int) + 1), .slice (some ⟨vb, 0, none⟩) 1 1] w (fun e w' => ∃ q' c', e = .returned (.slice q' n c') ∧ OwnR 68 w' B (.slice q' n c') (l.take i ++ r :: l.drop (i + 1)) ∧ w.grownBy w' (some g)) := by
 unfold maxLen at hc
 have hb1 : ¬ (c = i) := by omega
 have hb1' : ¬ (c = i + 1) := by omega
 have hb2 : ¬ ((i : Int) = (i : Int) + 1) := by omega
 have hb3 : ¬ ((i : Int) + 1 = (n : Int)) := by omega
 have hb4 : (i : Int) + 1 ≤ (n : Int) := by omega
 have hii : i ≤ i + 1 := by omega
 have hin : i ≤ n := by omega
 have hin1 : i + 1 ≤ n := by omega
 have hD : (cellsR (l.drop (i + 1))).length = (n - (i + 1)) * 4 := by rw [cellsR_len, List.length_drop, hl]
 have hcp : ∀ j v, (cellsR (l.drop (i + 1)))[j]? = some v → cur[(i + 1) * 4 + j]? = some v := fun j v hj => by
  rw [cellsR_drop l (i + 1) (by omega), List.getElem?_drop, ← ht, List.getElem?_take] at hj
  split at hj
  · exact hj
  · cases hj
 obtain ⟨D, hDD⟩ : ∃ D, cellsR (l.drop (i + 1)) = D := ⟨_, rfl⟩
 have hfin := Lib.hid (fun (Z : List Value) (hZ : Z.length = 0) => rep_set (r := r) (X := D) hl (by omega) hs hnc ht hDD.symm hZ)
 have h1D : ∀ v ∈ D, v.oneCell' = true := by rw [← hDD]; exact cellsR_one _
 rw [hDD] at hD hcp
 have hD' := Lib.hid hD
 have hcp' := Lib.hid hcp
 have h1D' := Lib.hid h1D
 have hss := Lib.hid hs
 have hll := Lib.hid hl
 have hgg := Lib.hid hg
 have hvv := Lib.hid hv
 have n1 : Hid (r.cells.length = Nat.min 1 (n - i) * 4) := by
  show r.cells.length = _
  rw [show Nat.min 1 (n - i) = 1 by simp only [Nat.min_def]; split <;> omega]
  rfl
 have n2 : Hid (D.length = Nat.min (n - (i + 1)) (n - (i + 1)) * 4) := by
  show D.length = _
  rw [hD'.out, show Nat.min (n - (i + 1)) (n - (i + 1)) = n - (i + 1) by simp only [Nat.min_def]; split <;> omega]
 clear hDD hD hcp h1D ht hs hl hg hv
 go_enter Try.func99, Try.ntmps99
 go_wp2
 have k0 : IntKind.i64.wrap ((i : Int) + 1) = (i : Int) + 1 := IntWalk.i64_in _ (by omega)
 have k1 : (0 : Int) ≤ (i : Int) + 1 := by omega
 have k2 : ((i : Int) + 1).toNat = i + 1 := by omega
 have k3 : IntKind.i64.wrap ((i : Int) + 1 + ((n - (i + 1) : Nat) : Int)) = (n : Int) := by rw [IntWalk.i64_in _ (by omega)]; omega
 go_quiet (fail)
 clear k0 k1 k2 k3
 have hnc' : ¬ ((c : Int) < (n : Int)) := by omega
 have hg1 : Hid (RowV 68 (w.drewN nq) g cur) := hgg.out.block (w' := w.drewN nq) rfl
 have hv1 : Hid (RowV 68 (w.drewN nq) vb r.cells) := hvv.out.block (w' := w.drewN nq) rfl
 have p1 : Hid (0 < r.cells.length → (some ⟨g, i * 4, none⟩ : Option Addr) = some ⟨g, i * 4, none⟩ ∧ ∃ ad, (some ⟨vb, 0, none⟩ : Option Addr) = some ad ∧ ∀ j v, r.cells[j]? = some v → (w.drewN nq).cell? (ad.add j) = some v) := fun _ => ⟨rfl, _, rfl, hv1.out.src (fun j v hj => by rw [Nat.zero_add]; exact hj)⟩
 have f1 : Hid (i * 4 + r.cells.length ≤ cur.length) := by show _ ≤ _; rw [hss.out]; show i * 4 + 4 ≤ _; omega
 have q1 := Lib.hid (length_splice cur (i * 4) r.cells f1.out)
 go_wp2_with (first
  | ((with_reducible refine wpList_copy_rk Try.underlying25 infoRow rfl (.tmp 95) (.tmp 96) rfl rfl rfl hg1.out n1.out p1.out f1.out r.one ?_)
     intro w2 hg2 hgr2
     have hg3 := Lib.hid hg2
     have hgr3 := Lib.hid hgr2
     clear hg2 hgr2))
 have k0 : IntKind.i64.wrap ((i : Int) + 1) = (i : Int) + 1 := IntWalk.i64_in _ (by omega)
 have k1 : (0 : Int) ≤ (i : Int) + 1 := by omega
 have k2 : ((i : Int) + 1).toNat = i + 1 := by omega
 go_still_tail 9, (by kernel_rfl)
 change wpList _ _ _ _ _ (World.drew w2)
 clear k0 k1 k2
 have hg5 : Hid (RowV 68 w2.drew g (splice cur (i * 4) r.cells)) := hg3.out.block (w' := w2.drew) rfl
 have hcp2 : Hid (∀ j v, D[j]? = some v → (splice cur (i * 4) r.cells)[(i + 1) * 4 + j]? = some v) := fun j v hj => by
  rw [← hcp'.out j v hj]
  have hr4 : r.cells.length = 4 := rfl
  unfold splice
  rw [List.getElem?_append_right (by rw [List.length_take, hss.out]; omega), List.getElem?_append_right (by rw [List.length_take, hss.out, hr4]; omega), List.getElem?_drop, List.length_take, hss.out, hr4]
  congr 1
  omega
 have p2 : Hid (0 < D.length → (some ⟨g, (i + 1) * 4, none⟩ : Option Addr) = some ⟨g, (i + 1) * 4, none⟩ ∧ ∃ ad, (some ⟨g, (i + 1) * 4, none⟩ : Option Addr) = some ad ∧ ∀ j v, D[j]? = some v → w2.drew.cell? (ad.add j) = some v) := fun _ => ⟨rfl, _, rfl, hg5.out.src hcp2.out⟩
 have f2 : Hid ((i + 1) * 4 + D.length ≤ (splice cur (i * 4) r.cells).length) := by show _ ≤ _; rw [q1.out, hss.out, hD'.out]; omega
 have q2 := Lib.hid (length_splice (splice cur (i * 4) r.cells) ((i + 1) * 4) D f2.out)
 have f3 : Hid (n * 4 + 0 * 4 ≤ (splice (splice cur (i * 4) r.cells) ((i + 1) * 4) D).length) := by show _ ≤ _; rw [q2.out, q1.out, hss.out]; omega
 go_wp2_with (first
  | ((with_reducible refine wpList_copy_rk Try.underlying25 infoRow rfl (.tmp 103) (.tmp 106) rfl rfl rfl hg5.out n2.out p2.out f2.out h1D'.out ?_)
     intro w4 hg6' hgr6'
     have hg6 := Lib.hid hg6'
     have hgr6 := Lib.hid hgr6'
     clear hg6' hgr6')
  | ((with_reducible refine wpList_clear_rk Try.underlying25 infoRow rfl (.tmp 110) rfl rfl hg6.out (fun h => absurd h (Nat.lt_irrefl 0)) f3.out ?_)
     intro w5 Z hZ hg7' hgr7'
     have hg7 := Lib.hid hg7'
     have hgr7 := Lib.hid hgr7'
     have hZ' := Lib.hid hZ
     clear hg7' hgr7' hZ))
 all_goals
  go_ret
  have q3 := length_splice (splice (splice cur (i * 4) r.cells) ((i + 1) * 4) D) (n * 4) Z (by rw [hZ'.out]; exact f3.out)
  refine ⟨some ⟨g, 0, none⟩, c, (by first | rfl | (have e : c = n := by assumption
                                                   rw [e]; rfl)), OwnR.mk hB hg7.out hnc (by unfold maxLen; exact hc) (by rw [q3, q2.out, q1.out, hss.out]) (hfin.out Z (by rw [hZ'.out])) (by simp [hll.out]; omega), ?_⟩
  exact grown_trans (below_grown (below_drewN w nq) _) (grown_trans hgr3.out (grown_trans (below_grown (below_drew w2) _) (grown_trans hgr6.out hgr7.out)))
section
variable {P : Program} {w : World}
theorem wpList_append_none {t T : TypeId} (ht : P.underlying t = some (.slice T)) {bytes : Nat} {z : Value} (hi : (P.info? T).map (fun i => (i.zero, i.size, i.bytes)) = some (some z, 4, bytes))
 {ops : Array Oper} {rest : List Oper} {o : Oper} {a : Act} {Q : Exit → Act → World → Prop} (hgd : o.guard = none) (sl x : Operand) (ho : o.op = .call { callee := .builtin .append, args := #[sl, x], argTypes := #[t, t] })
 {ad : Addr} {n0 c0 : Nat} (hsl : a.eval sl = .slice (some ad) n0 c0) (hx : a.eval x = .slice none 0 0) (hle : n0 ≤ c0) (h : wpList P ops Q rest (a.put o.dst (.slice (some ad) n0 c0)) w) : wpList P ops Q (o :: rest) a w := by
 obtain ⟨i0, hi0, hz0, hz1, hz2⟩ := info_parts hi
 refine Lib.wpList_append_run w hgd sl x t t ho _ _ hsl hx (.slice (some ad) n0 c0) w ?_ h
 simp [Builtin.append_, run_underlying ht, sizeOf, typeInfo, hi0, Builtin.lenOf, Builtin.firstCells, hle, storeCells]
end
set_option maxRecDepth 100000 in
set_option maxHeartbeats 2000000 in
theorem replace_cut_last (B g c n i : Nat) (cur : List Value) (l : List RowD) (w : World) (hi : i + 1 = n) (hnc : n ≤ c) (hn : n ≤ 1000000) (hc : c ≤ maxLen) (hB : B ≤ g) (hg : RowV 68 w g cur) (hs : cur.length = c * 4) (ht : cur.take (n * 4) = cellsR l) (hl : l.length = n) :
 Calls Try.prog 99 #[.slice (some ⟨g, 0, none⟩) n c, .int .i64 i, .int .i64 n, .slice none 0 0] w (fun e w' => ∃ q' c', e = .returned (.slice q' i c') ∧ OwnR 68 w' B (.slice q' i c') (l.take i ++ l.drop (i + 1)) ∧ w.grownBy w' (some g)) := by
 have hd : Hid (l.drop (i + 1) = []) := List.drop_of_length_le (by omega)
 have hfr : Hid (cur.take (i * 4) = cellsR (l.take i)) := by show _ = _; rw [cellsR_take, ← ht, List.take_take, Nat.min_eq_left (by omega)]
 have hlt : Hid ((l.take i).length = i) := by show _ = _; rw [List.length_take]; omega
 subst hi
 unfold maxLen at hc
 have hb1 : ¬ (c = i) := by omega
 have hb2 : ¬ ((i : Int) = (i : Int) + 1) := by omega
 have hii : i ≤ i + 1 := by omega
 have hic : i ≤ c := by omega
 have hi1 : i + 1 - i = 1 := by omega
 have hgg := Lib.hid hg
 have hss := Lib.hid hs
 have f1 : Hid (i * 4 + 1 * 4 ≤ cur.length) := by show _ ≤ _; rw [hs]; omega
 clear hg hs ht hl
 go_enter Try.func99, Try.ntmps99
 go_wp2_with (first
  | (at_builtin
     refine wpList_append_none Try.underlying25 infoRow rfl (.tmp 32) (.tmp 33) rfl rfl rfl hic ?_)
  | ((with_reducible refine wpList_clear_rk Try.underlying25 infoRow rfl (.tmp 43) rfl rfl hgg.out (fun _ => rfl) f1.out ?_)
     intro w5 Z hZ hg7' hgr7'
     have hg7 := Lib.hid hg7'
     have hgr7 := Lib.hid hgr7'
     have hZ' := Lib.hid hZ
     clear hg7' hgr7' hZ))
 go_ret
 have q3 := length_splice cur (i * 4) Z (by rw [hZ'.out]; exact f1.out)
 refine ⟨_, _, rfl, OwnR.mk hB hg7.out hic (by unfold maxLen; exact hc) (by rw [q3, hss.out]) ?_ ?_, hgr7.out⟩
 · rw [splice_take_lt (Nat.le_refl _) (by rw [hss.out]; omega), hd.out, List.append_nil]
   exact hfr.out
 · rw [hd.out, List.append_nil]
   exact hlt.out
set_option maxRecDepth 100000 in
set_option maxHeartbeats 2000000 in
theorem replace_cut_mid (B g c n i : Nat) (cur : List Value) (l : List RowD) (w : World) (hi : i + 1 < n) (hnc : n ≤ c) (hn : n ≤ 1000000) (hc : c ≤ maxLen) (hB : B ≤ g) (hg : RowV 68 w g cur) (hs : cur.length = c * 4) (ht : cur.take (n * 4) = cellsR l) (hl : l.length = n) :
 Calls Try.prog 99 #[.slice (some ⟨g, 0, none⟩) n c, .int .i64 i, .int .i64 ((i : Int) + 1), .slice none 0 0] w (fun e w' => ∃ q' c', e = .returned (.slice q' (n - 1) c') ∧ OwnR 68 w' B (.slice q' (n - 1) c') (l.take i ++ l.drop (i + 1)) ∧ w.grownBy w' (some g)) := by
 unfold maxLen at hc
 have hb1 : ¬ (c = i) := by omega
 have hb1' : ¬ (c = i + 1) := by omega
 have hb2 : ¬ ((i : Int) = (i : Int) + 1) := by omega
 have hb3 : ¬ ((i : Int) + 1 = (n : Int)) := by omega
 have hb4 : (i : Int) + 1 ≤ (n : Int) := by omega
 have hii : i ≤ i + 1 := by omega
 have hin : i ≤ n := by omega
 have hin1 : i + 1 ≤ n := by omega
 have hD : (cellsR (l.drop (i + 1))).length = (n - (i + 1)) * 4 := by rw [cellsR_len, List.length_drop, hl]
 have hcp : ∀ j v, (cellsR (l.drop (i + 1)))[j]? = some v → cur[(i + 1) * 4 + j]? = some v := fun j v hj => by
  rw [cellsR_drop l (i + 1) (by omega), List.getElem?_drop, ← ht, List.getElem?_take] at hj
  split at hj
  · exact hj
  · cases hj
 obtain ⟨D, hDD⟩ : ∃ D, cellsR (l.drop (i + 1)) = D := ⟨_, rfl⟩
 obtain ⟨m, hm⟩ : ∃ m, n = m + 1 := ⟨n - 1, by omega⟩
 have hfin := Lib.hid (fun (Z : List Value) => rep_cut (X := D) (Z := Z) hl (by omega) hs hnc ht hDD.symm)
 have h1D : ∀ v ∈ D, v.oneCell' = true := by rw [← hDD]; exact cellsR_one _
 rw [hDD] at hD hcp
 subst hm
 rw [show m + 1 - 1 = m by omega] at hfin ⊢
 have hD' := Lib.hid hD
 have hcp' := Lib.hid hcp
 have h1D' := Lib.hid h1D
 have hss := Lib.hid hs
 have hll := Lib.hid hl
 have hgg := Lib.hid hg
 clear hDD hD hcp h1D ht hs hl hg
 go_enter Try.func99, Try.ntmps99
 go_wp2
 have k0 : IntKind.i64.wrap (i : Int) = (i : Int) := IntWalk.i64_in _ (by omega)
 have k3 : IntKind.i64.wrap ((i : Int) + ((m + 1 - (i + 1) : Nat) : Int)) = (m : Int) := by rw [IntWalk.i64_in _ (by omega)]; omega
 have k4 : IntKind.i64.wrap ((i : Int) + ((m - i : Nat) : Int)) = (m : Int) := by rw [IntWalk.i64_in _ (by omega)]; omega
 have k1 : (0 : Int) ≤ (i : Int) + 1 := by omega
 have k2 : ((i : Int) + 1).toNat = i + 1 := by omega
 go_quiet (fail)
 clear k0 k1 k2 k3 k4
 have hnc' : ¬ ((c : Int) < (m : Int)) := by omega
 have him : i ≤ m := by omega
 have hmc : m ≤ c := by omega
 have hcm : ¬ (c = m) := by omega
 have hm1 : m + 1 - m = 1 := by omega
 have hg1 : Hid (RowV 68 (w.drewN nq) g cur) := hgg.out.block (w' := w.drewN nq) rfl
 have n1 : Hid (([] : List Value).length = Nat.min 0 (m - i) * 4) := by
  show 0 = _
  rw [show Nat.min 0 (m - i) = 0 by simp only [Nat.min_def]; split <;> omega]
 have p1 : Hid (0 < ([] : List Value).length → (some ⟨g, i * 4, none⟩ : Option Addr) = some ⟨g, i * 4, none⟩ ∧ ∃ ad, (none : Option Addr) = some ad ∧ ∀ j v, ([] : List Value)[j]? = some v → (w.drewN nq).cell? (ad.add j) = some v) := fun h => absurd h (Nat.lt_irrefl 0)
 have f1 : Hid (i * 4 + ([] : List Value).length ≤ cur.length) := by show i * 4 + 0 ≤ _; rw [hss.out]; omega
 have hsp : Hid (splice cur (i * 4) [] = cur) := by show splice cur (i * 4) [] = cur; simp [splice]
 have n2 : Hid (D.length = Nat.min (m - i) (m - i) * 4) := by
  show D.length = _
  rw [hD'.out, show Nat.min (m - i) (m - i) = m - i by simp only [Nat.min_def]; split <;> omega]
  omega
 have f2 : Hid (i * 4 + D.length ≤ cur.length) := by show _ ≤ _; rw [hss.out, hD'.out]; omega
 have q2 := Lib.hid (length_splice cur (i * 4) D f2.out)
 have f3 : Hid (m * 4 + 1 * 4 ≤ (splice cur (i * 4) D).length) := by show _ ≤ _; rw [q2.out, hss.out]; omega
 go_wp2_with (first
  | ((with_reducible refine wpList_copy_rk Try.underlying25 infoRow rfl (.tmp 95) (.tmp 96) rfl rfl rfl hg1.out n1.out p1.out f1.out (fun v hv => absurd hv List.not_mem_nil) ?_)
     intro w2 hg2 hgr2
     rw [hsp.out] at hg2
     have hg3 := Lib.hid hg2
     have hgr3 := Lib.hid hgr2
     clear hg2 hgr2))
 have k0 : IntKind.i64.wrap (i : Int) = (i : Int) := IntWalk.i64_in _ (by omega)
 have k1 : (0 : Int) ≤ (i : Int) + 1 := by omega
 have k2 : ((i : Int) + 1).toNat = i + 1 := by omega
 go_still_tail 9, (by kernel_rfl)
 change wpList _ _ _ _ _ (World.drew w2)
 clear k0 k1 k2
 have hg5 : Hid (RowV 68 w2.drew g cur) := hg3.out.block (w' := w2.drew) rfl
 have p2 : Hid (0 < D.length → (some ⟨g, i * 4, none⟩ : Option Addr) = some ⟨g, i * 4, none⟩ ∧ ∃ ad, (some ⟨g, (i + 1) * 4, none⟩ : Option Addr) = some ad ∧ ∀ j v, D[j]? = some v → w2.drew.cell? (ad.add j) = some v) := fun _ => ⟨rfl, _, rfl, hg5.out.src hcp'.out⟩
 go_wp2_with (first
  | ((with_reducible refine wpList_copy_rk Try.underlying25 infoRow rfl (.tmp 103) (.tmp 106) rfl rfl rfl hg5.out n2.out p2.out f2.out h1D'.out ?_)
     intro w4 hg6' hgr6'
     have hg6 := Lib.hid hg6'
     have hgr6 := Lib.hid hgr6'
     clear hg6' hgr6')
  | ((with_reducible refine wpList_clear_rk Try.underlying25 infoRow rfl (.tmp 110) rfl rfl hg6.out (fun _ => rfl) f3.out ?_)
     intro w5 Z hZ hg7' hgr7'
     have hg7 := Lib.hid hg7'
     have hgr7 := Lib.hid hgr7'
     have hZ' := Lib.hid hZ
     clear hg7' hgr7' hZ))
 go_ret
 have q3 := length_splice (splice cur (i * 4) D) (m * 4) Z (by rw [hZ'.out]; exact f3.out)
 refine ⟨_, _, rfl, OwnR.mk hB hg7.out hmc (by unfold maxLen; exact hc) (by rw [q3, q2.out, hss.out]) (hfin.out Z) (by simp [hll.out]; omega), ?_⟩
 exact grown_trans (below_grown (below_drewN w nq) _) (grown_trans hgr3.out (grown_trans (below_grown (below_drew w2) _) (grown_trans hgr6.out hgr7.out)))
end Go.Proofs.Ytkdkncbccofpdaa
namespace Go.Proofs.Ytkdkncbccofpdaa
open Go.RowKit
theorem RowsOn.nnil {w : World} {q : Option Addr} {n c : Nat} {l : List RowD} (h : RowsOn w q n c l) (hn : 0 < n) : ∃ a, q = some a := by
 obtain ⟨a, r, ha, _⟩ := h.at hn
 exact ⟨a, ha⟩
set_option maxRecDepth 100000 in
set_option maxHeartbeats 1000000 in
theorem replace_ins (B : Nat) (q : Option Addr) (n c i vb : Nat) (l : List RowD) (r : RowD) (w : World) (hi : i ≤ n) (hn : n ≤ 1000000) (hnc : n ≤ c) (hB : B ≤ w.heap.size) (hown : OwnR 68 w B (.slice q n c) l) (hv : RowV 68 w vb r.cells) (hok : RowOk r) (hne : ∀ a, q = some a → vb ≠ a.block) :
 Calls Try.prog 99 #[.slice q n c, .int .i64 i, .int .i64 i, .slice (some ⟨vb, 0, none⟩) 1 1] w (fun e w' => ∃ q' c', e = .returned (.slice q' (n + 1) c') ∧ OwnR 68 w' B (.slice q' (n + 1) c') (l.take i ++ r :: l.drop i) ∧ Below B w w') := by
 have hins := Lib.hid (insert_any B q n c i vb l r w hi hn hB hown hv hok hne)
 have hic : i ≤ c := by omega
 clear hown hv hok hne
 go_enter Try.func99, Try.ntmps99
 go_wp2_with (go_at_call 100; refine hins.out.mono ?_; rintro e w' ⟨q', c', rfl, h1, h2⟩; have h3 := Lib.hid h1; have h4 := Lib.hid h2; clear h1 h2)
 all_goals
  go_ret
  exact ⟨q', c', rfl, h3.out, h4.out⟩
theorem rows_ok {l : List RowD} {r : RowD} {i j : Nat} (h : ∀ x ∈ l, RowOk x) (hr : RowOk r) : ∀ x ∈ l.take i ++ r :: l.drop j, RowOk x := fun x hx => by
 rcases List.mem_append.1 hx with hx | hx
 · exact h x (List.mem_of_mem_take hx)
 · rcases List.mem_cons.1 hx with rfl | hx
   · exact hr
   · exact h x (List.mem_of_mem_drop hx)
set_option maxRecDepth 100000 in
set_option maxHeartbeats 1000000 in
theorem spliced_ins (q : Option Addr) (n c i vb : Nat) (l : List RowD) (r : RowD) (w : World) (hr : RowsOn w q n c l) (hi : i ≤ n) (hn : n ≤ 1000000) (hv : RowV 68 w vb r.cells) (hok : RowOk r) :
 Calls Try.prog 95 #[.slice q n c, .int .i64 i, .int .i64 i, .slice (some ⟨vb, 0, none⟩) 1 1] w (fun e w' => ∃ q' c', e = .returned (.slice q' (n + 1) c') ∧ RowsOn w' q' (n + 1) c' (l.take i ++ r :: l.drop i) ∧ Below w.heap.size w w' ∧ OwnR 68 w' w.heap.size (.slice q' (n + 1) c') (l.take i ++ r :: l.drop i)) := by
 have hcl := Lib.hid (clone_any q n c l w hr hn)
 have hlt := hv.lt
 have hvv := Lib.hid hv
 have hall := Lib.hid hr.ok
 have hok' := Lib.hid hok
 clear hr hv hok
 go_enter Try.func95, Try.ntmps95
 go_wp2_with (first
  | (go_at_call 34
     refine hcl.out.mono ?_
     rintro e w1 ⟨q1, c1, rfl, h1, h2⟩
     have ho := Lib.hid h1
     have hb := Lib.hid h2
     have hR := Lib.hid (h1.reads hall.out)
     clear h1 h2)
  | (go_at_call 99
     refine (replace_ins w.heap.size q1 n c1 i vb l r w1 hi hn hR.out.le hb.out.size ho.out (hvv.out.below hb.out) hok'.out (fun a ha e => by have := (ho.out.far a ha).1; omega)).mono ?_
     rintro e w2 ⟨q2, c2, rfl, h1, h2⟩
     have ho2 := Lib.hid h1
     have hb2 := Lib.hid h2
     clear h1 h2))
 go_ret
 exact ⟨q2, c2, rfl, ho2.out.reads (rows_ok hall.out hok'.out), hb.out.trans hb2.out, ho2.out⟩
set_option maxRecDepth 100000 in
set_option maxHeartbeats 1000000 in
theorem spliced_set (q : Option Addr) (n c i vb : Nat) (l : List RowD) (r : RowD) (w : World) (hr : RowsOn w q n c l) (hi : i < n) (hn : n ≤ 1000000) (hv : RowV 68 w vb r.cells) (hok : RowOk r) :
 Calls Try.prog 95 #[.slice q n c, .int .i64 i, .int .i64 ((i : Int) + 1), .slice (some ⟨vb, 0, none⟩) 1 1] w (fun e w' => ∃ q' c', e = .returned (.slice q' n c') ∧ RowsOn w' q' n c' (l.take i ++ r :: l.drop (i + 1)) ∧ Below w.heap.size w w' ∧ OwnR 68 w' w.heap.size (.slice q' n c') (l.take i ++ r :: l.drop (i + 1))) := by
 have hcl := Lib.hid (clone_any q n c l w hr hn)
 have hlt := hv.lt
 have hvv := Lib.hid hv
 have hll := Lib.hid hr.len
 have hall := Lib.hid hr.ok
 have hok' := Lib.hid hok
 clear hr hv hok
 go_enter Try.func95, Try.ntmps95
 go_wp2_with (first
  | (go_at_call 34
     refine hcl.out.mono ?_
     rintro e w1 ⟨q1, c1, rfl, h1, h2⟩
     have ho := Lib.hid h1
     have hb := Lib.hid h2
     have hR := Lib.hid (h1.reads hall.out)
     clear h1 h2)
  | (go_at_call 99
     have hex : Calls Try.prog 99 #[.slice q1 n c1, .int .i64 i, .int .i64 ((i : Int) + 1), .slice (some ⟨vb, 0, none⟩) 1 1] w1 (fun e w' => ∃ q' c', e = .returned (.slice q' n c') ∧ OwnR 68 w' w.heap.size (.slice q' n c') (l.take i ++ r :: l.drop (i + 1)) ∧ Below w.heap.size w1 w') := by
      obtain ⟨a, ha⟩ := hR.out.nnil (by omega)
      subst ha
      obtain ⟨g, cur, rfl, hBg, hrow, hnc, hc, hs, ht⟩ := ho.out.opened
      have hfin : ∀ e w', (∃ q' c', e = Ending.returned (.slice q' n c') ∧ OwnR 68 w' w.heap.size (.slice q' n c') (l.take i ++ r :: l.drop (i + 1)) ∧ w1.grownBy w' (some g)) → ∃ q' c', e = Ending.returned (.slice q' n c') ∧ OwnR 68 w' w.heap.size (.slice q' n c') (l.take i ++ r :: l.drop (i + 1)) ∧ Below w.heap.size w1 w' := by
       rintro e w' ⟨q', c', h1, h2, h3⟩
       exact ⟨q', c', h1, h2, grown_belowN h3 hb.out.size (fun k hk => by cases hk; exact hBg)⟩
      by_cases hl : i + 1 = n
      · have h := replace_set_last w.heap.size g c1 n i vb cur l r w1 hl hnc hn hc hBg hb.out.size hrow hs ht hll.out (hvv.out.below hb.out) hok'.out
        rw [show ((i : Int) + 1) = (n : Int) by omega]
        exact h.mono hfin
      · exact (replace_set_mid w.heap.size g c1 n i vb cur l r w1 (by omega) hnc hn hc hBg hrow hs ht hll.out (hvv.out.below hb.out)).mono hfin
     refine hex.mono ?_
     clear hex
     rintro e w2 ⟨q2, c2, rfl, h1, h2⟩
     have ho2 := Lib.hid h1
     have hb2 := Lib.hid h2
     clear h1 h2))
 go_ret
 exact ⟨q2, c2, rfl, ho2.out.reads (rows_ok hall.out hok'.out), hb.out.trans hb2.out, ho2.out⟩
set_option maxRecDepth 100000 in
set_option maxHeartbeats 1000000 in
theorem spliced_cut (q : Option Addr) (n c i : Nat) (l : List RowD) (w : World) (hr : RowsOn w q n c l) (hi : i < n) (hn : n ≤ 1000000) :
 Calls Try.prog 95 #[.slice q n c, .int .i64 i, .int .i64 ((i : Int) + 1), .slice none 0 0] w (fun e w' => ∃ q' c', e = .returned (.slice q' (n - 1) c') ∧ RowsOn w' q' (n - 1) c' (l.take i ++ l.drop (i + 1)) ∧ Below w.heap.size w w' ∧ (∀ a, q' = some a → w.heap.size ≤ a.block) ∧ OwnR 68 w' w.heap.size (.slice q' (n - 1) c') (l.take i ++ l.drop (i + 1))) := by
 have hcl := Lib.hid (clone_any q n c l w hr hn)
 have hll := Lib.hid hr.len
 have hall := Lib.hid hr.ok
 clear hr
 go_enter Try.func95, Try.ntmps95
 go_wp2_with (first
  | (go_at_call 34
     refine hcl.out.mono ?_
     rintro e w1 ⟨q1, c1, rfl, h1, h2⟩
     have ho := Lib.hid h1
     have hb := Lib.hid h2
     have hR := Lib.hid (h1.reads hall.out)
     clear h1 h2)
  | (go_at_call 99
     have hex : Calls Try.prog 99 #[.slice q1 n c1, .int .i64 i, .int .i64 ((i : Int) + 1), .slice none 0 0] w1 (fun e w' => ∃ q' c', e = .returned (.slice q' (n - 1) c') ∧ OwnR 68 w' w.heap.size (.slice q' (n - 1) c') (l.take i ++ l.drop (i + 1)) ∧ Below w.heap.size w1 w') := by
      obtain ⟨a, ha⟩ := hR.out.nnil (by omega)
      subst ha
      obtain ⟨g, cur, rfl, hBg, hrow, hnc, hc, hs, ht⟩ := ho.out.opened
      have hfin : ∀ e w', (∃ q' c', e = Ending.returned (.slice q' (n - 1) c') ∧ OwnR 68 w' w.heap.size (.slice q' (n - 1) c') (l.take i ++ l.drop (i + 1)) ∧ w1.grownBy w' (some g)) → ∃ q' c', e = Ending.returned (.slice q' (n - 1) c') ∧ OwnR 68 w' w.heap.size (.slice q' (n - 1) c') (l.take i ++ l.drop (i + 1)) ∧ Below w.heap.size w1 w' := by
       rintro e w' ⟨q', c', h1, h2, h3⟩
       exact ⟨q', c', h1, h2, grown_belowN h3 hb.out.size (fun k hk => by cases hk; exact hBg)⟩
      by_cases hl : i + 1 = n
      · have h := replace_cut_last w.heap.size g c1 n i cur l w1 hl hnc hn hc hBg hrow hs ht hll.out
        rw [show ((i : Int) + 1) = (n : Int) by omega]
        rw [show i = n - 1 by omega] at h hfin ⊢
        exact h.mono hfin
      · exact (replace_cut_mid w.heap.size g c1 n i cur l w1 (by omega) hnc hn hc hBg hrow hs ht hll.out).mono hfin
     refine hex.mono ?_
     clear hex
     rintro e w2 ⟨q2, c2, rfl, h1, h2⟩
     have ho2 := Lib.hid h1
     have hb2 := Lib.hid h2
     clear h1 h2))
 go_ret
 exact ⟨q2, c2, rfl, ho2.out.reads (fun x hx => by
  rcases List.mem_append.1 hx with hx | hx
  · exact hall.out x (List.mem_of_mem_take hx)
  · exact hall.out x (List.mem_of_mem_drop hx)), hb.out.trans hb2.out, fun a ha => (ho2.out.far a ha).1, ho2.out⟩
end Go.Proofs.Ytkdkncbccofpdaa
