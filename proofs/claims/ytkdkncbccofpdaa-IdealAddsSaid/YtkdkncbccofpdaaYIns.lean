/- slices.Insert of one row into a list of the call's own. -/
import Derived.Test.YtkdkncbccofpdaaYSpl
namespace Go.Proofs.Ytkdkncbccofpdaa
open Go.RowKit

/-- a list of the call's own, opened: the block and all of its cells -/
theorem OwnR.opened {T : TypeId} {w : World} {B : Nat} {a : Addr} {n c : Nat} {l : List RowD} (h : OwnR T w B (.slice (some a) n c) l) :
    ∃ g cur, a = ⟨g, 0, none⟩ ∧ B ≤ g ∧ RowV T w g cur ∧ n ≤ c ∧ c ≤ maxLen ∧ cur.length = c * 4 ∧ cur.take (n * 4) = cellsR l := by
  have hl := h.len
  obtain ⟨hlen, ⟨he, h0⟩ | ⟨g, cap, cur, he, hg, hh, hle, hm, hs, ht⟩⟩ := h
  · simp only [Value.slice.injEq] at he; exact absurd he.1 (by simp)
  · simp only [Value.slice.injEq] at he
    obtain ⟨e1, e2, rfl⟩ := he
    cases e1
    exact ⟨g, cur.toList, rfl, hg, by unfold RowV; simpa using hh, by omega, hm, by simpa using hs, by rw [hl]; exact ht⟩
theorem OwnR.mk {T : TypeId} {w : World} {B g n c : Nat} {cur : List Value} {l : List RowD} (hB : B ≤ g) (hr : RowV T w g cur) (hn : n ≤ c) (hc : c ≤ maxLen) (hs : cur.length = c * 4) (ht : cur.take (n * 4) = cellsR l) (hl : l.length = n) : OwnR T w B (.slice (some ⟨g, 0, none⟩) n c) l := by
  subst hl
  exact ⟨cellsR_len l, .inr ⟨g, c, cur.toArray, rfl, hB, hr, hn, hc, by simpa using hs, by simpa using ht⟩⟩

theorem splice_take {cs vs : List Value} {o : Nat} (h : o + vs.length ≤ cs.length) : (splice cs o vs).take (o + vs.length) = cs.take o ++ vs := by
  unfold splice
  rw [← List.append_assoc, List.take_append_of_le_length (by simp; omega)]
  exact List.take_of_length_le (by simp; omega)
theorem splice_take_lt {cs vs : List Value} {o k : Nat} (hk : k ≤ o) (ho : o ≤ cs.length) : (splice cs o vs).take k = cs.take k := by
  unfold splice
  rw [List.take_append_of_le_length (by simp; omega), List.take_take, Nat.min_eq_left hk]
theorem cellsR_take (l : List RowD) (i : Nat) : cellsR (l.take i) = (cellsR l).take (i * 4) := by
  by_cases hi : i ≤ l.length
  · have h := cellsR_append (l.take i) (l.drop i)
    have hlen : (cellsR (l.take i)).length = i * 4 := by rw [cellsR_len, List.length_take, Nat.min_eq_left hi]
    rw [List.take_append_drop] at h
    rw [h, List.take_append_of_le_length (Nat.le_of_eq hlen.symm), List.take_of_length_le (Nat.le_of_eq hlen)]
  · have hlen : (cellsR l).length ≤ i * 4 := by rw [cellsR_len]; omega
    rw [List.take_of_length_le (show l.length ≤ i by omega), List.take_of_length_le hlen]
theorem cellsR_drop (l : List RowD) (i : Nat) (hi : i ≤ l.length) : cellsR (l.drop i) = (cellsR l).drop (i * 4) := by
  have h := cellsR_append (l.take i) (l.drop i)
  have hlen : (cellsR (l.take i)).length = i * 4 := by rw [cellsR_len, List.length_take, Nat.min_eq_left hi]
  rw [List.take_append_drop] at h
  rw [h, List.drop_append_of_le_length (Nat.le_of_eq hlen.symm), List.drop_of_length_le (Nat.le_of_eq hlen), List.nil_append]
/-- cells of a block beyond place i, as the source of a copy -/
theorem RowV.src {T : TypeId} {w : World} {g : Nat} {cur : List Value} (h : RowV T w g cur) {o : Nat} {cs : List Value} (hc : ∀ j v, cs[j]? = some v → cur[o + j]? = some v) : ∀ j v, cs[j]? = some v → w.cell? ((⟨g, o, none⟩ : Addr).add j) = some v := by
  intro j v hj
  have hadd : (⟨g, o, none⟩ : Addr).add j = ⟨g, o + j, none⟩ := by unfold Addr.add; split <;> simp_all
  rw [hadd, h.cell]
  exact hc j v hj

/-- a place more ahead of i: first what stands from i on, then the row -/
theorem ins_shift {cur : List Value} {l : List RowD} {r : RowD} {n i c : Nat} (hl : l.length = n) (hi : i ≤ n) (hs : cur.length = c * 4) (hc : n + 1 ≤ c) (ht : cur.take (n * 4) = cellsR l) :
    (splice (splice cur ((i + 1) * 4) (cellsR (l.drop i))) (i * 4) r.cells).take ((n + 1) * 4) = cellsR (l.take i ++ r :: l.drop i) := by
  have e1 : cur.take (i * 4) = cellsR (l.take i) := by
    rw [cellsR_take, ← ht, List.take_take, Nat.min_eq_left (by omega)]
  have hd : (cellsR (l.drop i)).length = (n - i) * 4 := by rw [cellsR_len, List.length_drop, hl]
  have hr : r.cells.length = 4 := rfl
  obtain ⟨D, hD⟩ : ∃ D, cellsR (l.drop i) = D := ⟨_, rfl⟩
  rw [hD] at hd
  have e2 : cellsR (l.take i ++ r :: l.drop i) = cellsR (l.take i) ++ (r.cells ++ D) := by rw [cellsR_append, ← hD]; rfl
  rw [e2, ← e1, hD]
  unfold splice
  apply List.ext_getElem?
  intro k
  simp only [List.getElem?_take, List.getElem?_append, List.getElem?_drop, List.length_take, List.length_append, List.length_drop, hd, hr, hs]
  repeat' split
  all_goals first
    | rfl
    | omega
    | (congr 1; omega)
    | (symm; apply List.getElem?_eq_none; omega)

set_option maxRecDepth 100000 in
set_option maxHeartbeats 2000000 in
theorem insert_shift (B g c n i vb : Nat) (cur : List Value) (l : List RowD) (r : RowD) (w : World) (hi : i < n) (hroom : n + 1 ≤ c) (hn : n ≤ 1000000) (hc : c ≤ maxLen) (hB : B ≤ g) (hg : RowV 68 w g cur) (hs : cur.length = c * 4) (ht : cur.take (n * 4) = cellsR l) (hl : l.length = n)
    (hv : RowV 68 w vb r.cells) (hne : vb ≠ g) :
    Calls Try.prog 100 #[.slice (some ⟨g, 0, none⟩) n c, .int .i64 i, .slice (some ⟨vb, 0, none⟩) 1 1] w (fun e w' => e = .returned (.slice (some ⟨g, 0, none⟩) (n + 1) c) ∧ OwnR 68 w' B (.slice (some ⟨g, 0, none⟩) (n + 1) c) (l.take i ++ r :: l.drop i) ∧ w.grownBy w' (some g)) := by
  unfold maxLen at hc
  have hov : ∀ lb cb, (callFunc 101 #[.slice (some ⟨vb, 0, none⟩) 1 1, .slice (some ⟨g, (i + 1) * 4, none⟩) lb cb]).run Try.prog w = .ok (.value (.bool false)) w := fun lb cb => by
    rw [run_callFunc_extern Try.func101 (by kernel_rfl) (by kernel_rfl) (by kernel_rfl) (e := Extern.SlicesOverlaps.overlaps #[25, 25] #[4]) (by kernel_rfl),
      Lib.run_overlaps_apart w 25 4 68 Try.underlying25 4 Try.sizeOf68 ⟨vb, 0, none⟩ ⟨g, (i + 1) * 4, none⟩ 1 1 lb cb hne 68 68 4 (c * 4) (by unfold RowV at hv; simp [World.shape?, hv, RowD.cells]) (by unfold RowV at hg; simp [World.shape?, hg, hs]) (by omega) (hv.free 0) (hv.free 4)]
    rfl
  have hin : i ≤ n := by omega
  have hz2 : ¬ ((i : Int) = (n : Int)) := by omega
  have hb0 : ¬ ((c : Int) < (n : Int) + 1) := by omega
  have hb1 : ¬ (c = i) := by omega
  have hb2 : ¬ (c = i + 1) := by omega
  go_enter Try.func100, Try.ntmps100
  go_wp2_with (simp only [hov])
  have k0 : IntKind.i64.wrap ((i : Int) + 1) = (i : Int) + 1 := IntWalk.i64_in _ (by omega)
  have k1 : (0 : Int) ≤ (i : Int) + 1 := by omega
  have k2 : ((i : Int) + 1).toNat = i + 1 := by omega
  have k3 : (i : Int) + 1 ≤ (n : Int) + 1 := by omega
  have k4 : (i : Int) ≤ (n : Int) + 1 := by omega
  have k5 : i ≤ n + 1 := by omega
  go_still_tail 8, (by kernel_rfl)
  change wpList _ _ _ _ _ (World.drew w)
  clear k0 k1 k2 k3 k4 k5
  have hD : (cellsR (l.drop i)).length = (n - i) * 4 := by rw [cellsR_len, List.length_drop, hl]
  have hcp : ∀ j v, (cellsR (l.drop i))[j]? = some v → cur[i * 4 + j]? = some v := fun j v hj => by
    rw [cellsR_drop l i (by omega), List.getElem?_drop, ← ht, List.getElem?_take] at hj
    split at hj
    · exact hj
    · cases hj
  have hfin := Lib.hid (ins_shift (r := r) hl hin hs hroom ht)
  obtain ⟨D, hDD⟩ : ∃ D, cellsR (l.drop i) = D := ⟨_, rfl⟩
  have h1D : ∀ v ∈ D, v.oneCell' = true := by rw [← hDD]; exact cellsR_one _
  rw [hDD] at hD hcp hfin
  have hDD' := Lib.hid hDD
  have hD' := Lib.hid hD
  have hcp' := Lib.hid hcp
  have h1D' := Lib.hid h1D
  have hht := Lib.hid ht
  have hss := Lib.hid hs
  have hll := Lib.hid hl
  have hgg := Lib.hid hg
  have hvv := Lib.hid hv
  clear hDD hD hcp h1D ht hs hl hg hv hov
  have n1 : Hid (D.length = Nat.min (n + 1 - i) (n - i) * 4) := by
    show D.length = _
    rw [hD'.out, show Nat.min (n + 1 - i) (n - i) = n - i by simp only [Nat.min_def]; split <;> omega]
  have hg1 : Hid (RowV 68 w.drew g cur) := hgg.out.block (w' := w.drew) rfl
  have p1 : Hid (0 < D.length → (some ⟨g, (i + 1) * 4, none⟩ : Option Addr) = some ⟨g, (i + 1) * 4, none⟩ ∧ ∃ ad, (some ⟨g, i * 4, none⟩ : Option Addr) = some ad ∧ ∀ j v, D[j]? = some v → w.drew.cell? (ad.add j) = some v) := fun _ => ⟨rfl, _, rfl, hg1.out.src hcp'.out⟩
  have f1 : Hid ((i + 1) * 4 + D.length ≤ cur.length) := by show _ ≤ _; rw [hD'.out, hss.out]; omega
  have q1 := Lib.hid (length_splice cur ((i + 1) * 4) D f1.out)
  have hr4 : Hid (r.cells.length = Nat.min 1 (n + 1 - i) * 4) := by
    show r.cells.length = _
    rw [show Nat.min 1 (n + 1 - i) = 1 by simp only [Nat.min_def]; split <;> omega]
    rfl
  have f2 : Hid (i * 4 + r.cells.length ≤ (splice cur ((i + 1) * 4) D).length) := by show _ ≤ _; rw [q1.out, hss.out]; show i * 4 + 4 ≤ _; omega
  go_wp2_with (first
    | ((with_reducible refine wpList_copy_rk Try.underlying25 infoRow rfl (.tmp 73) (.tmp 76) rfl rfl rfl hg1.out n1.out p1.out f1.out h1D'.out ?_)
       intro w2 hg2 hgr2
       have hg3 := Lib.hid hg2
       have hgr3 := Lib.hid hgr2
       have hv3 := Lib.hid ((hvv.out.block (w' := w.drew) rfl).kept hgr2 hne)
       have p2 : Hid (0 < r.cells.length → (some ⟨g, i * 4, none⟩ : Option Addr) = some ⟨g, i * 4, none⟩ ∧ ∃ ad, (some ⟨vb, 0, none⟩ : Option Addr) = some ad ∧ ∀ j v, r.cells[j]? = some v → w2.cell? (ad.add j) = some v) := fun _ => ⟨rfl, _, rfl, hv3.out.src (fun j v hj => by rw [Nat.zero_add]; exact hj)⟩
       clear hg2 hgr2)
    | ((with_reducible refine wpList_copy_rk Try.underlying25 infoRow rfl (.tmp 80) (.tmp 81) rfl rfl rfl hg3.out hr4.out p2.out f2.out r.one ?_)
       intro w4 hg4' hgr4'
       have hg4 := Lib.hid hg4'
       have hgr4 := Lib.hid hgr4'
       clear hg4' hgr4'))
  go_ret
  have hlen := length_splice (splice cur ((i + 1) * 4) D) (i * 4) r.cells f2.out
  refine ⟨rfl, OwnR.mk hB hg4.out hroom (by unfold maxLen; exact hc) (by rw [hlen, q1.out, hss.out]) hfin.out (by simp [hll.out]; omega), ?_⟩
  exact grown_trans (below_grown (below_drew w) _) (grown_trans hgr3.out hgr4.out)
end Go.Proofs.Ytkdkncbccofpdaa
