/- RowBack: for every schema and two lists of rows the law returns true, and its arguments read as they did. No condition. -/
import Derived.Test.YtcnkelpnoahapaaYMth
namespace Go.Proofs.Ytcnkelpnoahapaa
open Go.ChangeShapes Go.WideShapes Go.ChangeAt Go.RowKit

theorem neq_self (r : RowD) (u : World) : (binOp .neq 38 (.agg #[.int .i64 r.key.t, .int .u16 r.key.id, .int .i64 r.val, .string r.note]) (.agg #[.int .i64 r.key.t, .int .u16 r.key.id, .int .i64 r.val, .string r.note])).run Try.prog u = .ok (.bool false) u := by
  rw [neq_row, eqR_iff.2 rfl]; rfl

structure BakRel (W wr : World) (bs : List BdD) (q0 : Option Addr) (n0 c0 : Nat) : Prop where
  up : Below W.heap.size W wr
  ex : ∃ L, RowsOn wr q0 n0 c0 L ∧ okL bs L = true

set_option maxRecDepth 100000 in
set_option maxHeartbeats 4000000 in
theorem back_any (q : Option Addr) (n c : Nat) (bs : List BdD) (lq : Option Addr) (ln lc : Nat) (l : List RowD) (mq : Option Addr) (mn mc : Nat) (m : List RowD) (w : World) (h : SchOn w q n c bs) (hr : RowsOn w lq ln lc l) (hr2 : RowsOn w mq mn mc m) :
    Calls Try.prog 6 #[.agg #[.slice q n c], .slice lq ln lc, .slice mq mn mc] w (fun e w' => e = .returned (.bool true) ∧ Below w.heap.size w w') := by
  obtain ⟨W, hW⟩ : ∃ W, w.alloc (.cells #[.slice q n c] 24) = W := ⟨_, rfl⟩
  have hbx := Lib.hid (one_box (xs := [.slice q n c]) hW)
  have hs1 := sizeSch q n c
  have hnm := Nat.le_trans h.le h.cap
  have hsc := Lib.hid (h.below hbx.out.1 (Nat.le_refl _))
  have hrr := Lib.hid (hr.below hbx.out.1 (Nat.le_refl _))
  have hmm := Lib.hid (hr2.below hbx.out.1 (Nat.le_refl _))
  clear h hr hr2
  go_enter Try.func6, Try.ntmps6
  go_wp2_with fail
  refine (wakes_any _).mono ?_
  rintro e w1 ⟨rfl, hb1⟩
  have hd1 := Lib.hid hb1
  have e1 := Lib.hid (hbx.out.2.1.below hb1 (Nat.le_refl _))
  clear hb1
  go_wp2_with (first
    | (with_reducible refine wpList_load_at rfl 24 (.tmp 3) rfl Try.underlying24 rfl hs1 rfl e1.out.all ?_))
  refine (over_any q n c lq ln lc l w1 hnm (hrr.out.below hd1.out (Nat.le_refl _))).mono ?_
  rintro e w2 ⟨b, rfl, hbd, hb2⟩
  have hbd' := Lib.hid hbd
  have hd2 := Lib.hid (hd1.out.trans (hb2.mono hd1.out.size))
  have e2 := (e1.out.below hb2 (Nat.le_refl _)).cell 0 rfl
  clear hbd hb2 hW
  cases b with
  | true =>
    go_wp2
    go_ret
    exact ⟨rfl, hbx.out.1.trans (hd2.out.mono hbx.out.1.size)⟩
  | false =>
    have hl100 : ln ≤ 100 := (hbd'.out rfl).2
    go_wp2_with fail
    refine (over_any q n c mq mn mc m w2 hnm (hmm.out.below hd2.out (Nat.le_refl _))).mono ?_
    rintro e w3 ⟨b, rfl, hbd2, hb3⟩
    have hbd2' := Lib.hid hbd2
    have hd3 := Lib.hid (hd2.out.trans (hb3.mono hd2.out.size))
    have e3 := cell_keeps hb3 (Nat.le_refl _) e2
    clear hbd2 hb3
    cases b with
    | true =>
      go_wp2
      go_ret
      exact ⟨rfl, hbx.out.1.trans (hd3.out.mono hbx.out.1.size)⟩
    | false =>
      have hm100 : mn ≤ 100 := (hbd2'.out rfl).2
      have hck := Lib.hid (checkList_any q n c bs lq ln lc l w3 (hsc.out.below hd3.out (Nat.le_refl _)) (hrr.out.below hd3.out (Nat.le_refl _)))
      obtain ⟨eL, hL⟩ : ∃ x, chkList bs l = x := ⟨_, rfl⟩
      rw [hL] at hck
      have hL' := Lib.hid hL
      clear hL
      by_cases hz : eL = 0
      · subst hz
        have hns := Lib.hid (chkList_zero hL'.out)
        go_wp2_with (go_at_call 13; refine hck.out.mono ?_; rintro e w4 ⟨rfl, hb4⟩; have hd4 := Lib.hid (hd3.out.trans (hb4.mono hd3.out.size)); clear hb4)
        have hr0 : Hid (BakRel W w4 bs lq ln lc) := ⟨hd4.out, l, hrr.out.below hd4.out (Nat.le_refl _), hns.out.2⟩
        clear hck e2 e3
        go_loopw [37, 1] (fun v37 v1 wr => ∃ (k : Nat) (q0 : Option Addr) (n0 c0 : Nat), k ≤ mn ∧ v37 = .int .i64 k ∧ v1 = .slice q0 n0 c0 ∧ Hid (BakRel W wr bs q0 n0 c0)) (fun v37 _ _ => mn - (intOf v37).toNat)
        case atStart => exact ⟨0, lq, ln, lc, Nat.zero_le _, rfl, rfl, hr0⟩
        case round =>
          obtain ⟨k, q0, n0, c0, hk, rfl, rfl, hrl⟩ := hrel
          by_cases hlt : k < mn
          · obtain ⟨L, hLr, hLok⟩ := hrl.out.ex
            have hL1 := Lib.hid hLr
            have hL2 := Lib.hid hLok
            obtain ⟨A, r, hqA, hx, hok, hc⟩ := (hmm.out.below hrl.out.up (Nat.le_refl _)).at hlt
            subst hqA
            have hok' := Lib.hid hok
            have hcell : Hid (∀ j x, ([.int .i64 r.key.t, .int .u16 r.key.id, .int .i64 r.val, .string r.note] : List Value)[j]? = some x → wr.cell? ((A.add (k * 4)).add j) = some x) := hc
            have hs2 := sizeRow r.key.t r.key.id r.val r.note
            have hs3 := sizeKey r.key.t r.key.id
            clear hx hok hc hLr hLok
            obtain ⟨W1, hW1⟩ : ∃ W1, wr.alloc (.cells #[.int .i64 r.key.t, .int .u16 r.key.id, .int .i64 r.val, .string r.note] 38) = W1 := ⟨_, rfl⟩
            have hb8 := Lib.hid (one_box (xs := [.int .i64 r.key.t, .int .u16 r.key.id, .int .i64 r.val, .string r.note]) hW1)
            have u1 := Lib.hid (hrl.out.up.trans (hb8.out.1.mono hrl.out.up.size))
            by_cases h20 : k = 20
            · subst h20
              go_wp2_with (first
                | (with_reducible refine wpList_load_at rfl 38 (.tmp 40) rfl Try.underlying38 rfl hs2 rfl hcell.out ?_))
              go_ret
              exact ⟨rfl, hbx.out.1.trans (u1.out.mono hbx.out.1.size)⟩
            · have h20' : ¬ (k : Int) = 20 := by omega
              have s1 := Lib.hid (hbx.out.2.1.below u1.out (Nat.le_refl _))
              have hput := Lib.hid (put_any q n c bs q0 n0 c0 L r.key.t r.key.id r.val r.note W1 (hsc.out.below u1.out (Nat.le_refl _)) (hL1.out.below hb8.out.1 (Nat.le_refl _)) hok'.out)
              obtain ⟨eP, hP⟩ : ∃ x, putE bs L r = x := ⟨_, rfl⟩
              have hP' := Lib.hid hP
              clear hP
              go_wp2_with (first
                | (with_reducible refine wpList_load_at rfl 38 (.tmp 40) rfl Try.underlying38 rfl hs2 rfl hcell.out ?_)
                | (with_reducible refine wpList_load_at rfl 24 (.tmp 3) rfl Try.underlying24 rfl hs1 rfl s1.out.all ?_)
                | (with_reducible refine wpList_load_at rfl 38 (.tmp 8) rfl Try.underlying38 rfl hs2 rfl hb8.out.2.1.all ?_))
              clear hW1
              refine hput.out.mono ?_
              clear hput
              rintro e x2 ⟨p2, m2, k2, rfl, hr2, hb2⟩
              rw [show putE bs L ⟨⟨r.key.t, r.key.id⟩, r.val, r.note⟩ = eP from hP'.out]
              have u2 := Lib.hid (u1.out.trans (hb2.mono u1.out.size))
              have hr3 := Lib.hid (show RowsOn x2 p2 m2 k2 (putR bs L r) from hr2)
              have b2 := Lib.hid (hb8.out.2.1.below hb2 (Nat.le_refl _))
              have s2 := Lib.hid (s1.out.below hb2 (Nat.le_refl _))
              have o2 := Lib.hid ((hL1.out.below hb8.out.1 (Nat.le_refl _)).below hb2 (Nat.le_refl _))
              clear hr2 hb2
              by_cases hz2 : eP = 0
              · subst hz2
                obtain ⟨T, D, o, H⟩ := put0_of hP'.out
                have H' := Lib.hid H
                have hr4 : Hid (RowsOn x2 p2 m2 k2 (T ++ r :: D)) := by have h0 := hr3.out; rw [H.res] at h0; exact h0
                have hml : T.length < m2 := by rw [← hr4.out.len]; simp
                have hm60 : m2 ≤ 60 := by rw [← hr4.out.len]; exact ((okL_good _ _).1 H.okn).1
                obtain ⟨A2, r2, hqA, hx2, _, hc2⟩ := hr4.out.at hml
                subst hqA
                rw [at_mid] at hx2
                cases hx2
                have hcc2 := Lib.hid hc2
                clear H hc2 hr3
                have hfd := Lib.hid (find_any (some A2) m2 k2 (T ++ r :: D) r.key.t r.key.id x2 hr4.out (by omega))
                rw [show findN (T ++ r :: D) ⟨r.key.t, r.key.id⟩ = (T.length : Int) by unfold findN; rw [show findK (T ++ r :: D) ⟨r.key.t, r.key.id⟩ = some T.length from H'.out.found], show findB (T ++ r :: D) ⟨r.key.t, r.key.id⟩ = true by unfold findB; rw [show findK (T ++ r :: D) ⟨r.key.t, r.key.id⟩ = some T.length from H'.out.found]; rfl] at hfd
                obtain ⟨j, hj⟩ : ∃ j, T.length = j := ⟨_, rfl⟩
                have hj' := Lib.hid hj
                rw [hj] at hfd hml hcc2
                clear hj
                go_wp2_with (first
                  | (with_reducible refine wpList_load_at rfl 28 (.tmp 58) rfl Try.underlying28 rfl hs3 rfl b2.out.key ?_)
                  | (go_at_call 19; refine hfd.out.mono ?_; rintro e x3 ⟨rfl, hb3⟩; have hb3' := Lib.hid hb3; clear hb3))
                have u3 := Lib.hid (u2.out.trans (hb3'.out.mono u2.out.size))
                have b3 := Lib.hid (b2.out.below hb3'.out (Nat.le_refl _))
                have s3 := Lib.hid (s2.out.below hb3'.out (Nat.le_refl _))
                have o3 := Lib.hid (o2.out.below hb3'.out (Nat.le_refl _))
                have hr5 := Lib.hid (hr4.out.below hb3'.out (Nat.le_refl _))
                have y0 := s3.out.cell 0 rfl
                have y1 := b3.out.cell 0 rfl
                have y2 := b3.out.cell 1 rfl
                have y3 := b3.out.cell 2 rfl
                have y4 := b3.out.cell 3 rfl
                have y5 : x3.cell? (A2.add (j * 4)) = some (.int .i64 r.key.t) := by have h := cell_keeps hb3'.out (Nat.le_refl _) (hcc2.out 0 _ rfl); rwa [add0] at h
                have y6 : x3.cell? ⟨(A2.add (j * 4)).block, (A2.add (j * 4)).off + 1, none⟩ = some (.int .u16 r.key.id) := cell_keeps hb3'.out (Nat.le_refl _) (hcc2.out 1 _ rfl)
                have y7 : x3.cell? ⟨(A2.add (j * 4)).block, (A2.add (j * 4)).off + 2, none⟩ = some (.int .i64 r.val) := cell_keeps hb3'.out (Nat.le_refl _) (hcc2.out 2 _ rfl)
                have y8 : x3.cell? ⟨(A2.add (j * 4)).block, (A2.add (j * 4)).off + 3, none⟩ = some (.string r.note) := cell_keeps hb3'.out (Nat.le_refl _) (hcc2.out 3 _ rfl)
                have hne := fun u => neq_self r u
                have i0 : (0 : Int) ≤ j := by omega
                have i1 : (j : Int) < m2 := by omega
                have hcn := Lib.hid (fun u (hu : Below x3.heap.size x3 u) => checkList_any q n c bs (some A2) m2 k2 (T ++ r :: D) u ((hsc.out.below u3.out (Nat.le_refl _)).below hu (Nat.le_refl _)) (hr5.out.below hu (Nat.le_refl _)))
                rw [show chkList bs (T ++ r :: D) = 0 from chk_zero H'.out.okS H'.out.okn] at hcn
                go_region_held3 (fun u => u.cell? ⟨w.heap.size, 0, none⟩ = some (.slice q n c) ∧ u.cell? ⟨wr.heap.size, 0, none⟩ = some (.int .i64 r.key.t) ∧ u.cell? ⟨wr.heap.size, 1, none⟩ = some (.int .u16 r.key.id) ∧ u.cell? ⟨wr.heap.size, 2, none⟩ = some (.int .i64 r.val) ∧ u.cell? ⟨wr.heap.size, 3, none⟩ = some (.string r.note) ∧
                    u.cell? (A2.add (j * 4)) = some (.int .i64 r.key.t) ∧ u.cell? ⟨(A2.add (j * 4)).block, (A2.add (j * 4)).off + 1, none⟩ = some (.int .u16 r.key.id) ∧ u.cell? ⟨(A2.add (j * 4)).block, (A2.add (j * 4)).off + 2, none⟩ = some (.int .i64 r.val) ∧ u.cell? ⟨(A2.add (j * 4)).block, (A2.add (j * 4)).off + 3, none⟩ = some (.string r.note) ∧ Below x3.heap.size x3 u)
                  (first | exact ⟨y0, y1, y2, y3, y4, y5, y6, y7, y8, below_drew _⟩ | (go_split_ands; exact ⟨cell_keeps hb6.out (Nat.le_refl _) (by assumption), cell_keeps hb6.out (Nat.le_refl _) (by assumption), cell_keeps hb6.out (Nat.le_refl _) (by assumption), cell_keeps hb6.out (Nat.le_refl _) (by assumption), cell_keeps hb6.out (Nat.le_refl _) (by assumption), cell_keeps hb6.out (Nat.le_refl _) (by assumption), cell_keeps hb6.out (Nat.le_refl _) (by assumption), cell_keeps hb6.out (Nat.le_refl _) (by assumption), cell_keeps hb6.out (Nat.le_refl _) (by assumption), below_step hb6.out (by assumption)⟩))
                  (first
                    | (go_at_call 13; refine (hcn.out _ (by go_split_ands; first | assumption | exact below_drew _)).mono ?_; rintro e x4 ⟨rfl, hb6'⟩; have hb6 := Lib.hid hb6'; clear hb6'))
                have hv4 : Hid (Below x3.heap.size x3 x4) := by
                  show Below _ _ _
                  go_split_ands
                  assumption
                clear y0 y1 y2 y3 y4 y5 y6 y7 y8
                have u4 := Lib.hid (u3.out.trans (hv4.out.mono u3.out.size))
                have b4 := Lib.hid (b3.out.below hv4.out (Nat.le_refl _))
                have s4 := Lib.hid (s3.out.below hv4.out (Nat.le_refl _))
                have o4 := Lib.hid (o3.out.below hv4.out (Nat.le_refl _))
                have hr6 := Lib.hid (hr5.out.below hv4.out (Nat.le_refl _))
                have tk1 : Hid (Calls Try.prog 30 #[.agg #[.slice q n c], .slice (some A2) m2 k2, .agg #[.int .i64 r.key.t, .int .u16 r.key.id]] x4 (fun e w' => ∃ q' m' c', e = .returned (.tuple #[.slice q' m' c', .agg #[.int .i64 r.key.t, .int .u16 r.key.id, .int .i64 r.val, .string r.note], .int .i64 0]) ∧ RowsOn w' q' m' c' (T ++ D) ∧ Below x4.heap.size x4 w')) := by
                  refine (take_any q n c bs (some A2) m2 k2 (T ++ r :: D) r.key.t r.key.id x4 (hsc.out.below u4.out (Nat.le_refl _)) hr6.out).mono ?_
                  rintro e w' ⟨q', m', c', he, h1, h2⟩
                  obtain ⟨t1, t2, t3⟩ := H'.out.take
                  refine ⟨q', m', c', ?_, ?_, h2⟩
                  · rw [he, show takeX bs (T ++ r :: D) ⟨r.key.t, r.key.id⟩ = r from t3, show takeE bs (T ++ r :: D) ⟨r.key.t, r.key.id⟩ = 0 from t1]; rfl
                  · rw [show takeL bs (T ++ r :: D) ⟨r.key.t, r.key.id⟩ = T ++ D from t2] at h1; exact h1
                go_wp2_with (first
                  | (with_reducible refine wpList_load_at rfl 24 (.tmp 3) rfl Try.underlying24 rfl hs1 rfl s4.out.all ?_)
                  | (with_reducible refine wpList_load_at rfl 28 (.tmp 82) rfl Try.underlying28 rfl hs3 rfl b4.out.key ?_))
                refine tk1.out.mono ?_
                clear tk1
                rintro e x5 ⟨q5, m5, c5, rfl, hr7, hb5⟩
                have hr8 := Lib.hid hr7
                have hb5' := Lib.hid hb5
                clear hr7 hb5
                obtain ⟨X6, hX6⟩ : ∃ X, x5.alloc (.cells #[.int .i64 r.key.t, .int .u16 r.key.id, .int .i64 r.val, .string r.note] 38) = X := ⟨_, rfl⟩
                have hb14 := Lib.hid (one_box (xs := [.int .i64 r.key.t, .int .u16 r.key.id, .int .i64 r.val, .string r.note]) hX6)
                have hv6 := Lib.hid (hb5'.out.trans (hb14.out.1.mono hb5'.out.size))
                have u6' := Lib.hid (u4.out.trans (hv6.out.mono u4.out.size))
                have b6 := Lib.hid (b4.out.below hv6.out (Nat.le_refl _))
                have s6 := Lib.hid (s4.out.below hv6.out (Nat.le_refl _))
                have o6 := Lib.hid (o4.out.below hv6.out (Nat.le_refl _))
                have hr9 := Lib.hid (hr6.out.below hv6.out (Nat.le_refl _))
                have hr10 := Lib.hid (hr8.out.below hb14.out.1 (Nat.le_refl _))
                have z0 := hb14.out.2.1.cell 0 rfl
                have z1 := hb14.out.2.1.cell 1 rfl
                have z2 := hb14.out.2.1.cell 2 rfl
                have z3 := hb14.out.2.1.cell 3 rfl
                have z4 := b6.out.cell 0 rfl
                have z5 := b6.out.cell 1 rfl
                have z6 := b6.out.cell 2 rfl
                have z7 := b6.out.cell 3 rfl
                have htk := Lib.hid (take_any q n c bs q0 n0 c0 L r.key.t r.key.id X6 (hsc.out.below u6'.out (Nat.le_refl _)) o6.out)
                cases o with
                | none =>
                  have tk2 : Hid (Calls Try.prog 30 #[.agg #[.slice q n c], .slice q0 n0 c0, .agg #[.int .i64 r.key.t, .int .u16 r.key.id]] X6 (fun e w' => ∃ q' m' c', e = .returned (.tuple #[.slice q' m' c', .agg #[.int .i64 0, .int .u16 0, .int .i64 0, .string ⟨#[]⟩], .int .i64 4]) ∧ Below X6.heap.size X6 w')) := by
                    refine htk.out.mono ?_
                    rintro e w' ⟨q', m', c', he, h1, h2⟩
                    obtain ⟨t1, _⟩ := H'.out.was_none
                    refine ⟨q', m', c', ?_, h2⟩
                    rw [he, show takeX bs L ⟨r.key.t, r.key.id⟩ = zeroR by unfold takeX; rw [show takeE bs L ⟨r.key.t, r.key.id⟩ = 4 from t1, if_neg (by decide)], show takeE bs L ⟨r.key.t, r.key.id⟩ = 4 from t1]
                    rfl
                  clear htk
                  go_wp2_with (first
                    | (with_reducible refine wpList_load_at rfl 24 (.tmp 3) rfl Try.underlying24 rfl hs1 rfl s6.out.all ?_)
                    | (with_reducible refine wpList_load_at rfl 28 (.tmp 98) rfl Try.underlying28 rfl hs3 rfl b6.out.key ?_))
                  refine tk2.out.mono ?_
                  clear tk2
                  rintro e x7 ⟨q7, m7, c7, rfl, hb7⟩
                  have hb7' := Lib.hid hb7
                  clear hb7
                  have hb16 := Lib.hid (one_box (W := (x7.alloc (.cells #[.int .i64 0, .int .u16 0, .int .i64 0, .string ⟨#[]⟩] 38))) (xs := [.int .i64 0, .int .u16 0, .int .i64 0, .string ⟨#[]⟩]) rfl)
                  have hv8 := Lib.hid (hb7'.out.trans (hb16.out.1.mono hb7'.out.size))
                  have u8' := Lib.hid (u6'.out.trans (hv8.out.mono u6'.out.size))
                  have hsm := Lib.hid (same_any q5 m5 c5 (T ++ D) q0 n0 c0 L (x7.alloc (.cells #[.int .i64 0, .int .u16 0, .int .i64 0, .string ⟨#[]⟩] 38)) (hr10.out.below hv8.out (Nat.le_refl _)) (o6.out.below hv8.out (Nat.le_refl _)))
                  rw [show sameL (T ++ D) L = true from sameL_iff.2 H'.out.was_none.2] at hsm
                  have hn8 := Lib.hid (hr9.out.below hv8.out (Nat.le_refl _))
                  clear z0 z1 z2 z3 z4 z5 z6 z7 hne
                  go_wp2_with (go_at_call 24; refine hsm.out.mono ?_; rintro e x9 ⟨rfl, hb9⟩; have hb9' := Lib.hid hb9; clear hb9)
                  have hnew : Hid (BakRel W x9 bs (some A2) m2 k2) := ⟨u8'.out.trans (hb9'.out.mono u8'.out.size), _, hn8.out.below hb9'.out (Nat.le_refl _), H'.out.okn⟩
                  go_roundw
                  case rel => exact ⟨k + 1, some A2, m2, k2, by omega, by go_num, rfl, hnew⟩
                  case measure => simp [intOf]; omega
                | some xo =>
                  have hxo : Hid (RowOk xo) := o6.out.ok xo (by rw [H'.out.parts.eq]; simp)
                  have tk2 : Hid (Calls Try.prog 30 #[.agg #[.slice q n c], .slice q0 n0 c0, .agg #[.int .i64 r.key.t, .int .u16 r.key.id]] X6 (fun e w' => ∃ q' m' c', e = .returned (.tuple #[.slice q' m' c', .agg #[.int .i64 xo.key.t, .int .u16 xo.key.id, .int .i64 xo.val, .string xo.note], .int .i64 0]) ∧ RowsOn w' q' m' c' (T ++ D) ∧ Below X6.heap.size X6 w')) := by
                    refine htk.out.mono ?_
                    rintro e w' ⟨q', m', c', he, h1, h2⟩
                    obtain ⟨t1, t2, t3, _⟩ := H'.out.was_some
                    refine ⟨q', m', c', ?_, ?_, h2⟩
                    · rw [he, show takeX bs L ⟨r.key.t, r.key.id⟩ = xo from t3, show takeE bs L ⟨r.key.t, r.key.id⟩ = 0 from t1]; rfl
                    · rw [show takeL bs L ⟨r.key.t, r.key.id⟩ = T ++ D from t2] at h1; exact h1
                  clear htk
                  go_wp2_with (first
                    | (with_reducible refine wpList_load_at rfl 24 (.tmp 3) rfl Try.underlying24 rfl hs1 rfl s6.out.all ?_)
                    | (with_reducible refine wpList_load_at rfl 28 (.tmp 98) rfl Try.underlying28 rfl hs3 rfl b6.out.key ?_))
                  refine tk2.out.mono ?_
                  clear tk2
                  rintro e x7 ⟨q7, m7, c7, rfl, hr7, hb7⟩
                  have hb7' := Lib.hid hb7
                  have hr11 := Lib.hid hr7
                  clear hb7 hr7
                  obtain ⟨X8, hX8⟩ : ∃ X, x7.alloc (.cells #[.int .i64 xo.key.t, .int .u16 xo.key.id, .int .i64 xo.val, .string xo.note] 38) = X := ⟨_, rfl⟩
                  have hb16 := Lib.hid (one_box (xs := [.int .i64 xo.key.t, .int .u16 xo.key.id, .int .i64 xo.val, .string xo.note]) hX8)
                  have hv8 := Lib.hid (hb7'.out.trans (hb16.out.1.mono hb7'.out.size))
                  have u8' := Lib.hid (u6'.out.trans (hv8.out.mono u6'.out.size))
                  have s8 := Lib.hid (s6.out.below hv8.out (Nat.le_refl _))
                  have hs4 := sizeRow xo.key.t xo.key.id xo.val xo.note
                  have hn8 := Lib.hid (hr9.out.below hv8.out (Nat.le_refl _))
                  have ha8 := Lib.hid (hr10.out.below hv8.out (Nat.le_refl _))
                  have hl8 := Lib.hid (o6.out.below hv8.out (Nat.le_refl _))
                  have hw8 := Lib.hid (hr11.out.below hb16.out.1 (Nat.le_refl _))
                  have pt2 : Hid (Calls Try.prog 29 #[.agg #[.slice q n c], .slice q7 m7 c7, .agg #[.int .i64 xo.key.t, .int .u16 xo.key.id, .int .i64 xo.val, .string xo.note]] X8 (fun e w' => ∃ q' m' c', e = .returned (.tuple #[.slice q' m' c', .int .i64 0]) ∧ RowsOn w' q' m' c' L ∧ Below X8.heap.size X8 w')) := by
                    refine (put_any q n c bs q7 m7 c7 (T ++ D) xo.key.t xo.key.id xo.val xo.note X8 (hsc.out.below u8'.out (Nat.le_refl _)) hw8.out hxo.out).mono ?_
                    rintro e w' ⟨q', m', c', he, h1, h2⟩
                    obtain ⟨_, _, _, t4, t5⟩ := H'.out.was_some
                    refine ⟨q', m', c', ?_, ?_, h2⟩
                    · rw [he, show putE bs (T ++ D) ⟨⟨xo.key.t, xo.key.id⟩, xo.val, xo.note⟩ = 0 from t4]
                    · rw [show putR bs (T ++ D) ⟨⟨xo.key.t, xo.key.id⟩, xo.val, xo.note⟩ = L from t5] at h1; exact h1
                  clear z0 z1 z2 z3 z4 z5 z6 z7 hne
                  go_wp2_with (first
                    | (with_reducible refine wpList_load_at rfl 24 (.tmp 3) rfl Try.underlying24 rfl hs1 rfl s8.out.all ?_)
                    | (with_reducible refine wpList_load_at rfl 38 (.tmp 16) rfl Try.underlying38 rfl hs4 rfl hb16.out.2.1.all ?_))
                  refine pt2.out.mono ?_
                  clear pt2
                  rintro e x9 ⟨q9, m9, c9, rfl, hr12, hb9⟩
                  have hb9' := Lib.hid hb9
                  have hr13 := Lib.hid hr12
                  clear hb9 hr12
                  have hsm1 := Lib.hid (same_any q5 m5 c5 (T ++ D) q7 m7 c7 (T ++ D) x9 (ha8.out.below hb9'.out (Nat.le_refl _)) (hw8.out.below hb9'.out (Nat.le_refl _)))
                  rw [show sameL (T ++ D) (T ++ D) = true from sameL_iff.2 rfl] at hsm1
                  go_wp2_with fail
                  refine hsm1.out.mono ?_
                  clear hsm1
                  rintro e x10 ⟨rfl, hb10⟩
                  have hb10' := Lib.hid hb10
                  clear hb10
                  have hsm2 := Lib.hid (same_any q9 m9 c9 L q0 n0 c0 L x10 (hr13.out.below hb10'.out (Nat.le_refl _)) ((hl8.out.below hb9'.out (Nat.le_refl _)).below hb10'.out (Nat.le_refl _)))
                  rw [show sameL L L = true from sameL_iff.2 rfl] at hsm2
                  go_wp2_with fail
                  refine hsm2.out.mono ?_
                  clear hsm2
                  rintro e x11 ⟨rfl, hb11⟩
                  have hb11' := Lib.hid hb11
                  clear hb11
                  have u11 := Lib.hid ((u8'.out.trans (hb9'.out.mono u8'.out.size)))
                  have u12 := Lib.hid ((u11.out.trans (hb10'.out.mono u11.out.size)))
                  have u13 := Lib.hid ((u12.out.trans (hb11'.out.mono u12.out.size)))
                  have hnew : Hid (BakRel W x11 bs (some A2) m2 k2) := ⟨u13.out, _, ((hn8.out.below hb9'.out (Nat.le_refl _)).below hb10'.out (Nat.le_refl _)).below hb11'.out (Nat.le_refl _), H'.out.okn⟩
                  go_wp2
                  go_roundw
                  case rel => exact ⟨k + 1, some A2, m2, k2, by omega, by go_num, rfl, hnew⟩
                  case measure => simp [intOf]; omega
              · have hm0 : m2 = 0 := by rw [← hr3.out.len, show putR bs L r = [] by unfold putR; rw [hP'.out, if_neg hz2]]; rfl
                subst hm0
                have hnew : Hid (BakRel W x2 bs q0 n0 c0) := ⟨u2.out, L, o2.out, hL2.out⟩
                go_wp2
                go_roundw
                case rel => exact ⟨k + 1, q0, n0, c0, by omega, by go_num, rfl, hnew⟩
                case measure => simp [intOf]; omega
          · obtain rfl : mn = k := by omega
            go_wp2
            go_ret
            exact ⟨rfl, hbx.out.1.trans (hrl.out.up.mono hbx.out.1.size)⟩
      · go_wp2_with (go_at_call 13; refine hck.out.mono ?_; rintro e w4 ⟨rfl, hb4⟩; have hd4 := Lib.hid (hd3.out.trans (hb4.mono hd3.out.size)); clear hb4)
        go_ret
        exact ⟨rfl, hbx.out.1.trans (hd4.out.mono hbx.out.1.size)⟩

set_option maxRecDepth 1000000 in
theorem back_lifted (os : Os) (started : os.Started) (H : Type) (enc : TypeId × Value → H) :
    ReturnsInHanded {} Try.checked os 6 .any (Rows.rowBackSpec.pre6 enc Try.prog Try.f6 Rows.rowBackRow.domain false) (Rows.rowBackSpec.post enc Try.prog Try.f6 false true false false) := by
  refine returnsInHanded_of_change (C := Try.checked) own started (by kernel_rfl) Try.func6
    (ChangeSpec.witness6 (enc := enc) (C := Try.checked) false ⟨#[], #[.agg #[.slice none 0 0], .slice none 0 0, .slice none 0 0], []⟩ 8 (by kernel_rfl) (by kernel_rfl) (by kernel_rfl) (by kernel_rfl)) ?_
  intro W base args ds gs before hval0 hW _ _
  have hval : ∀ (j : Nat) t v, Try.f6.params[j]? = some t → args[j]? = some v → Value.okWide Try.prog W .any base t v := hval0
  have hW' := hW
  obtain ⟨p, q, hA0, hV, rfl, _, _⟩ := hW
  have hA : DataW.TrodAll enc Try.prog W 0 (fun _ => true) true Try.f6.params.toList args.toList ds p := hA0
  rw [Try.params6] at hA hval
  obtain ⟨v0, v1, v2, d0, d1, d2, p0, p1, p2, rfl, rfl, rfl, h0, h1, h2⟩ := trodAll_three hA
  obtain ⟨rfl, rfl⟩ := trodVars_none hV
  obtain ⟨q0, n0, c0, bs0, rfl, hs0⟩ := open_sch (hval 0 24 v0 rfl rfl) h0
  obtain ⟨a1, len1, cap1, rfl⟩ := okWide_slice Try.underlying25 (hval 1 25 v1 rfl rfl)
  obtain ⟨l1, hl1⟩ := open_rows h1
  obtain ⟨a2, len2, cap2, rfl⟩ := okWide_slice Try.underlying25 (hval 2 25 v2 rfl rfl)
  obtain ⟨l2, hl2⟩ := open_rows h2
  refine (back_any q0 n0 c0 bs0 a1 len1 cap1 l1 a2 len2 cap2 l2 W hs0 hl1 hl2).mono fun e W' ⟨he, hb⟩ => ?_
  subst he
  exact ⟨_, rfl, law_post laidOut (of_decide_eq_true (by kernel_rfl)) rfl (by kernel_rfl) Try.underlying4 hW' ⟨rfl, rfl, rfl⟩ hb⟩

set_option maxRecDepth 1000000 in
theorem back_holds : Rows.RowBackSaid :=
  OpenClaim.holds_of_wide 6 Try.f6 rfl rfl rfl rfl rfl rfl rfl ⟨rfl, rfl, rfl, rfl, rfl⟩ rfl rfl rfl rfl rfl (by kernel_rfl) Try.func6 (by kernel_rfl)
    (of_decide_eq_true (by kernel_rfl)) (by unfold Func.isWrapper; first | (rw [if_pos (by decide +kernel)]; kernel_rfl) | (rw [if_neg (by decide +kernel)]; exact ⟨rfl, rfl⟩))
    (fun os started H enc _ => back_lifted os started H enc)
end Go.Proofs.Ytcnkelpnoahapaa
