/- The document's small functions on pages; same and none of the laws. -/
import Derived.Test.YtaiepdhmlmnggaaPHm
import Derived.Test.YtaiepdhmlmnggaaKDe
namespace Go.Proofs.Ytaiepdhmlmnggaa
open Go.RowKit

set_option maxRecDepth 100000 in
set_option maxHeartbeats 1000000 in
theorem refSize_any (v : CV) (c : ContD) (w : World) (h : v.On w c) (hsm : sizeC c ≤ 1000000) :
    Calls Try.prog 11 #[v.val] w (fun e w' => e = .returned (.int .i64 ((sizeC c : Nat) : Int)) ∧ Below w.heap.size w w') := by
  obtain ⟨k, rq, rn, rc, kq, kn, kc⟩ := v
  have h2 : (sizeC c : Int) = (rn : Int) + kn := by
    have a := h.rl
    have b := h.kl
    simp only at a b
    unfold sizeC; omega
  rw [h2]
  obtain ⟨W, hW⟩ : ∃ W, w.alloc (.cells #[.int .i64 k, .slice rq rn rc, .slice kq kn kc] 25) = W := ⟨_, rfl⟩
  have hbx := Lib.hid (one_box (xs := [.int .i64 k, .slice rq rn rc, .slice kq kn kc]) hW)
  have c1 := hbx.out.2.1.cell 1 rfl
  have c2 := hbx.out.2.1.cell 2 rfl
  have e1 : IntKind.i64.wrap ((rn : Int) + kn) = (rn : Int) + kn := IntWalk.i64_in _ (by omega)
  clear h h2
  show Calls _ _ #[.agg #[.int .i64 k, .slice rq rn rc, .slice kq kn kc]] _ _
  go_enter Try.func11, Try.ntmps11
  go_wp2
  go_ret
  exact ⟨by first | rfl | rw [e1] | simp [e1], hbx.out.1⟩

set_option maxRecDepth 100000 in
set_option maxHeartbeats 1000000 in
theorem refLeaf_any (q : Option Addr) (n c : Nat) (w : World) :
    Calls Try.prog 24 #[.slice q n c] w (fun e w' => e = .returned (.agg #[.int .i64 1, .slice q n c, .slice none 0 0]) ∧ Below w.heap.size w w') := by
  obtain ⟨W, hW⟩ : ∃ W, w.alloc (.cells #[.int .i64 0, .slice none 0 0, .slice none 0 0] 25) = W := ⟨_, rfl⟩
  have hbx := Lib.hid (one_box (xs := [.int .i64 0, .slice none 0 0, .slice none 0 0]) hW)
  have hres : Hid (RowV 25 W w.heap.size [.int .i64 0, .slice none 0 0, .slice none 0 0]) := by
    have h0 := RowV.made (T := 25) w [.int .i64 0, .slice none 0 0, .slice none 0 0]
    show RowV _ _ _ _
    rw [← hW]; exact h0
  have hs := sizeCont (.int .i64 1) (.slice q n c) (.slice none 0 0)
  go_enter Try.func24, Try.ntmps24
  go_wp2_with (first
    | ((with_reducible refine wpList_store_at rfl 25 (.tmp 2) (.tmp 4) rfl (o := 0) (vs := [.int .i64 1, .slice q n c, .slice none 0 0]) rfl rfl hres.out hs (Nat.le_refl _) (cont_one _ _ _ _ _ _ _) ?_)
       intro w9 h9 hg9
       have q9 := Lib.hid h9
       have hg9' := Lib.hid hg9
       clear h9 hg9))
  have s9 : RowV 25 w9 w.heap.size [.int .i64 1, .slice q n c, .slice none 0 0] := q9.out
  have m0 := s9.cell 0
  have m1 := s9.cell 1
  have m2 := s9.cell 2
  simp only [List.getElem?_cons_zero, List.getElem?_cons_succ] at m0 m1 m2
  refine bodyPost_ret (v := .agg #[.int .i64 1, .slice q n c, .slice none 0 0]) (by simp [results, Try.results24, go_sem, m0, m1, m2]) rfl ?_
  exact ⟨rfl, Gr.below hg9'.out hbx.out.1 (Nat.le_refl _)⟩

set_option maxRecDepth 100000 in
set_option maxHeartbeats 1000000 in
theorem refFull_any (v : CV) (c : ContD) (b : Bool) (hb : b = true ↔ c.kind ≠ 0 ∧ sizeC c = 4) (w : World) (h : v.On w c) (hsm : sizeC c ≤ 1000000) :
    Calls Try.prog 12 #[v.val] w (fun e w' => e = .returned (.bool b) ∧ Below w.heap.size w w') := by
  have hsz := Lib.hid (fun u (hu : Below w.heap.size w u) => refSize_any v c u (h.below hu (Nat.le_refl _)) hsm)
  have hkd : v.k = c.kind := h.kind
  obtain ⟨k, rq, rn, rc, kq, kn, kc⟩ := v
  simp only at hkd
  have hkd' := Lib.hid hkd
  obtain ⟨W, hW⟩ : ∃ W, w.alloc (.cells #[.int .i64 k, .slice rq rn rc, .slice kq kn kc] 25) = W := ⟨_, rfl⟩
  have hbx := Lib.hid (one_box (xs := [.int .i64 k, .slice rq rn rc, .slice kq kn kc]) hW)
  have c0 := hbx.out.2.1.cell 0 rfl
  have c1 := hbx.out.2.1.cell 1 rfl
  have c2 := hbx.out.2.1.cell 2 rfl
  have hb' := Lib.hid hb
  generalize sizeC c = s at hsz hb' hsm
  clear h hb hkd
  show Calls _ _ #[.agg #[.int .i64 k, .slice rq rn rc, .slice kq kn kc]] _ _
  by_cases hk : k = 0
  · obtain rfl : b = false := b_false hb'.out (fun h => h.1 (by rw [← hkd'.out]; exact hk))
    have hk0 : (k != 0) = false := by simpa using hk
    clear hk
    go_enter Try.func12, Try.ntmps12
    go_wp2
    go_ret
    exact ⟨rfl, hbx.out.1⟩
  · have hk' := Lib.hid hk
    have hk0 : (k != 0) = true := by simpa using hk
    obtain ⟨q, hq⟩ : ∃ q : Bool, ((s : Int) == 4) = q := ⟨_, rfl⟩
    have hq' := Lib.hid hq
    obtain rfl : b = q := by
      cases q with
      | true => exact hb'.out.2 ⟨by rw [← hkd'.out]; exact hk, by have := beq_iff_eq.1 hq; omega⟩
      | false => exact b_false hb'.out (fun h => by have h2 := beq_eq_false_iff_ne.1 hq; have := h.2; omega)
    clear hk hb'
    go_enter Try.func12, Try.ntmps12
    go_wp2_with fail
    refine (hsz.out W hbx.out.1).mono ?_
    rintro e w2 ⟨rfl, hb3⟩
    have hd2 := Lib.hid (below_step hb3 hbx.out.1)
    clear hb3 hsz c0 c1 c2
    go_wp2
    go_ret
    exact ⟨rfl, hd2.out⟩

set_option maxRecDepth 100000 in
set_option maxHeartbeats 1000000 in
theorem lsame_any (v u : CV) (a b : ContD) (w : World) (ha : v.On w a) (hb : u.On w b) :
    Calls Try.prog 22 #[v.val, u.val] w (fun e w' => e = .returned (.bool (sameC a b)) ∧ Below w.heap.size w w') := by
  have hsm := Lib.hid (fun y (hu : Below w.heap.size w y) => same_doc v.k v.rq v.rn v.rc v.kq v.kn v.kc a u.k u.rq u.rn u.rc u.kq u.kn u.kc b y (ha.below hu (Nat.le_refl _)) (hb.below hu (Nat.le_refl _)))
  obtain ⟨k, rq, rn, rc, kq, kn, kc⟩ := v
  obtain ⟨k2, rq2, rn2, rc2, kq2, kn2, kc2⟩ := u
  simp only at hsm
  obtain ⟨W, hW⟩ : ∃ W, (w.alloc (.cells #[.int .i64 k, .slice rq rn rc, .slice kq kn kc] 25)).alloc (.cells #[.int .i64 k2, .slice rq2 rn2 rc2, .slice kq2 kn2 kc2] 25) = W := ⟨_, rfl⟩
  have hbx := Lib.hid (two_rows (xs := [.int .i64 k, .slice rq rn rc, .slice kq kn kc]) (ys := [.int .i64 k2, .slice rq2 rn2 rc2, .slice kq2 kn2 kc2]) hW)
  have hs := sizeCont (.int .i64 k) (.slice rq rn rc) (.slice kq kn kc)
  have hs2 := sizeCont (.int .i64 k2) (.slice rq2 rn2 rc2) (.slice kq2 kn2 kc2)
  clear ha hb
  show Calls _ _ #[.agg #[.int .i64 k, .slice rq rn rc, .slice kq kn kc], .agg #[.int .i64 k2, .slice rq2 rn2 rc2, .slice kq2 kn2 kc2]] _ _
  go_enter Try.func22, Try.ntmps22
  go_wp2_with (first
    | (with_reducible refine wpList_load_at rfl 25 (.tmp 2) rfl Try.underlying25 rfl hs rfl hbx.out.2.1.boxed.all ?_)
    | (with_reducible refine wpList_load_at rfl 25 (.tmp 3) rfl Try.underlying25 rfl hs2 rfl hbx.out.2.2.1.boxed.all ?_))
  refine (hsm.out W hbx.out.1).mono ?_
  rintro e w2 ⟨rfl, hb3⟩
  have hd2 := Lib.hid (below_step hb3 hbx.out.1)
  clear hb3 hsm hW
  go_wp2
  go_ret
  exact ⟨rfl, hd2.out⟩

set_option maxRecDepth 100000 in
set_option maxHeartbeats 4000000 in
theorem none_any (n b : Nat) (w : World) (hn : n ≤ 100) (hc : ∀ k, k < n → ∃ (v : CV), v.On w zeroC ∧ ∀ j x, ([.int .i64 v.k, .slice v.rq v.rn v.rc, .slice v.kq v.kn v.kc] : List Value)[j]? = some x → w.cell? ((⟨b, k * 3, none⟩ : Addr).add j) = some x) :
    Calls Try.prog 19 #[.slice (some ⟨b, 0, none⟩) n n] w (fun e w' => e = .returned (.bool true) ∧ Below w.heap.size w w') := by
  have hcc := Lib.hid hc
  clear hc
  go_enter Try.func19, Try.ntmps19
  go_wp2
  go_loopw [7] (fun v7 wr => ∃ k : Nat, k ≤ n ∧ v7 = .int .i64 k ∧ Hid (Below w.heap.size w wr)) (fun v7 _ => n - (RowKit.intOf v7).toNat)
  case atStart => exact ⟨0, Nat.zero_le _, rfl, (show Below _ _ _ from Below.refl _ _)⟩
  case round =>
    obtain ⟨k, hk, rfl, hbr⟩ := hrel
    by_cases hlt : k < n
    · obtain ⟨⟨kk, rq, rn, rc, kq, kn, kc⟩, hon, hcell⟩ := hcc.out k hlt
      have hcl : Hid (∀ j x, ([.int .i64 kk, .slice rq rn rc, .slice kq kn kc] : List Value)[j]? = some x → wr.cell? ((⟨b, k * 3, none⟩ : Addr).add j) = some x) := fun j x hj => cell_keeps hbr.out (Nat.le_refl _) (hcell j x hj)
      have hs := sizeCont (.int .i64 kk) (.slice rq rn rc) (.slice kq kn kc)
      have i0 : (0 : Int) ≤ k := by omega
      have i1 : (k : Int) < n := by omega
      have hon' := Lib.hid hon
      obtain ⟨W0, hW0⟩ : ∃ W, wr.alloc (.cells #[.int .i64 0, .slice none 0 0, .slice none 0 0] 25) = W := ⟨_, rfl⟩
      have hr0 := Lib.hid (one_row (xs := [.int .i64 0, .slice none 0 0, .slice none 0 0]) hW0)
      have hrw := Lib.hid hr0.out.2.1
      clear hon hcell
      go_wp2_with (first
        | (with_reducible refine wpList_load_at rfl 25 (.tmp 9) rfl Try.underlying25 rfl hs rfl hcl.out ?_)
        | ((with_reducible refine wpList_store_at rfl 25 (.tmp 4) (.tmp 10) rfl (o := 0) (vs := [.int .i64 kk, .slice rq rn rc, .slice kq kn kc]) rfl rfl hrw.out hs (Nat.le_refl _) (cont_one _ _ _ _ _ _ _) ?_)
           intro W h9 hg9
           have hbx : Hid (Boxed W wr.heap.size [.int .i64 kk, .slice rq rn rc, .slice kq kn kc]) := RowV.boxed h9
           have hq := Lib.hid (Gr.below hg9 hr0.out.1 (Nat.le_refl _))
           clear h9 hg9)
        | (with_reducible refine wpList_load_at rfl 25 (.tmp 4) rfl Try.underlying25 rfl hs rfl hbx.out.all ?_))
      have hd := Lib.hid (below_step hq.out hbr.out)
      have hsm := lsame_any ⟨kk, rq, rn, rc, kq, kn, kc⟩ zV zeroC zeroC W (hon'.out.below hd.out (Nat.le_refl _)) (zV_on W)
      rw [sameC_iff.2 rfl] at hsm
      refine hsm.mono ?_
      rintro e w2 ⟨rfl, hb3⟩
      have hd2 := Lib.hid (below_step hb3 hd.out)
      clear hb3 hsm
      go_wp2
      go_roundw
      case rel => exact ⟨k + 1, by omega, by go_num, hd2⟩
      case measure => simp [intOf]; omega
    · obtain rfl : n = k := by omega
      go_wp2
      go_ret
      exact ⟨rfl, hbr.out⟩
end Go.Proofs.Ytaiepdhmlmnggaa
