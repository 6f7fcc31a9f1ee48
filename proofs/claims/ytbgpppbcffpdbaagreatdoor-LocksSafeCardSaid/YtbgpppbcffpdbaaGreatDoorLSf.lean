/- safe of the laws on locks. -/
import Derived.Test.YtbgpppbcffpdbaaGreatDoorLGm
namespace Go.Proofs.YtbgpppbcffpdbaaGreatDoor
open Go.RowKit

set_option maxRecDepth 100000 in
set_option maxHeartbeats 4000000 in
theorem safe_any (q : Option Addr) (n c : Nat) (V : List QV) (L : List QueD) (hck : ChkOk L) (w : World) (hL : Lay w) (h : LkOn w q n c V L) (hsm : Sm L) :
    Calls Tryz.prog 27 #[.agg #[.slice q n c]] w (fun e w' => e = .returned (.bool true) ∧ Below w.heap.size w w') := by
  obtain ⟨W, hW⟩ : ∃ W, w.alloc (.cells #[.slice q n c] 24) = W := ⟨_, rfl⟩
  have hb0 := Lib.hid (one_box (xs := [.slice q n c]) hW)
  have hh := Lib.hid (h.below hb0.out.1 (Nat.le_refl _))
  have hLa := Lib.hid hL
  have hS : Hid (∀ u, Below W.heap.size W u → Lay u) := fun u hu => ⟨hLa.out.goes (below_step hu hb0.out.1), hLa.out.cov (below_step hu hb0.out.1)⟩
  have s1 := sizeLks (.slice q n c)
  have hck' := Lib.hid hck
  have hsm' := Lib.hid hsm
  have hn5 : Hid (n ≤ 500) := by show _ ≤ _; have h1 := h.len; have h2 := hck.len; omega
  have hn5' := hn5.out
  have c0 := hb0.out.2.1.cell 0 rfl
  clear h hL hck hsm
  go_enter Tryz.func27, Tryz.ntmps27
  go_wp2
  clear hW c0
  go_loopw [14] (fun v14 wr => ∃ k : Nat, k ≤ n ∧ v14 = .int .i64 k ∧ Hid (Below W.heap.size W wr)) (fun v14 _ => n - (intOf v14).toNat)
  case atStart => exact ⟨0, Nat.zero_le _, rfl, Below.refl _ _⟩
  case round =>
    obtain ⟨k, hk, rfl, hr⟩ := hrel
    obtain ⟨wo, rfl⟩ : ∃ u, u = wr := ⟨_, rfl⟩
    by_cases hlt : k < n
    · obtain ⟨A, ⟨⟨rt, rk, ri⟩, hq, hn, hc, wq, wn, wc⟩, d, hqA, hV, hd, hond, hcA⟩ := (hh.out.below hr.out (Nat.le_refl _)).at hlt
      subst hqA
      have hcell : Hid (∀ j' v, ([.int .i64 rt, .bool rk, .int .u16 ri, .slice hq hn hc, .slice wq wn wc] : List Value)[j']? = some v → wo.cell? ((A.add (k * 5)).add j') = some v) := fun j' v hj => hcA j' v hj
      have sq := sizeQue (.int .i64 rt) (.bool rk) (.int .u16 ri) (.slice hq hn hc) (.slice wq wn wc)
      have i0 : (0 : Int) ≤ k := by omega
      have i1 : (k : Int) < n := by omega
      obtain ⟨WA, hWA⟩ : ∃ W', wo.alloc (.cells #[.int .i64 rt, .bool rk, .int .u16 ri, .slice hq hn hc, .slice wq wn wc] 43) = W' := ⟨_, rfl⟩
      have hbA := Lib.hid (one_box (xs := [.int .i64 rt, .bool rk, .int .u16 ri, .slice hq hn hc, .slice wq wn wc]) hWA)
      have hdm := Lib.hid (List.mem_of_getElem? hd)
      have hond' := Lib.hid (hond.below hbA.out.1 (Nat.le_refl _))
      have hbw := Lib.hid (below_step hbA.out.1 hr.out)
      have hfit := Lib.hid (hck'.out.fit d hdm.out)
      have ch := hbA.out.2.1.cell 3 rfl
      have hnb : Hid (hn ≤ hc ∧ hn ≤ 100000 ∧ wn ≤ 100000) := by
        have h1 := hsm'.out d hdm.out
        have h2 : d.hs.length = hn := hond'.out.hs.len
        have h3 : d.ws.length = wn := hond'.out.ws.len
        exact ⟨hond'.out.hs.le, by omega, by omega⟩
      have hn1 := hnb.out.2.1
      have hn2 := hnb.out.2.2
      clear hcA hV hd hond
      go_wp2_with (first
        | (with_reducible refine wpList_load_at rfl 43 (.tmp 16) rfl Tryz.underlying43 rfl sq rfl hcell.out ?_))
      clear hWA hcell ch
      go_loopw [21] (fun v21 wr => ∃ i : Nat, i ≤ hn ∧ v21 = .int .i64 i ∧ Hid (Below WA.heap.size WA wr)) (fun v21 _ => hn - (intOf v21).toNat)
      case atStart => exact ⟨0, Nat.zero_le _, rfl, Below.refl _ _⟩
      case round =>
        obtain ⟨i, hi, rfl, hr2⟩ := hrel
        obtain ⟨wi, rfl⟩ : ∃ u, u = wr := ⟨_, rfl⟩
        by_cases hli : i < hn
        · obtain ⟨AH, ⟨hx, hm⟩, hqH, hH, hcH⟩ := (hond'.out.hs.below hr2.out (Nat.le_refl _)).at hli
          subst hqH
          have hcellH : Hid (∀ j' v, ([.int .i64 hx, .int .i64 hm] : List Value)[j']? = some v → wi.cell? ((AH.add (i * 2)).add j') = some v) := fun j' v hj => hcH j' v hj
          have sh := sizeHold (.int .i64 hx) (.int .i64 hm)
          have p0 : (0 : Int) ≤ i := by omega
          have p1 : (i : Int) < hn := by omega
          obtain ⟨WB, hWB⟩ : ∃ W', wi.alloc (.cells #[.int .i64 hx, .int .i64 hm] 45) = W' := ⟨_, rfl⟩
          have hbB := Lib.hid (one_box (xs := [.int .i64 hx, .int .i64 hm]) hWB)
          have hbAB := Lib.hid (below_step hbB.out.1 hr2.out)
          have hH' := Lib.hid hH
          have ch := (hbA.out.2.1.below hbAB.out (Nat.le_refl _)).cell 3 rfl
          have hsl := slice_h (some AH) hn hc i hi hnb.out.1 WB
          clear hcH hH
          go_wp2_with (first
            | (with_reducible refine wpList_load_at rfl 45 (.tmp 24) rfl Tryz.underlying45 rfl sh rfl hcellH.out ?_))
          clear hWB hcellH ch hsl
          go_loopw [31] (fun v31 wr => ∃ j : Nat, j ≤ i ∧ v31 = .int .i64 j ∧ Hid (Below WB.heap.size WB wr)) (fun v31 _ => i - (intOf v31).toNat)
          case atStart => exact ⟨0, Nat.zero_le _, rfl, Below.refl _ _⟩
          case round =>
            obtain ⟨j, hj, rfl, hr3⟩ := hrel
            obtain ⟨wj, rfl⟩ : ∃ u, u = wr := ⟨_, rfl⟩
            have hbAj := Lib.hid (below_step hr3.out hbAB.out)
            by_cases hlj : j < i
            · obtain ⟨AH2, ⟨gx, gm⟩, hqG, hGj, hcG⟩ := (hond'.out.hs.below hbAj.out (Nat.le_refl _)).at (Nat.lt_trans hlj hli)
              cases hqG
              have hcellG : Hid (∀ j' v, ([.int .i64 gx, .int .i64 gm] : List Value)[j']? = some v → wj.cell? ((AH.add (j * 2)).add j') = some v) := fun j' v hj => hcG j' v hj
              have sg := sizeHold (.int .i64 gx) (.int .i64 gm)
              have m0 : (0 : Int) ≤ j := by omega
              have m1 : (j : Int) < i := by omega
              obtain ⟨WC, hWC⟩ : ∃ W', wj.alloc (.cells #[.int .i64 gx, .int .i64 gm] 45) = W' := ⟨_, rfl⟩
              have hbC := Lib.hid (one_box (xs := [.int .i64 gx, .int .i64 gm]) hWC)
              have hbBC := Lib.hid (below_step hbC.out.1 hr3.out)
              have hgo : Hid (goesB hm gm = true) := togB_iff.1 hfit.out.hs.tog i j _ _ hlj hH'.out hGj
              have z1 := (hbB.out.2.1.below hbBC.out (Nat.le_refl _)).cell 1 rfl
              have z2 := hbC.out.2.1.cell 1 rfl
              have hstC : Hid (Below W.heap.size W WC) := below_step (below_step hbBC.out hbAB.out) hbw.out
              clear hcG hGj
              go_wp2_with (first
                | (with_reducible refine wpList_load_at rfl 45 (.tmp 33) rfl Tryz.underlying45 rfl sg rfl hcellG.out ?_)
                | (go_at_call 54
                   refine (goes_any hm gm WC (hS.out _ hstC.out).1).mono ?_
                   rw [hgo.out]
                   rintro e u ⟨rfl, hb⟩
                   have hbu := Lib.hid (below_step hb hbBC.out)
                   clear hb hWC z1 z2 hcellG))
              go_roundw
              case rel => exact ⟨j + 1, by omega, by go_num, hbu.out⟩
              case measure => simp [intOf]; omega
            · obtain rfl : i = j := by omega
              go_wp2
              go_roundw
              case rel => exact ⟨i + 1, by omega, by go_num, hbAj.out⟩
              case measure => simp [intOf]; omega
        · obtain rfl : hn = i := by omega
          have cw := (hbA.out.2.1.below hr2.out (Nat.le_refl _)).cell 4 rfl
          go_wp2
          clear cw
          go_loopw [46] (fun v46 wr => ∃ p : Nat, p ≤ wn ∧ v46 = .int .i64 p ∧ Hid (Below WA.heap.size WA wr)) (fun v46 _ => wn - (intOf v46).toNat)
          case atStart => exact ⟨0, Nat.zero_le _, rfl, hr2.out⟩
          case round =>
            obtain ⟨p, hp, rfl, hr4⟩ := hrel
            obtain ⟨wp, rfl⟩ : ∃ u, u = wr := ⟨_, rfl⟩
            by_cases hlp : p < wn
            · obtain ⟨AW, ⟨wx, wm, wh⟩, hqW, hWp, hcW⟩ := (hond'.out.ws.below hr4.out (Nat.le_refl _)).at hlp
              subst hqW
              have hcellW : Hid (∀ j' v, ([.int .i64 wx, .int .i64 wm, .int .i64 wh] : List Value)[j']? = some v → wp.cell? ((AW.add (p * 3)).add j') = some v) := fun j' v hj => hcW j' v hj
              have sw := sizeWait (.int .i64 wx) (.int .i64 wm) (.int .i64 wh)
              have m0 : (0 : Int) ≤ p := by omega
              have m1 : (p : Int) < wn := by omega
              obtain ⟨WD, hWD⟩ : ∃ W', wp.alloc (.cells #[.int .i64 wx, .int .i64 wm, .int .i64 wh] 47) = W' := ⟨_, rfl⟩
              have hbD := Lib.hid (one_box (xs := [.int .i64 wx, .int .i64 wm, .int .i64 wh]) hWD)
              have hbAD := Lib.hid (below_step hbD.out.1 hr4.out)
              have hbWD := Lib.hid (below_step hbAD.out hbw.out)
              have z0 := hbD.out.2.1.cell 0 rfl
              have xl := Lib.hid (hb0.out.2.1.below hbWD.out (Nat.le_refl _))
              have hwm := List.mem_of_getElem? hWp
              have h0 : 0 ≤ waitI d.ws wx := by
                apply Classical.byContradiction
                intro hc0
                exact (wait_neg (ws := d.ws) (x := wx)).1 (by omega) _ hwm rfl
              have hwt := wtOf_uniq hck'.out.nodup hdm.out h0
              obtain ⟨bl, hbl⟩ : ∃ bl, blkOf d wx = bl := ⟨_, rfl⟩
              have hbk : Hid (BlockR L wx bl) := .inr (.inr ⟨hck'.out, d, hwt, hbl.symm⟩)
              have hne : Hid (bl ≠ []) := by
                obtain ⟨b, hb⟩ := (pre_ok hck'.out hwt).1
                exact List.ne_nil_of_mem (by rw [← hbl]; exact mem_blk.2 hb)
              have hblk := Lib.hid (blockers_any (some A) n c V L wx bl hbk.out WD (hS.out _ hbWD.out) (hh.out.below hbWD.out (Nat.le_refl _)) hsm'.out (by omega))
              clear hcW hWp hwm h0 hwt hbl
              go_wp2_with (first
                | (with_reducible refine wpList_load_at rfl 47 (.tmp 48) rfl Tryz.underlying47 rfl sw rfl hcellW.out ?_)
                | (with_reducible refine wpList_load_at rfl 24 (.tmp 1) rfl Tryz.underlying24 rfl s1 rfl xl.out.all ?_)
                | (go_at_call 21
                   refine hblk.out.mono ?_
                   rintro e u ⟨bq, bn, bc, rfl, ho, hb⟩
                   have hbn : ((bn : Int) == 0) = false := by
                     have h1 := ho.len
                     have h2 := List.length_pos_iff.2 hne.out
                     rw [beq_eq_false_iff_ne]
                     intro e0
                     omega
                   have hbu := Lib.hid (below_step hb hbAD.out)
                   clear ho hb z0))
              go_roundw
              case rel => exact ⟨p + 1, by omega, by go_num, hbu.out⟩
              case measure => simp [intOf]; omega
            · obtain rfl : wn = p := by omega
              have hbf := Lib.hid (below_step hr4.out hbw.out)
              go_wp2
              go_roundw
              case rel => exact ⟨k + 1, by omega, by go_num, hbf.out⟩
              case measure => simp [intOf]; omega
    · obtain rfl : n = k := by omega
      go_wp2
      go_ret
      exact ⟨rfl, below_step hr.out hb0.out.1⟩
end Go.Proofs.YtbgpppbcffpdbaaGreatDoor
