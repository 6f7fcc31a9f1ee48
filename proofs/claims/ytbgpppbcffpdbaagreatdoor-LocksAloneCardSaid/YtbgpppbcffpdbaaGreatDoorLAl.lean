/- LocksAlone: for every locks and every op the law returns true, and its arguments read as they did, where the tables of modes are laid as the program's text lays them. No other condition. -/
import Derived.Test.YtbgpppbcffpdbaaGreatDoorLTo
import Derived.Test.YtbgpppbcffpdbaaGreatDoorLWk
import Derived.Test.YtbgpppbcffpdbaaGreatDoorLAr
import Derived.Test.YtbgpppbcffpdbaaGreatDoorTie
import Derived.Test.YtbgpppbcffpdbaaGreatDoorCards
import Derived.Deep.DeepCutAuto
namespace Go.Proofs.YtbgpppbcffpdbaaGreatDoor
open Go.ChangeShapes Go.WideShapes Go.ChangeAt Go.RowKit

theorem neqRes (w : World) (a : Int) (b : Bool) (c : Int) (d : Int) (e : Bool) (f : Int) : (binOp .neq 30 (.agg #[.int .i64 a, .bool b, .int .u16 c]) (.agg #[.int .i64 d, .bool e, .int .u16 f])).run Tryz.prog w = .ok (.bool (!decide ((⟨a, b, c⟩ : ResD) = ⟨d, e, f⟩))) w := by
  have hS : Tryz.prog.underlying 30 = some (.struct (Tryz.prog.fieldsOf 30)) := by kernel_rfl
  have hp : Tryz.prog.stoodInHeld 30 = false := by kernel_rfl
  have u3 := Tryz.underlying3
  have u4 := Tryz.underlying4
  have u5 := Tryz.underlying28
  have a3 := Tryz.isAgg3
  have a4 := Tryz.isAgg4
  have a5 := Tryz.isAgg28
  have z3 := Tryz.sizeOf3
  have z4 := Tryz.sizeOf4
  have z5 := Tryz.sizeOf28
  rw [run_neq_struct, show (10000 : Nat) = 9999 + 1 from rfl, run_equalIn_agg w 9999 30 _ _ hS hp]
  simp only [Program.fieldsOf, Tryz.underlying30]
  clear hS hp
  go_simp
  by_cases h1 : a = d <;> by_cases h2 : b = e <;> by_cases h3 : c = f <;> simp [h1, h2, h3]
def othB (x : Int) (d : QueD) : Bool := d.hs.any (fun h => !decide (h.x = x)) || decide (0 < d.ws.length)
def othL (r : ResD) (x : Int) (L : List QueD) : Bool := L.any (fun d => decide (d.res = r) && othB x d)
theorem othL_next {r : ResD} {x : Int} {L : List QueD} {k : Nat} {d : QueD} (h : L[k]? = some d) : othL r x (L.take (k + 1)) = (othL r x (L.take k) || (decide (d.res = r) && othB x d)) := by
  unfold othL
  rw [List.take_add_one, h]
  simp
theorem othH_next {x : Int} {l : List HoldD} {k : Nat} {d : HoldD} (h : l[k]? = some d) : (l.take (k + 1)).any (fun h => !decide (h.x = x)) = ((l.take k).any (fun h => !decide (h.x = x)) || !decide (d.x = x)) := by
  rw [List.take_add_one, h]
  simp
theorem oth_some {r : ResD} {x : Int} {L : List QueD} (h : ∃ d ∈ L, d.res = r ∧ ((∃ h ∈ d.hs, h.x ≠ x) ∨ d.ws ≠ [])) : othL r x L = true := by
  obtain ⟨d, hd, hr, h⟩ := h
  unfold othL
  rw [List.any_eq_true]
  refine ⟨d, hd, ?_⟩
  rw [decide_eq_true hr, Bool.true_and]
  unfold othB
  rcases h with ⟨a, ha, hx⟩ | h
  · rw [List.any_eq_true.2 ⟨a, ha, by simp [hx]⟩, Bool.true_or]
  · rw [decide_eq_true (List.length_pos_iff.2 h), Bool.or_true]

set_option maxRecDepth 100000 in
set_option maxHeartbeats 4000000 in
theorem alone_any (q : Option Addr) (n c : Nat) (V : List QV) (L : List QueD) (kd x m t : Int) (k : Bool) (id : Int) (w : World) (hL : Lay w) (h : LkOn w q n c V L) (g0 : 0 ≤ id) (g1 : id < 65536) :
    Calls Tryz.prog 8 #[.agg #[.slice q n c], .agg #[.int .i64 kd, .int .i64 x, .int .i64 m, .int .i64 t, .bool k, .int .u16 id]] w (fun e w' => e = .returned (.bool true) ∧ Below w.heap.size w w') := by
  obtain ⟨W0, hW0⟩ : ∃ W, w.alloc (.cells #[.slice q n c] 24) = W := ⟨_, rfl⟩
  have hb0 := Lib.hid (one_box (xs := [.slice q n c]) hW0)
  obtain ⟨W, hW⟩ : ∃ W, W0.alloc (.cells #[.int .i64 kd, .int .i64 x, .int .i64 m, .int .i64 t, .bool k, .int .u16 id] 32) = W := ⟨_, rfl⟩
  have hb1 := Lib.hid (one_box (xs := [.int .i64 kd, .int .i64 x, .int .i64 m, .int .i64 t, .bool k, .int .u16 id]) hW)
  have hs0 : Hid (W0.heap.size = w.heap.size + 1) := hb0.out.2.2
  have hs1 : Hid (W.heap.size = w.heap.size + 2) := by show _ = _; have h1 := hb1.out.2.2; have h2 := hs0.out; omega
  have hbW := Lib.hid (below_step hb1.out.1 hb0.out.1)
  have x0 := Lib.hid (hb0.out.2.1.below hb1.out.1 (Nat.le_refl _))
  have hh := Lib.hid (h.below hbW.out (Nat.le_refl _))
  have hLa := Lib.hid hL
  have hS : Hid (∀ u, Below w.heap.size w u → Lay u) := fun u hu => ⟨hLa.out.goes hu, hLa.out.cov hu⟩
  have s1 := sizeLks (.slice q n c)
  have s6 := sizeOp (.int .i64 kd) (.int .i64 x) (.int .i64 m) (.int .i64 t) (.bool k) (.int .u16 id)
  have hG0 := Lib.hid g0
  have hG1 := Lib.hid g1
  clear h hL g0 g1
  go_enter Tryz.func8, Tryz.ntmps8
  obtain ⟨L', wh, g, er, hR⟩ := runR_tot (fewL L) kd x m ⟨t, k, id⟩
  have hR' := Lib.hid hR
  clear hR
  have hwk := Lib.hid (wakes_any W (hS.out _ hbW.out))
  go_wp2_with (first
    | (go_at_call 9
       refine hwk.out.mono ?_
       rintro e w1 ⟨rfl, hb⟩
       have hb2 := Lib.hid (below_step hb hbW.out)
       have hb2W := Lib.hid hb
       have x0' := Lib.hid (x0.out.below hb (Nat.le_refl _))
       have hh1 := Lib.hid (hh.out.below hb (Nat.le_refl _))
       have hfew := Lib.hid (few_any q n c V L w1 hh1.out)
       clear hb hW0 hW)
    | (with_reducible refine wpList_load_at rfl 24 (.tmp 2) rfl Tryz.underlying24 rfl s1 rfl x0'.out.all ?_)
    | (go_at_call 10
       refine hfew.out.mono ?_
       rintro e w2 ⟨q1, n1, c1, V1, rfl, hk, hb⟩
       have hb3 := Lib.hid (below_step hb hb2.out)
       have hb3W := Lib.hid (below_step hb hb2W.out)
       obtain ⟨w3, hw3⟩ : ∃ u, w2.alloc (.cells #[.slice q1 n1 c1] 24) = u := ⟨_, rfl⟩
       have hb4 := Lib.hid (one_box (xs := [.slice q1 n1 c1]) hw3)
       have hk3 := Lib.hid (hk.below hb4.out.1 (Nat.le_refl _))
       have hbw3 := Lib.hid (below_step hb4.out.1 hb3.out)
       have hbW3 := Lib.hid (below_step hb4.out.1 hb3W.out)
       have x1 := Lib.hid (hb1.out.2.1.below hbW3.out (Nat.le_refl _))
       have s2 := sizeLks (.slice q1 n1 c1)
       have hn1 : Hid (n1 ≤ 501) := few_n hk
       have hln := Lib.hid hk.len
       have hrun := Lib.hid (run_any q1 n1 c1 V1 (fewL L) kd x m t k id L' wh g er hR'.out w3 (hS.out _ hbw3.out) hk3.out ((few_len L).sm (by decide)) (by have := hn1.out; omega) hG0.out hG1.out)
       clear hk hb hwk hfew)
    | (with_reducible refine wpList_load_at rfl 24 (.tmp 5) rfl Tryz.underlying24 rfl s2 rfl hb4.out.2.1.all ?_)
    | (with_reducible refine wpList_load_at rfl 32 (.tmp 3) rfl Tryz.underlying32 rfl s6 rfl x1.out.all ?_))
  clear hw3
  refine hrun.out.mono ?_
  rintro e w4 ⟨q5, n5, c5, V5, gq, gn, gc, rfl, k1, k2, k3⟩
  obtain ⟨w5, hw5⟩ : ∃ u, w4.alloc (.cells #[.slice q5 n5 c5, .int .i64 wh, .slice gq gn gc, .int .i64 er] 36) = u := ⟨_, rfl⟩
  have hb5 := Lib.hid (one_box (xs := [.slice q5 n5 c5, .int .i64 wh, .slice gq gn gc, .int .i64 er]) hw5)
  have hk5 := Lib.hid (k1.lk.below hb5.out.1 (Nat.le_refl _))
  have hb45 : Hid (Below w3.heap.size w3 w5) := k3.trans (hb5.out.1.mono k3.size)
  have hk35 := Lib.hid (hk3.out.below hb45.out (Nat.le_refl _))
  have hbw5 := Lib.hid (below_step hb45.out hbw3.out)
  have x5 := Lib.hid (x1.out.below hb45.out (Nat.le_refl _))
  have y5 := Lib.hid (hb4.out.2.1.below hb45.out (Nat.le_refl _))
  clear k1 k2 k3 hrun
  go_upto_region 5 with fail
  clear hw5
  have d0 := x5.out.cell 0 rfl
  have e3 := hb5.out.2.1.cell 3 rfl
  have d5 := y5.out.cell 0 rfl
  obtain ⟨v, hv⟩ : ∃ v, (IntKind.u64.wrap kd).tmod 7 = v := ⟨_, rfl⟩
  by_cases hq : er = 0
  · subst hq
    by_cases hkd : v > 4
    · go_wp2
      go_ret
      exact ⟨rfl, hbw5.out⟩
    · have hkd' : Hid (kindR kd ≠ 5 ∧ kindR kd ≠ 6) := by
        have h1 : kindR kd = v := hv
        refine ⟨?_, ?_⟩ <;> omega
      obtain ⟨hA, hF⟩ := run_asked hkd'.out.1 hkd'.out.2 hR'.out
      have hok := Lib.hid (ask_ok hA (lk_ok hk3.out) ⟨hG0.out, hG1.out⟩ hF)
      have hsm := Lib.hid ((askF_len (few_len L) hF).sm (by decide))
      have hl5 : Hid (n5 ≤ 500) := by show _ ≤ _; have h1 := hk5.out.len; have h2 := hok.out.chk.len; omega
      clear hA hF
      go_wp2
      clear d0 e3 d5 hR'
      have hn1' := hn1.out
      go_loopw [7, 36] (fun v7 v36 wr => ∃ j : Nat, j ≤ n1 ∧ v36 = .int .i64 j ∧ v7 = .bool (othL ⟨t, k, id⟩ x ((fewL L).take j)) ∧ Hid (Below w5.heap.size w5 wr)) (fun v7 v36 _ => n1 - (intOf v36).toNat)
      case atStart => exact ⟨0, Nat.zero_le _, rfl, rfl, Below.refl _ _⟩
      case round =>
        obtain ⟨j, hj, rfl, rfl, hr⟩ := hrel
        obtain ⟨wo, rfl⟩ : ∃ u, u = wr := ⟨_, rfl⟩
        obtain ⟨b, hb⟩ : ∃ b, othL ⟨t, k, id⟩ x ((fewL L).take j) = b := ⟨_, rfl⟩
        rw [hb]
        by_cases hlt : j < n1
        · obtain ⟨A, ⟨⟨rt, rk, ri⟩, hq, hn, hc, wq, wn, wc⟩, d, hqA, hV, hd, hond, hcA⟩ := (hk35.out.below hr.out (Nat.le_refl _)).at hlt
          subst hqA
          have hcell : Hid (∀ j' v, ([.int .i64 rt, .bool rk, .int .u16 ri, .slice hq hn hc, .slice wq wn wc] : List Value)[j']? = some v → wo.cell? ((A.add (j * 5)).add j') = some v) := fun j' v hj => hcA j' v hj
          have sq := sizeQue (.int .i64 rt) (.bool rk) (.int .u16 ri) (.slice hq hn hc) (.slice wq wn wc)
          have i0 : (0 : Int) ≤ j := by omega
          have i1 : (j : Int) < n1 := by omega
          obtain ⟨WA, hWA⟩ : ∃ W', wo.alloc (.cells #[.int .i64 rt, .bool rk, .int .u16 ri, .slice hq hn hc, .slice wq wn wc] 43) = W' := ⟨_, rfl⟩
          have hbA := Lib.hid (one_box (xs := [.int .i64 rt, .bool rk, .int .u16 ri, .slice hq hn hc, .slice wq wn wc]) hWA)
          have hd' := Lib.hid hd
          have hond' := Lib.hid (hond.below hbA.out.1 (Nat.le_refl _))
          have hbw := Lib.hid (below_step hbA.out.1 hr.out)
          have x6 := Lib.hid (x5.out.below hbw.out (Nat.le_refl _))
          have hb' := Lib.hid hb
          have hresA : Hid (∀ j v, ([.int .i64 rt, .bool rk, .int .u16 ri] : List Value)[j]? = some v → WA.cell? ((⟨wo.heap.size, 0, none⟩ : Addr).add j) = some v) := fun j v hj => hbA.out.2.1.part (o := 0) (ys := [.int .i64 rt, .bool rk, .int .u16 ri]) (fun j v hj => by match j, hj with | 0, h => exact h | 1, h => exact h | 2, h => exact h | j + 3, h => simp at h) j v hj
          have hresO : Hid (∀ j v, ([.int .i64 t, .bool k, .int .u16 id] : List Value)[j]? = some v → WA.cell? ((⟨W0.heap.size, 3, none⟩ : Addr).add j) = some v) := fun j v hj => x6.out.part (o := 3) (ys := [.int .i64 t, .bool k, .int .u16 id]) (fun j v hj => by match j, hj with | 0, h => exact h | 1, h => exact h | 2, h => exact h | j + 3, h => simp at h) j v hj
          have sr := sizeRes (.int .i64 rt) (.bool rk) (.int .u16 ri)
          have so := sizeRes (.int .i64 t) (.bool k) (.int .u16 id)
          have heq := fun u => neqRes u rt rk ri t k id
          have cw := hbA.out.2.1.cell 4 rfl
          have ch := hbA.out.2.1.cell 3 rfl
          clear hcA hV hd hond hb hkd hv
          by_cases hre : (⟨rt, rk, ri⟩ : ResD) = ⟨t, k, id⟩
          · rw [decide_eq_true hre] at heq
            have hre' := Lib.hid hre
            clear hre
            go_wp2_with (first
              | (with_reducible refine wpList_load_at rfl 43 (.tmp 38) rfl Tryz.underlying43 rfl sq rfl hcell.out ?_)
              | (with_reducible refine wpList_load_at rfl 30 (.tmp 40) rfl Tryz.underlying30 rfl sr rfl hresA.out ?_)
              | (with_reducible refine wpList_load_at rfl 30 (.tmp 42) rfl Tryz.underlying30 rfl so rfl hresO.out ?_))
            clear hWA hcell heq hresA hresO cw ch
            go_loopw [7, 48] (fun v7 v48 wr => ∃ i : Nat, i ≤ hn ∧ v48 = .int .i64 i ∧ v7 = .bool (b || (d.hs.take i).any (fun h => !decide (h.x = x))) ∧ Hid (Below WA.heap.size WA wr)) (fun v7 v48 _ => hn - (intOf v48).toNat)
            case atStart => exact ⟨0, Nat.zero_le _, rfl, by simp, Below.refl _ _⟩
            case round =>
              obtain ⟨i, hi, rfl, rfl, hr2⟩ := hrel
              obtain ⟨wi, rfl⟩ : ∃ u, u = wr := ⟨_, rfl⟩
              obtain ⟨b2, hb2⟩ : ∃ b2, (b || (d.hs.take i).any (fun h => !decide (h.x = x))) = b2 := ⟨_, rfl⟩
              rw [hb2]
              have hb2' := Lib.hid hb2
              clear hb2
              have hnb : Hid (hn ≤ 9223372036854775807) := by show _ ≤ _; have h1 : hn ≤ hc := hond'.out.hs.le; have h2 : hc ≤ maxLen := hond'.out.hs.cap; unfold maxLen at h2; omega
              have hnb' := hnb.out
              by_cases hli : i < hn
              · obtain ⟨AH, ⟨hx, hm⟩, hqH, hH, hcH⟩ := (hond'.out.hs.below hr2.out (Nat.le_refl _)).at hli
                subst hqH
                have hcellH : Hid (∀ j' v, ([.int .i64 hx, .int .i64 hm] : List Value)[j']? = some v → wi.cell? ((AH.add (i * 2)).add j') = some v) := fun j' v hj => hcH j' v hj
                have sh := sizeHold (.int .i64 hx) (.int .i64 hm)
                have p0 : (0 : Int) ≤ i := by omega
                have p1 : (i : Int) < hn := by omega
                obtain ⟨WB, hWB⟩ : ∃ W', wi.alloc (.cells #[.int .i64 hx, .int .i64 hm] 45) = W' := ⟨_, rfl⟩
                have hbB := Lib.hid (one_box (xs := [.int .i64 hx, .int .i64 hm]) hWB)
                have hH' := Lib.hid hH
                have hbw2 := Lib.hid (below_step hbB.out.1 hr2.out)
                have z1 := (x6.out.below hbw2.out (Nat.le_refl _)).cell 1 rfl
                have z0 := hbB.out.2.1.cell 0 rfl
                clear hcH hH
                cases b2 with
                | true =>
                  go_wp2_with (first
                    | (with_reducible refine wpList_load_at rfl 45 (.tmp 50) rfl Tryz.underlying45 rfl sh rfl hcellH.out ?_))
                  go_roundw
                  case rel =>
                    refine ⟨i + 1, by omega, by go_num, ?_, hbw2.out⟩
                    rw [othH_next hH'.out, ← Bool.or_assoc, hb2'.out, Bool.true_or]
                  case measure => simp [intOf]; omega
                | false =>
                  by_cases hxe : hx = x
                  · have hxe' := Lib.hid hxe
                    have hxb : (hx == x) = true := by simp [hxe]
                    clear hxe
                    go_wp2_with (first
                      | (with_reducible refine wpList_load_at rfl 45 (.tmp 50) rfl Tryz.underlying45 rfl sh rfl hcellH.out ?_))
                    go_roundw
                    case rel =>
                      refine ⟨i + 1, by omega, by go_num, ?_, hbw2.out⟩
                      rw [othH_next hH'.out, ← Bool.or_assoc, hb2'.out, Bool.false_or, decide_eq_true hxe'.out]
                      simp [hxe'.out]
                    case measure => simp [intOf]; omega
                  · have hxe' := Lib.hid hxe
                    have hxb : (hx == x) = false := by simpa using hxe
                    clear hxe
                    go_wp2_with (first
                      | (with_reducible refine wpList_load_at rfl 45 (.tmp 50) rfl Tryz.underlying45 rfl sh rfl hcellH.out ?_))
                    go_roundw
                    case rel =>
                      refine ⟨i + 1, by omega, by go_num, ?_, hbw2.out⟩
                      rw [othH_next hH'.out, ← Bool.or_assoc, hb2'.out, Bool.false_or, decide_eq_false hxe'.out]
                      simp [hxe'.out]
                    case measure => simp [intOf]; omega
              · obtain rfl : hn = i := by omega
                have cw := (hbA.out.2.1.below hr2.out (Nat.le_refl _)).cell 4 rfl
                have hbj := Lib.hid (below_step hr2.out hbw.out)
                have hall : Hid ((b || d.hs.any (fun h => !decide (h.x = x))) = b2) := by
                  show _ = _
                  have h1 := hb2'.out
                  rwa [List.take_of_length_le (Nat.le_of_eq hond'.out.hs.len)] at h1
                have hdr : Hid (d.res = ⟨t, k, id⟩) := hond'.out.res.symm.trans hre'.out
                cases b2 with
                | true =>
                  go_wp2
                  go_roundw
                  case rel =>
                    refine ⟨j + 1, by omega, by go_num, ?_, hbj.out⟩
                    rw [othL_next hd'.out, hb'.out, decide_eq_true hdr.out, Bool.true_and]
                    unfold othB
                    rw [← Bool.or_assoc, hall.out, Bool.true_or]
                  case measure => simp [intOf]; omega
                | false =>
                  have hwl := Lib.hid hond'.out.ws.len
                  by_cases hw0 : 0 < wn
                  · have q0 : (wn : Int) > 0 := by omega
                    go_wp2
                    go_roundw
                    case rel =>
                      refine ⟨j + 1, by omega, by go_num, ?_, hbj.out⟩
                      rw [othL_next hd'.out, hb'.out, decide_eq_true hdr.out, Bool.true_and]
                      unfold othB
                      rw [← Bool.or_assoc, hall.out, Bool.false_or, hwl.out, decide_eq_true hw0]
                    case measure => simp [intOf]; omega
                  · have q0 : ¬ (wn : Int) > 0 := by omega
                    go_wp2
                    go_roundw
                    case rel =>
                      refine ⟨j + 1, by omega, by go_num, ?_, hbj.out⟩
                      rw [othL_next hd'.out, hb'.out, decide_eq_true hdr.out, Bool.true_and]
                      unfold othB
                      rw [← Bool.or_assoc, hall.out, Bool.false_or, hwl.out, decide_eq_false hw0]
                    case measure => simp [intOf]; omega
          · rw [decide_eq_false hre] at heq
            have hre' := Lib.hid hre
            clear hre
            go_wp2_with (first
              | (with_reducible refine wpList_load_at rfl 43 (.tmp 38) rfl Tryz.underlying43 rfl sq rfl hcell.out ?_)
              | (with_reducible refine wpList_load_at rfl 30 (.tmp 40) rfl Tryz.underlying30 rfl sr rfl hresA.out ?_)
              | (with_reducible refine wpList_load_at rfl 30 (.tmp 42) rfl Tryz.underlying30 rfl so rfl hresO.out ?_))
            go_roundw
            case rel =>
              refine ⟨j + 1, by omega, by go_num, ?_, hbw.out⟩
              rw [othL_next hd'.out, hb'.out, ← hond'.out.res, decide_eq_false hre'.out, Bool.false_and, Bool.or_false]
            case measure => simp [intOf]; omega
        · obtain rfl : n1 = j := by omega
          have hck := Lib.hid hok.out.chk
          have hbx : Hid (∀ u, Below w5.heap.size w5 u → Below w.heap.size w u) := fun u hu => below_step hu hbw5.out
          have hop : Hid (∀ u, Below w5.heap.size w5 u → Boxed u W0.heap.size [.int .i64 kd, .int .i64 x, .int .i64 m, .int .i64 t, .bool k, .int .u16 id]) := fun u hu => x5.out.below hu (Nat.le_refl _)
          have htd : Hid (∀ u, Below w5.heap.size w5 u → Boxed u w4.heap.size [.slice q5 n5 c5, .int .i64 wh, .slice gq gn gc, .int .i64 0]) := fun u hu => hb5.out.2.1.below hu (Nat.le_refl _)
          have htl : Hid (∀ u, Below w5.heap.size w5 u → ∀ j v, ([.slice q5 n5 c5] : List Value)[j]? = some v → u.cell? ((⟨w4.heap.size, 0, none⟩ : Addr).add j) = some v) := fun u hu j v hj => (htd.out u hu).part (o := 0) (ys := [.slice q5 n5 c5]) (fun j v hj => by match j, hj with | 0, h => exact h | j + 1, h => simp at h) j v hj
          have hre3 : Hid (∀ u, Below w5.heap.size w5 u → ∀ j v, ([.int .i64 t, .bool k, .int .u16 id] : List Value)[j]? = some v → u.cell? ((⟨W0.heap.size, 3, none⟩ : Addr).add j) = some v) := fun u hu j v hj => (hop.out u hu).part (o := 3) (ys := [.int .i64 t, .bool k, .int .u16 id]) (fun j v hj => by match j, hj with | 0, h => exact h | 1, h => exact h | 2, h => exact h | j + 3, h => simp at h) j v hj
          have s9 := sizeLks (.slice q5 n5 c5)
          have so := sizeRes (.int .i64 t) (.bool k) (.int .u16 id)
          have c1 := (hop.out wo hr.out).cell 1 rfl
          obtain ⟨mo, hmo0⟩ : ∃ mo, heldH (qOf L' ⟨t, k, id⟩).hs x = mo := ⟨_, rfl⟩
          have hmo : Hid (ModeE L' x ⟨t, k, id⟩ mo) := .inr ⟨hck.out, hmo0.symm⟩
          clear hkd hv
          have hwhat := hok.out.what
          rw [hmo0] at hwhat
          clear hmo0
          have hnot : x ∉ txL L' → Hid (WaitsR L' x ⟨0, false, 0⟩ 0 false) := fun h => .inr (.inl ⟨hck.out, wtOf_none (nowait_iff.2 h), rfl, rfl, rfl⟩)
          rcases hwhat with ⟨rfl, _, hnx, hcv⟩ | ⟨rfl, hnx, hcv⟩ | ⟨rfl, ⟨d', hd', hdr, hcv⟩, hcn, hoth⟩
          · have hco : Hid (covB mo m = true) := hcv
            have hwt := hnot hnx
            clear hnx hcv hnot hb
            go_wp2_with (first
              | (with_reducible refine wpList_load_at rfl 24 (.tmp 69) rfl Tryz.underlying24 rfl s9 rfl (htl.out wo hr.out) ?_)
              | (with_reducible refine wpList_load_at rfl 30 (.tmp 73) rfl Tryz.underlying30 rfl so rfl (hre3.out wo hr.out) ?_)
              | (go_at_call 26
                 refine (mode_any q5 n5 c5 V5 L' x t k id mo hmo.out wo (hS.out _ (hbx.out wo hr.out)) (hk5.out.below hr.out (Nat.le_refl _)) hsm.out (by have := hl5.out; omega) (fun h => ⟨h.sort, h.sorts⟩) hG0.out hG1.out).mono ?_
                 rintro e u1 ⟨rfl, hb⟩
                 have hu1 := Lib.hid (below_step hb hr.out)
                 have cx := (hop.out u1 hu1.out).cell 1 rfl
                 clear hb c1)
              | (with_reducible refine wpList_load_at rfl 24 (.tmp 77) rfl Tryz.underlying24 rfl s9 rfl (htl.out u1 hu1.out) ?_)
              | (go_at_call 19
                 refine (waits_any q5 n5 c5 V5 L' x 0 false 0 0 false hwt.out u1 (hS.out _ (hbx.out u1 hu1.out)) (hk5.out.below hu1.out (Nat.le_refl _)) hsm.out (by have := hl5.out; omega)).mono ?_
                 rintro e u2 ⟨rfl, hb⟩
                 have hu2 := Lib.hid (below_step hb hu1.out)
                 obtain ⟨u3, hu3'⟩ : ∃ u, u2.alloc (.cells #[.int .i64 0, .bool false, .int .u16 0] 30) = u := ⟨_, rfl⟩
                 have hb3 := Lib.hid (one_box (xs := [.int .i64 0, .bool false, .int .u16 0]) hu3')
                 have r3 : Hid (RowV 30 u3 u2.heap.size [.int .i64 0, .bool false, .int .u16 0]) := RowV.made' (cs := [.int .i64 0, .bool false, .int .u16 0]) hu3'
                 have hu3 := Lib.hid (below_step hb3.out.1 hu2.out)
                 have sv : (Tryz.prog.info? 30).map (·.size) = some ([.int .i64 0, .bool false, .int .u16 0] : List Value).length := sizeRes _ _ _
                 have hone : ∀ y ∈ ([.int .i64 0, .bool false, .int .u16 0] : List Value), y.oneCell' = true := fun y hy => by simp only [List.mem_cons, List.not_mem_nil, or_false] at hy; rcases hy with rfl | rfl | rfl <;> rfl
                 clear hb cx)
              | ((with_reducible refine wpList_store_at rfl 30 (.tmp 13) (.tmp 82) rfl (o := 0) (vs := [.int .i64 0, .bool false, .int .u16 0]) rfl rfl r3.out sv (Nat.le_refl _) hone ?_)
                 intro u9 h9 hg9
                 have r9 : Hid (RowV 30 u9 u2.heap.size [.int .i64 0, .bool false, .int .u16 0]) := h9
                 have hu9 : Hid (Below w5.heap.size w5 u9) := low_step hu3.out hg9 hu2.out.size
                 have cw3 := (htd.out u9 hu9.out).cell 1 rfl
                 have cm3 := (hop.out u9 hu9.out).cell 2 rfl
                 have hst3 := Lib.hid (hbx.out u9 hu9.out)
                 have hcv9 := Lib.hid (hLa.out.cov hst3.out)
                 clear h9 hg9 hone hu3')
              | (go_at_call 28
                 (with_reducible refine (cov_any mo m u9 hcv9.out).mono ?_)
                 rw [hco.out]
                 rintro e u4 ⟨rfl, hb⟩
                 have hst5 := Lib.hid (below_step hb hst3.out)
                 clear hb))
            go_ret
            exact ⟨rfl, hst5.out⟩
          · have hco : Hid (covB mo m = true) := hcv
            have hwt := hnot hnx
            clear hnx hcv hnot hb
            go_wp2_with (first
              | (with_reducible refine wpList_load_at rfl 24 (.tmp 69) rfl Tryz.underlying24 rfl s9 rfl (htl.out wo hr.out) ?_)
              | (with_reducible refine wpList_load_at rfl 30 (.tmp 73) rfl Tryz.underlying30 rfl so rfl (hre3.out wo hr.out) ?_)
              | (go_at_call 26
                 refine (mode_any q5 n5 c5 V5 L' x t k id mo hmo.out wo (hS.out _ (hbx.out wo hr.out)) (hk5.out.below hr.out (Nat.le_refl _)) hsm.out (by have := hl5.out; omega) (fun h => ⟨h.sort, h.sorts⟩) hG0.out hG1.out).mono ?_
                 rintro e u1 ⟨rfl, hb⟩
                 have hu1 := Lib.hid (below_step hb hr.out)
                 have cx := (hop.out u1 hu1.out).cell 1 rfl
                 clear hb c1)
              | (with_reducible refine wpList_load_at rfl 24 (.tmp 77) rfl Tryz.underlying24 rfl s9 rfl (htl.out u1 hu1.out) ?_)
              | (go_at_call 19
                 refine (waits_any q5 n5 c5 V5 L' x 0 false 0 0 false hwt.out u1 (hS.out _ (hbx.out u1 hu1.out)) (hk5.out.below hu1.out (Nat.le_refl _)) hsm.out (by have := hl5.out; omega)).mono ?_
                 rintro e u2 ⟨rfl, hb⟩
                 have hu2 := Lib.hid (below_step hb hu1.out)
                 obtain ⟨u3, hu3'⟩ : ∃ u, u2.alloc (.cells #[.int .i64 0, .bool false, .int .u16 0] 30) = u := ⟨_, rfl⟩
                 have hb3 := Lib.hid (one_box (xs := [.int .i64 0, .bool false, .int .u16 0]) hu3')
                 have r3 : Hid (RowV 30 u3 u2.heap.size [.int .i64 0, .bool false, .int .u16 0]) := RowV.made' (cs := [.int .i64 0, .bool false, .int .u16 0]) hu3'
                 have hu3 := Lib.hid (below_step hb3.out.1 hu2.out)
                 have sv : (Tryz.prog.info? 30).map (·.size) = some ([.int .i64 0, .bool false, .int .u16 0] : List Value).length := sizeRes _ _ _
                 have hone : ∀ y ∈ ([.int .i64 0, .bool false, .int .u16 0] : List Value), y.oneCell' = true := fun y hy => by simp only [List.mem_cons, List.not_mem_nil, or_false] at hy; rcases hy with rfl | rfl | rfl <;> rfl
                 clear hb cx)
              | ((with_reducible refine wpList_store_at rfl 30 (.tmp 13) (.tmp 82) rfl (o := 0) (vs := [.int .i64 0, .bool false, .int .u16 0]) rfl rfl r3.out sv (Nat.le_refl _) hone ?_)
                 intro u9 h9 hg9
                 have r9 : Hid (RowV 30 u9 u2.heap.size [.int .i64 0, .bool false, .int .u16 0]) := h9
                 have hu9 : Hid (Below w5.heap.size w5 u9) := low_step hu3.out hg9 hu2.out.size
                 have cw3 := (htd.out u9 hu9.out).cell 1 rfl
                 have cm3 := (hop.out u9 hu9.out).cell 2 rfl
                 have hst3 := Lib.hid (hbx.out u9 hu9.out)
                 have hcv9 := Lib.hid (hLa.out.cov hst3.out)
                 clear h9 hg9 hone hu3')
              | (go_at_call 28
                 (with_reducible refine (cov_any mo m u9 hcv9.out).mono ?_)
                 rw [hco.out]
                 rintro e u4 ⟨rfl, hb⟩
                 have hst5 := Lib.hid (below_step hb hst3.out)
                 clear hb))
            go_ret
            exact ⟨rfl, hst5.out⟩
          · have hco : Hid (covB mo m = false) := hcn
            obtain ⟨mw, hmw⟩ : ∃ mw, (wtrOf d' x).m = mw := ⟨_, rfl⟩
            rw [hmw] at hcv
            have hcw : Hid (covB mw m = true) := hcv
            have hwt : Hid (WaitsR L' x ⟨t, k, id⟩ mw true) := .inr (.inr ⟨hck.out, d', hd', hdr.symm, hmw.symm, rfl⟩)
            obtain rfl : b = true := by
              rw [← hb, List.take_of_length_le (Nat.le_of_eq hln.out)]
              exact oth_some hoth
            have heq := fun u => eqRes u t k id t k id
            rw [decide_eq_true rfl] at heq
            clear hcv hnot hb hcn hoth hd' hdr hmw
            go_wp2_with (first
              | (with_reducible refine wpList_load_at rfl 24 (.tmp 69) rfl Tryz.underlying24 rfl s9 rfl (htl.out wo hr.out) ?_)
              | (with_reducible refine wpList_load_at rfl 30 (.tmp 73) rfl Tryz.underlying30 rfl so rfl (hre3.out wo hr.out) ?_)
              | (go_at_call 26
                 refine (mode_any q5 n5 c5 V5 L' x t k id mo hmo.out wo (hS.out _ (hbx.out wo hr.out)) (hk5.out.below hr.out (Nat.le_refl _)) hsm.out (by have := hl5.out; omega) (fun h => ⟨h.sort, h.sorts⟩) hG0.out hG1.out).mono ?_
                 rintro e u1 ⟨rfl, hb⟩
                 have hu1 := Lib.hid (below_step hb hr.out)
                 have cx := (hop.out u1 hu1.out).cell 1 rfl
                 clear hb c1)
              | (with_reducible refine wpList_load_at rfl 24 (.tmp 77) rfl Tryz.underlying24 rfl s9 rfl (htl.out u1 hu1.out) ?_)
              | (go_at_call 19
                 refine (waits_any q5 n5 c5 V5 L' x t k id mw true hwt.out u1 (hS.out _ (hbx.out u1 hu1.out)) (hk5.out.below hu1.out (Nat.le_refl _)) hsm.out (by have := hl5.out; omega)).mono ?_
                 rintro e u2 ⟨rfl, hb⟩
                 have hu2 := Lib.hid (below_step hb hu1.out)
                 obtain ⟨u3, hu3'⟩ : ∃ u, u2.alloc (.cells #[.int .i64 0, .bool false, .int .u16 0] 30) = u := ⟨_, rfl⟩
                 have hb3 := Lib.hid (one_box (xs := [.int .i64 0, .bool false, .int .u16 0]) hu3')
                 have r3 : Hid (RowV 30 u3 u2.heap.size [.int .i64 0, .bool false, .int .u16 0]) := RowV.made' (cs := [.int .i64 0, .bool false, .int .u16 0]) hu3'
                 have hu3 := Lib.hid (below_step hb3.out.1 hu2.out)
                 have sv : (Tryz.prog.info? 30).map (·.size) = some ([.int .i64 t, .bool k, .int .u16 id] : List Value).length := sizeRes _ _ _
                 have hone : ∀ y ∈ ([.int .i64 t, .bool k, .int .u16 id] : List Value), y.oneCell' = true := fun y hy => by simp only [List.mem_cons, List.not_mem_nil, or_false] at hy; rcases hy with rfl | rfl | rfl <;> rfl
                 clear hb cx)
              | ((with_reducible refine wpList_store_at rfl 30 (.tmp 13) (.tmp 82) rfl (o := 0) (vs := [.int .i64 t, .bool k, .int .u16 id]) rfl rfl r3.out sv (Nat.le_refl _) hone ?_)
                 intro u9 h9 hg9
                 have r9 : Hid (RowV 30 u9 u2.heap.size [.int .i64 t, .bool k, .int .u16 id]) := h9
                 have hu9 : Hid (Below w5.heap.size w5 u9) := low_step hu3.out hg9 hu2.out.size
                 have cw3 := (htd.out u9 hu9.out).cell 1 rfl
                 have cm3 := (hop.out u9 hu9.out).cell 2 rfl
                 have hst3 := Lib.hid (hbx.out u9 hu9.out)
                 have hcv9 := Lib.hid (hLa.out.cov hst3.out)
                 have k0 : u9.cell? ⟨u2.heap.size, 0, none⟩ = some (.int .i64 t) := r9.out.cell 0
                 have k1 : u9.cell? ⟨u2.heap.size, 1, none⟩ = some (.bool k) := r9.out.cell 1
                 have k2 : u9.cell? ⟨u2.heap.size, 2, none⟩ = some (.int .u16 id) := r9.out.cell 2
                 have o3 := (hop.out u9 hu9.out).cell 3 rfl
                 have o4 := (hop.out u9 hu9.out).cell 4 rfl
                 have o5 := (hop.out u9 hu9.out).cell 5 rfl
                 clear h9 hg9 hone hu3')
              | (with_reducible refine wpList_load_at rfl 30 (.tmp 13) rfl Tryz.underlying30 rfl so rfl r9.out.boxed.all ?_)
              | (with_reducible refine wpList_load_at rfl 30 (.tmp 94) rfl Tryz.underlying30 rfl so rfl (hre3.out u9 hu9.out) ?_)
              | (go_at_call 28
                 (with_reducible refine (cov_any mw m u9 hcv9.out).mono ?_)
                 rw [hcw.out]
                 rintro e u4 ⟨rfl, hb⟩
                 have hu4 := Lib.hid (below_step hb hu9.out)
                 have cm4 := (hop.out u4 hu4.out).cell 2 rfl
                 have hst4 := Lib.hid (hbx.out u4 hu4.out)
                 have hcv4 := Lib.hid (hLa.out.cov hst4.out)
                 clear hb cm3 cw3 k0 k1 k2 o3 o4 o5)
              | (go_at_call 28
                 (with_reducible refine (cov_any mo m u4 hcv4.out).mono ?_)
                 rw [hco.out]
                 rintro e u5 ⟨rfl, hb⟩
                 have hst5 := Lib.hid (below_step hb hst4.out)
                 clear hb))
            go_ret
            exact ⟨rfl, hst5.out⟩
  · have hq2 : (er == 0) = false := by simpa using hq
    go_wp2
    go_ret
    exact ⟨rfl, hbw5.out⟩

set_option maxRecDepth 1000000 in
theorem alone_lifted (os : Os) (started : os.Started) (H : Type) (enc : TypeId × Value → H) :
    ReturnsInHanded {} Tryz.checked os 8 .any (fun w args => (Rows.locksAloneSpec.pre enc Tryz.prog Tryz.f8 [] false w args ∧ laidMetH Tryz.prog [("bursary/mode.goes", Rows.laid_bursary_mode_goes), ("bursary/mode.covers", Rows.laid_bursary_mode_covers)] w) ∧ sizedMet enc Tryz.prog Tryz.f8 (OpenSpec.ofChange Rows.locksAloneSpec) false w args)
      (Rows.locksAloneSpec.post enc Tryz.prog Tryz.f8 false true false false) := by
  refine returnsInHanded_of_change_and (C := Tryz.checked) (X := fun w _ => laidMetH Tryz.prog [("bursary/mode.goes", Rows.laid_bursary_mode_goes), ("bursary/mode.covers", Rows.laid_bursary_mode_covers)] w) (fun _ _ _ hh h => h.of_heap hh) own started (by kernel_rfl) Tryz.func8
    (ChangeSpec.witness_shaped (enc := enc) (C := Tryz.checked) (os := os) (X := fun w _ => laidMetH Tryz.prog [("bursary/mode.goes", Rows.laid_bursary_mode_goes), ("bursary/mode.covers", Rows.laid_bursary_mode_covers)] w) false (World.doorLaid Tryz.prog 400 os) #[.agg #[.slice none 0 0], .agg #[.int .i64 0, .int .i64 0, .int .i64 0, .int .i64 0, .bool false, .int .u16 0]] 8 rfl (World.shaped_of_RefB (by kernel_rfl) (by kernel_rfl)) (by kernel_rfl) (by kernel_rfl) (by kernel_rfl) (door_met os _)) ?_
  intro W base args ds gs before hval0 hW _ _ hL _
  have hval : ∀ (j : Nat) t v, Tryz.f8.params[j]? = some t → args[j]? = some v → Value.okWide Tryz.prog W .any base t v := hval0
  have hW' := hW
  obtain ⟨p, q, hA0, hV, rfl, _, _⟩ := hW
  have hA : DataW.TrodAll enc Tryz.prog W 0 (fun _ => true) true Tryz.f8.params.toList args.toList ds p := hA0
  rw [Tryz.params8] at hA hval
  obtain ⟨v0, v1, d0, d1, q0, q1, rfl, rfl, rfl, h0, h1⟩ := trodAll_two hA
  obtain ⟨rfl, rfl⟩ := trodVars_none hV
  have hT := of_laid hL
  obtain ⟨aq, an, ac, aV, aL, rfl, hl0⟩ := open_lks (hval 0 24 v0 rfl rfl) h0
  obtain ⟨kd, x, m, t, k, id, rfl, g0, g1⟩ := open_op (hval 1 32 v1 rfl rfl) h1
  refine (alone_any aq an ac aV aL kd x m t k id W hT hl0 g0 g1).mono fun e W' ⟨he, hb⟩ => ?_
  subst he
  exact ⟨_, rfl, law_post laidOut (of_decide_eq_true (by kernel_rfl)) rfl (by kernel_rfl) Tryz.underlying4 hW' ⟨rfl, rfl, rfl⟩ hb⟩

set_option maxRecDepth 1000000 in
theorem alone_said : Rows.LocksAloneSaid :=
  OpenClaim.holds_of_wide 8 Tryz.f8 rfl rfl rfl rfl rfl rfl rfl ⟨rfl, rfl, rfl, rfl, rfl⟩ rfl rfl rfl rfl rfl (by kernel_rfl) Tryz.func8 (by kernel_rfl)
    (of_decide_eq_true (by kernel_rfl)) (by unfold Func.isWrapper; first | (rw [if_pos (by decide +kernel)]; kernel_rfl) | (rw [if_neg (by decide +kernel)]; exact ⟨rfl, rfl⟩))
    (fun os started H enc _ => alone_lifted os started H enc)

set_option maxRecDepth 1000000 in
theorem alone_holds : Rows.LocksAloneCardSaid :=
  Claim7.holds_tied_plain_at .later [] [.wider, .wider] true Rows.locksAloneCard.stood.harness false
    alone_said (fun _ h => by cases h) (by kernel_rfl) (fun _ h => by cases h) locksAlone_row_tie rfl ⟨rfl, rfl⟩ (by kernel_rfl) rfl
    (fun f fn hf hfn => by
      obtain rfl : f = 8 := Option.some.inj ((show Tryz.prog.funcNamed "bursary/bursarylaw08.LocksAlone" = some 8 by kernel_rfl).symm.trans hf) |>.symm
      obtain rfl : fn = Tryz.f8 := (Option.some.inj (Tryz.func8.symm.trans hfn)).symm
      exact ⟨by kernel_rfl, fun j t ht => by
        rw [Tryz.params8] at ht
        have hm : t ∈ [24, 32] := by simpa using Array.mem_of_getElem? ht
        have hall : ([24, 32].all fun u => !Tryz.prog.wantsStandIn u) = true := by kernel_rfl
        exact (show Tryz.prog.wantsStandIn t = false by simpa using List.all_eq_true.1 hall t hm)⟩)
    (by kernel_rfl)

end Go.Proofs.YtbgpppbcffpdbaaGreatDoor
