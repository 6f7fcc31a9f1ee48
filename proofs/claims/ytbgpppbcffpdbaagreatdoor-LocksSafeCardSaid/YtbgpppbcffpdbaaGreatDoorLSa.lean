/- LocksSafe: for every row of operations the law returns true, and its argument reads as it did, where the tables of modes are laid as the program's text lays them. No other condition. -/
import Derived.Test.YtbgpppbcffpdbaaGreatDoorLGm
import Derived.Test.YtbgpppbcffpdbaaGreatDoorLSf
import Derived.Test.YtbgpppbcffpdbaaGreatDoorLWk
import Derived.Test.YtbgpppbcffpdbaaGreatDoorLAr
import Derived.Test.YtbgpppbcffpdbaaGreatDoorTie
import Derived.Test.YtbgpppbcffpdbaaGreatDoorCards
import Derived.Deep.DeepCutAuto
namespace Go.Proofs.YtbgpppbcffpdbaaGreatDoor
open Go.ChangeShapes Go.WideShapes Go.ChangeAt Go.RowKit Go.Deep Go.Joins

structure OpD where
  kd : Int
  x : Int
  m : Int
  res : ResD
@[reducible] instance : Cel OpD := ⟨fun o => [.int .i64 o.kd, .int .i64 o.x, .int .i64 o.m, .int .i64 o.res.t, .bool o.res.k, .int .u16 o.res.id], 6, fun _ => rfl, fun r v hv => by simp only [List.mem_cons, List.not_mem_nil, or_false] at hv; rcases hv with rfl | rfl | rfl | rfl | rfl | rfl <;> rfl, by decide⟩
set_option maxRecDepth 1000000
section
variable {H : Type} {enc : TypeId × Value → H} {W : World}
theorem op_cells {fuel : Nat} {cs : List Value} {x : DataW H × List MemPlace} (h : DataW.trod enc Tryz.prog W 0 (fun _ => true) true fuel 32 cs = some x) : ∃ o : OpD, cs = Cel.cells o ∧ o.res.ok := by
  obtain ⟨xs, n, _, _, hlen, hxl, hg⟩ := DataW.trod_struct Tryz.underlying32 h
  rw [cOp] at hlen
  have hx2 : xs.length = 4 := hxl
  match cs, hlen with
  | [c0, c1, c2, c3, c4, c5], _ =>
    have g0 : DataW.trod enc Tryz.prog W 0 (fun _ => true) true n 3 (([c0, c1, c2, c3, c4, c5].drop 0).take (Tryz.prog.cellsOf 3)) = xs[0]? := hg 0 _ rfl
    have g1 : DataW.trod enc Tryz.prog W 0 (fun _ => true) true n 3 (([c0, c1, c2, c3, c4, c5].drop 1).take (Tryz.prog.cellsOf 3)) = xs[1]? := hg 1 _ rfl
    have g2 : DataW.trod enc Tryz.prog W 0 (fun _ => true) true n 3 (([c0, c1, c2, c3, c4, c5].drop 2).take (Tryz.prog.cellsOf 3)) = xs[2]? := hg 2 _ rfl
    have g3 : DataW.trod enc Tryz.prog W 0 (fun _ => true) true n 30 (([c0, c1, c2, c3, c4, c5].drop 3).take (Tryz.prog.cellsOf 30)) = xs[3]? := hg 3 _ rfl
    obtain ⟨y0, e0⟩ := get_some (l := xs) (i := 0) (by omega)
    obtain ⟨y1, e1⟩ := get_some (l := xs) (i := 1) (by omega)
    obtain ⟨y2, e2⟩ := get_some (l := xs) (i := 2) (by omega)
    obtain ⟨y3, e3⟩ := get_some (l := xs) (i := 3) (by omega)
    rw [e0, cInt] at g0
    rw [e1, cInt] at g1
    rw [e2, cInt] at g2
    rw [e3, cRes] at g3
    obtain ⟨a, ha, _, _⟩ := DataW.trod_int Tryz.underlying3 g0
    obtain ⟨b, hb, _, _⟩ := DataW.trod_int Tryz.underlying3 g1
    obtain ⟨c, hc, _, _⟩ := DataW.trod_int Tryz.underlying3 g2
    obtain ⟨r, hr, ok⟩ := res_cells g3
    simp at ha hb hc hr
    obtain ⟨rfl, rfl, rfl⟩ := hr
    subst ha hb hc
    exact ⟨⟨a, b, c, r⟩, rfl, ok⟩
theorem open_ops {r : Reach} {b0 : Nat} {v : Value} {d : DataW H} {p : List MemPlace} (hv : Value.okWide Tryz.prog W r b0 25 v) (h : DataW.Trod enc Tryz.prog W 0 (fun _ => true) true 25 v d p) : ∃ q n c, ∃ l : List OpD, v = .slice q n c ∧ SlOn W q n c l ∧ ∀ o ∈ l, o.res.ok := by
  obtain ⟨a0, len0, cap0, rfl⟩ := okWide_slice Tryz.underlying25 hv
  obtain ⟨fuel, hf⟩ := h
  rcases open_slice Tryz.underlying25 hf with ⟨hc, _⟩ | ⟨a, len, cap, m, n, D, Pl, hcs, _, hl, hm, hmm, _, hi⟩
  · simp [Value.cells] at hc
    obtain ⟨rfl, rfl, rfl⟩ := hc
    exact ⟨none, 0, 0, [], rfl, SlOn.none_ W, fun o h => by cases h⟩
  · rw [cOp] at hi
    obtain ⟨l, h1, h2⟩ := elems_of (n := len) (cf := (Cel.cells : OpD → List Value)) (ok := fun o => o.res.ok) cOp (fun fuel cs x h => op_cells h) (fun i hin => by
      obtain ⟨cs, hc, ht⟩ := hi i (by rw [hmm]; split <;> omega)
      exact ⟨n, cs, _, hc, ht⟩)
    simp [Value.cells] at hcs
    obtain ⟨rfl, rfl, rfl⟩ := hcs
    exact ⟨some a, len0, cap0, l, rfl, ⟨h1, hl, hm, (fun e => by cases e), fun i r hr => ⟨a, rfl, (h2 i r hr).2⟩⟩, fun o ho => by
      obtain ⟨i, hi⟩ := List.mem_iff_getElem?.1 ho
      exact (h2 i o hi).1⟩
end
theorem chk_nil : ChkOk [] := ⟨Nat.zero_le _, List.nodup_nil, fun e he => absurd he List.not_mem_nil, fun j p a h _ => by simp at h⟩
structure SfR (w0 : World) (G : Nat) (q : Option Addr) (n c : Nat) (V : List QV) (L : List QueD) (j : Nat) (wr : World) : Prop where
  chk : ChkOk L
  tot : Tot j L
  lk : LkOn wr q n c V L
  box : RowV 24 wr G [.slice q n c]
  fr : Fr (fun k => k = G) w0 wr

set_option maxRecDepth 100000 in
set_option maxHeartbeats 4000000 in
theorem safelaw_any (oq : Option Addr) (on oc : Nat) (O : List OpD) (w : World) (hL : Lay w) (h : SlOn w oq on oc O) (hOk : ∀ o ∈ O, o.res.ok) :
    Calls Tryz.prog 6 #[.slice oq on oc] w (fun e w' => e = .returned (.bool true) ∧ Below w.heap.size w w') := by
  have hLa := Lib.hid hL
  have hS : Hid (∀ u, Below w.heap.size w u → Lay u) := fun u hu => ⟨hLa.out.goes hu, hLa.out.cov hu⟩
  have hwk := Lib.hid (wakes_any w hL)
  have hh := Lib.hid h
  have hok := Lib.hid hOk
  have hnb : Hid (on ≤ 9223372036854775807) := by show _ ≤ _; have h1 := h.le; have h2 := h.cap; unfold maxLen at h2; omega
  have hnb' := hnb.out
  clear h hL hOk
  go_enter Tryz.func6, Tryz.ntmps6
  go_wp2_with (first
    | (go_at_call 9
       refine hwk.out.mono ?_
       rintro e w1 ⟨rfl, hb⟩
       have hb1 := Lib.hid hb
       obtain ⟨w2, hw2⟩ : ∃ u, w1.alloc (.cells #[.slice none 0 0] 24) = u := ⟨_, rfl⟩
       have hb2 := Lib.hid (one_box (xs := [.slice none 0 0]) hw2)
       have r2 : Hid (RowV 24 w2 w1.heap.size [.slice none 0 0]) := RowV.made' (cs := [.slice none 0 0]) hw2
       have hbw2 := Lib.hid (below_step hb2.out.1 hb)
       clear hb hwk))
  clear hw2
  have hG : Hid (w.heap.size ≤ w1.heap.size ∧ w2.heap.size = w1.heap.size + 1) := ⟨hb1.out.size, hb2.out.2.2⟩
  have hstart : Hid (SfR w2 w1.heap.size none 0 0 [] [] 0 w2) := ⟨chk_nil, fun d hd => absurd hd List.not_mem_nil, ⟨SlOn.none_ _, rfl, fun i v d h => by simp at h⟩, r2.out, Fr.refl _ _⟩
  go_loopw [25] (fun v25 wr => ∃ (j : Nat) (q : Option Addr) (n c : Nat) (V : List QV) (L : List QueD), j ≤ on ∧ j ≤ 60 ∧ v25 = .int .i64 j ∧ Hid (SfR w2 w1.heap.size q n c V L j wr)) (fun v25 _ => on - (intOf v25).toNat)
  case atStart => exact ⟨0, none, 0, 0, [], [], Nat.zero_le _, Nat.zero_le _, rfl, hstart⟩
  case round =>
    obtain ⟨j, q, n, c, V, L, hj, hj60, rfl, hr⟩ := hrel
    obtain ⟨wo, rfl⟩ : ∃ u, u = wr := ⟨_, rfl⟩
    have hbwo : Hid (Below w.heap.size w wo) := hbw2.out.trans (hr.out.fr.below hbw2.out.size (fun k e => by subst e; exact hG.out.1))
    by_cases hlt : j < on
    · obtain ⟨A, ⟨kd, x, m, ⟨t, k, id⟩⟩, hqA, hO, hcA⟩ := (hh.out.below hbwo.out (Nat.le_refl _)).at hlt
      subst hqA
      have hcell : Hid (∀ j' v, ([.int .i64 kd, .int .i64 x, .int .i64 m, .int .i64 t, .bool k, .int .u16 id] : List Value)[j']? = some v → wo.cell? ((A.add (j * 6)).add j') = some v) := fun j' v hj => hcA j' v hj
      have hro : Hid (0 ≤ id ∧ id < 65536) := hok.out _ (List.mem_of_getElem? hO)
      have s6 := sizeOp (.int .i64 kd) (.int .i64 x) (.int .i64 m) (.int .i64 t) (.bool k) (.int .u16 id)
      have i0 : (0 : Int) ≤ j := by omega
      have i1 : (j : Int) < on := by omega
      obtain ⟨WA, hWA⟩ : ∃ W', wo.alloc (.cells #[.int .i64 kd, .int .i64 x, .int .i64 m, .int .i64 t, .bool k, .int .u16 id] 32) = W' := ⟨_, rfl⟩
      have hbA := Lib.hid (one_box (xs := [.int .i64 kd, .int .i64 x, .int .i64 m, .int .i64 t, .bool k, .int .u16 id]) hWA)
      have hbwA := Lib.hid (below_step hbA.out.1 hbwo.out)
      have hn5 : Hid (n ≤ 500) := by show _ ≤ _; have h1 := hr.out.lk.len; have h2 := hr.out.chk.len; omega
      clear hcA hO
      by_cases h60 : j = 60
      · have e60 : ((j : Int) == 60) = true := by simp [h60]
        clear h60
        go_wp2_with (first
          | (with_reducible refine wpList_load_at rfl 32 (.tmp 28) rfl Tryz.underlying32 rfl s6 rfl hcell.out ?_))
        go_ret
        exact ⟨rfl, hbwA.out⟩
      · have e60 : ((j : Int) == 60) = false := by rw [beq_eq_false_iff_ne]; omega
        have hj59 : Hid (j ≤ 59) := by show _ ≤ _; omega
        clear h60
        have xl := Lib.hid (hr.out.box.boxed.below hbA.out.1 (Nat.le_refl _))
        have hkA := Lib.hid (hr.out.lk.below hbA.out.1 (Nat.le_refl _))
        have s1 := sizeLks (.slice q n c)
        obtain ⟨L', wh, g, er, hR⟩ := runR_tot L kd x m ⟨t, k, id⟩
        have hR' := Lib.hid hR
        clear hR
        have hsmL : Hid (Sm L) := hr.out.tot.sm (by have := hj59.out; omega)
        have hrun := Lib.hid (run_any q n c V L kd x m t k id L' wh g er hR'.out WA (hS.out _ hbwA.out) hkA.out hsmL.out (by have := hn5.out; omega) hro.out.1 hro.out.2)
        go_wp2_with (first
          | (with_reducible refine wpList_load_at rfl 32 (.tmp 28) rfl Tryz.underlying32 rfl s6 rfl hcell.out ?_)
          | (with_reducible refine wpList_load_at rfl 32 (.tmp 5) rfl Tryz.underlying32 rfl s6 rfl hbA.out.2.1.all ?_)
          | (with_reducible refine wpList_load_at rfl 24 (.tmp 3) rfl Tryz.underlying24 rfl s1 rfl xl.out.all ?_))
        refine hrun.out.mono ?_
        rintro e w4 ⟨q5, n5, c5, V5, gq, gn, gc, rfl, k1, k2, k3⟩
        obtain ⟨w5, hw5⟩ : ∃ u, w4.alloc (.cells #[.slice q5 n5 c5, .int .i64 wh, .slice gq gn gc, .int .i64 er] 36) = u := ⟨_, rfl⟩
        have hb5 := Lib.hid (one_box (xs := [.slice q5 n5 c5, .int .i64 wh, .slice gq gn gc, .int .i64 er]) hw5)
        have hk5 := Lib.hid (k1.below hb5.out.1)
        have hg5 := Lib.hid (k2.below hb5.out.1)
        have hb45 : Hid (Below WA.heap.size WA w5) := k3.trans (hb5.out.1.mono k3.size)
        have hb4 := Lib.hid k3
        have hbw5 := Lib.hid (below_step hb45.out hbwA.out)
        have hbo5 : Hid (Below wo.heap.size wo w5) := below_step hb45.out hbA.out.1
        clear k1 k2 k3 hrun
        go_upto_region 9 with fail
        clear hw5 hWA hcell
        have e3 := hb5.out.2.1.cell 3 rfl
        by_cases hq : er = 0
        · subst hq
          have hst : Hid (StepS j L kd x L' g) := step_ok hr.out.chk hr.out.tot (lk_ok hr.out.lk) (show ResD.ok ⟨t, k, id⟩ from hro.out) hR'.out
          have hl5 : Hid (n5 ≤ 500) := by show _ ≤ _; have h1 := hk5.out.lk.len; have h2 := hst.out.chk.len; omega
          have hsm : Hid (Sm L') := hst.out.tot.sm (by have := hj59.out; omega)
          have hbx : Hid (∀ u, Below w5.heap.size w5 u → Below w.heap.size w u) := fun u hu => below_step hu hbw5.out
          have hbx2 : Hid (∀ u, Below w5.heap.size w5 u → Lay u) := fun u hu => hS.out _ (hbx.out u hu)
          have hop : Hid (∀ u, Below w5.heap.size w5 u → Boxed u wo.heap.size [.int .i64 kd, .int .i64 x, .int .i64 m, .int .i64 t, .bool k, .int .u16 id]) := fun u hu => hbA.out.2.1.below (below_step hu hb45.out) (Nat.le_refl _)
          have htd : Hid (∀ u, Below w5.heap.size w5 u → Boxed u w4.heap.size [.slice q5 n5 c5, .int .i64 wh, .slice gq gn gc, .int .i64 0]) := fun u hu => hb5.out.2.1.below hu (Nat.le_refl _)
          have hlb : Hid (∀ u, Below w5.heap.size w5 u → Boxed u w1.heap.size [.slice q n c]) := fun u hu => xl.out.below (below_step hu hb45.out) (Nat.le_refl _)
          have htl : Hid (∀ u, Below w5.heap.size w5 u → ∀ j v, ([.slice q5 n5 c5] : List Value)[j]? = some v → u.cell? ((⟨w4.heap.size, 0, none⟩ : Addr).add j) = some v) := fun u hu j v hj => (htd.out u hu).part (o := 0) (ys := [.slice q5 n5 c5]) (fun j v hj => by match j, hj with | 0, h => exact h | j + 1, h => simp at h) j v hj
          have hkL : Hid (∀ u, Below w5.heap.size w5 u → LkOn u q n c V L) := fun u hu => hkA.out.below (below_step hu hb45.out) (Nat.le_refl _)
          have hkN : Hid (∀ u, Below w5.heap.size w5 u → LkOn u q5 n5 c5 V5 L') := fun u hu => hk5.out.lk.below hu (Nat.le_refl _)
          have hgN : Hid (∀ u, Below w5.heap.size w5 u → OwnS 3 u WA.heap.size (.slice gq gn gc) g) := fun u hu => hg5.out.below hu
          have s9 := sizeLks (.slice q5 n5 c5)
          have hchk := Lib.hid (check_any q5 n5 c5 V5 L' 0 (.inl ⟨rfl, hst.out.chk⟩) w5 (hbx2.out _ (Below.refl _ _)) (hkN.out _ (Below.refl _ _)) hsm.out)
          clear e60
          go_wp2_with (first
            | (with_reducible refine wpList_load_at rfl 24 (.tmp 38) rfl Tryz.underlying24 rfl s9 rfl (htl.out w5 (Below.refl _ _)) ?_)
            | (go_at_call 17
               refine hchk.out.mono ?_
               rintro e w6 ⟨rfl, hb⟩
               have hb6 := Lib.hid hb
               have d0 := (htd.out w6 hb).cell 0 rfl
               have hsaf := Lib.hid (safe_any q5 n5 c5 V5 L' hst.out.chk w6 (hbx2.out _ hb) (hkN.out _ hb) hsm.out)
               clear hb hchk)
            | (go_at_call 27
               refine hsaf.out.mono ?_
               rintro e w7 ⟨rfl, hb⟩
               have hb7 := Lib.hid (below_step hb hb6.out)
               have c0 := (hlb.out w7 hb7.out).cell 0 rfl
               clear hb hsaf d0))
          clear c0
          have hn5' := hn5.out
          go_loopw [51] (fun v51 wr => ∃ p : Nat, p ≤ n ∧ v51 = .int .i64 p ∧ Hid (Below w5.heap.size w5 wr)) (fun v51 _ => n - (intOf v51).toNat)
          case atStart => exact ⟨0, Nat.zero_le _, rfl, hb7.out⟩
          case round =>
            obtain ⟨p, hp, rfl, hr2⟩ := hrel
            obtain ⟨wp, rfl⟩ : ∃ u, u = wr := ⟨_, rfl⟩
            by_cases hlp : p < n
            · obtain ⟨AQ, ⟨⟨rt, rk, ri⟩, hq, hn, hc, wq, wn, wc⟩, d, hqQ, hV, hd, hond, hcQ⟩ := (hkL.out _ hr2.out).at hlp
              subst hqQ
              have hcellQ : Hid (∀ j' v, ([.int .i64 rt, .bool rk, .int .u16 ri, .slice hq hn hc, .slice wq wn wc] : List Value)[j']? = some v → wp.cell? ((AQ.add (p * 5)).add j') = some v) := fun j' v hj => hcQ j' v hj
              have sq := sizeQue (.int .i64 rt) (.bool rk) (.int .u16 ri) (.slice hq hn hc) (.slice wq wn wc)
              have sr := sizeRes (.int .i64 rt) (.bool rk) (.int .u16 ri)
              have p0 : (0 : Int) ≤ p := by omega
              have p1 : (p : Int) < n := by omega
              obtain ⟨WQ, hWQ⟩ : ∃ W', wp.alloc (.cells #[.int .i64 rt, .bool rk, .int .u16 ri, .slice hq hn hc, .slice wq wn wc] 43) = W' := ⟨_, rfl⟩
              have hbQ := Lib.hid (one_box (xs := [.int .i64 rt, .bool rk, .int .u16 ri, .slice hq hn hc, .slice wq wn wc]) hWQ)
              have hdm := Lib.hid (List.mem_of_getElem? hd)
              have hond' := Lib.hid (hond.below hbQ.out.1 (Nat.le_refl _))
              have hb5Q := Lib.hid (below_step hbQ.out.1 hr2.out)
              have ch := hbQ.out.2.1.cell 3 rfl
              have hdr : Hid (d.res = ⟨rt, rk, ri⟩) := hond'.out.res.symm
              have hri : Hid (0 ≤ ri ∧ ri < 65536) := by have h1 := lk_ok (hkL.out _ hr2.out) d hdm.out; rw [hdr.out] at h1; exact h1
              have hnh : Hid (hn ≤ 100000) := by
                show _ ≤ _
                have h1 := (hsmL.out d hdm.out).1
                have h2 : d.hs.length = hn := hond'.out.hs.len
                omega
              have hnh' := hnh.out
              clear hcQ hV hd hond
              go_wp2_with (first
                | (with_reducible refine wpList_load_at rfl 43 (.tmp 53) rfl Tryz.underlying43 rfl sq rfl hcellQ.out ?_))
              clear hWQ hcellQ ch
              go_loopw [58] (fun v58 wr => ∃ i : Nat, i ≤ hn ∧ v58 = .int .i64 i ∧ Hid (Below WQ.heap.size WQ wr)) (fun v58 _ => hn - (intOf v58).toNat)
              case atStart => exact ⟨0, Nat.zero_le _, rfl, Below.refl _ _⟩
              case round =>
                obtain ⟨i, hi, rfl, hr3⟩ := hrel
                obtain ⟨wi, rfl⟩ : ∃ u, u = wr := ⟨_, rfl⟩
                by_cases hli : i < hn
                · obtain ⟨AH, ⟨hx, hm⟩, hqH, hH, hcH⟩ := (hond'.out.hs.below hr3.out (Nat.le_refl _)).at hli
                  subst hqH
                  have hcellH : Hid (∀ j' v, ([.int .i64 hx, .int .i64 hm] : List Value)[j']? = some v → wi.cell? ((AH.add (i * 2)).add j') = some v) := fun j' v hj => hcH j' v hj
                  have sh := sizeHold (.int .i64 hx) (.int .i64 hm)
                  have m0 : (0 : Int) ≤ i := by omega
                  have m1 : (i : Int) < hn := by omega
                  obtain ⟨WB, hWB⟩ : ∃ W', wi.alloc (.cells #[.int .i64 hx, .int .i64 hm] 45) = W' := ⟨_, rfl⟩
                  have hbB := Lib.hid (one_box (xs := [.int .i64 hx, .int .i64 hm]) hWB)
                  have hbQB := Lib.hid (below_step hbB.out.1 hr3.out)
                  have hb5B := Lib.hid (below_step hbQB.out hb5Q.out)
                  have hresQ : Hid (∀ j v, ([.int .i64 rt, .bool rk, .int .u16 ri] : List Value)[j]? = some v → WB.cell? ((⟨wp.heap.size, 0, none⟩ : Addr).add j) = some v) := fun j v hj => (hbQ.out.2.1.below hbQB.out (Nat.le_refl _)).part (o := 0) (ys := [.int .i64 rt, .bool rk, .int .u16 ri]) (fun j v hj => by match j, hj with | 0, h => exact h | 1, h => exact h | 2, h => exact h | j + 3, h => simp at h) j v hj
                  have htB := Lib.hid (htl.out WB hb5B.out)
                  have z0 := hbB.out.2.1.cell 0 rfl
                  have hcase := step_held hr.out.chk hst.out hdm.out (List.mem_of_getElem? hH)
                  obtain ⟨mo, hmo0⟩ : ∃ mo, heldH (qOf L' d.res).hs hx = mo := ⟨_, rfl⟩
                  have hmd : Hid (ModeE L' hx ⟨rt, rk, ri⟩ mo) := .inr ⟨hst.out.chk, by rw [← hdr.out]; exact hmo0.symm⟩
                  have hmode := Lib.hid (mode_any q5 n5 c5 V5 L' hx rt rk ri mo hmd.out WB (hbx2.out _ hb5B.out) (hkN.out _ hb5B.out) hsm.out (by have := hl5.out; omega) (fun h => ⟨h.sort, h.sorts⟩) hri.out.1 hri.out.2)
                  simp only [hmo0] at hcase
                  clear hcH hH hmo0
                  obtain ⟨v, hv⟩ : ∃ v, (IntKind.u64.wrap kd).tmod 7 = v := ⟨_, rfl⟩
                  have hkr : kindR kd = v := hv
                  rw [hkr] at hcase
                  clear hkr
                  rcases hcase with ⟨hv5, hxe, hm0⟩ | ⟨hnot, hcv⟩
                  · have b5 : (v == 5) = true := by simp [hv5]
                    have bx : (hx == x) = true := by simp [hxe]
                    have bm : (mo != 0) = false := by simp [hm0]
                    clear hv5 hxe hm0
                    go_wp2_with (first
                      | (with_reducible refine wpList_load_at rfl 45 (.tmp 60) rfl Tryz.underlying45 rfl sh rfl hcellH.out ?_)
                      | (with_reducible refine wpList_load_at rfl 24 (.tmp 62) rfl Tryz.underlying24 rfl s9 rfl htB.out ?_)
                      | (with_reducible refine wpList_load_at rfl 30 (.tmp 66) rfl Tryz.underlying30 rfl sr rfl hresQ.out ?_)
                      | (go_at_call 26
                         refine hmode.out.mono ?_
                         rintro e u1 ⟨rfl, hb⟩
                         have hbB1 := Lib.hid (below_step hb hbQB.out)
                         have hb51 := Lib.hid (below_step hb hb5B.out)
                         have o0 := (hop.out u1 hb51.out).cell 0 rfl
                         have o1 := (hop.out u1 hb51.out).cell 1 rfl
                         have y0 := (hbB.out.2.1.below hb (Nat.le_refl _)).cell 0 rfl
                         have y1 := (hbB.out.2.1.below hb (Nat.le_refl _)).cell 1 rfl
                         have hcvL := Lib.hid (hLa.out.cov (hbx.out _ hb51.out))
                         clear hb hmode z0))
                    go_roundw
                    case rel => exact ⟨i + 1, by omega, by go_num, hbB1.out⟩
                    case measure => simp [intOf]; omega
                  · have hcv' : Hid (covB mo hm = true) := hcv
                    by_cases hv5 : v = 5
                    · have b5 : (v == 5) = true := by simp [hv5]
                      have bx : (hx == x) = false := by rw [beq_eq_false_iff_ne]; exact fun e => hnot ⟨hv5, e⟩
                      clear hv5 hnot hcv
                      go_wp2_with (first
                        | (with_reducible refine wpList_load_at rfl 45 (.tmp 60) rfl Tryz.underlying45 rfl sh rfl hcellH.out ?_)
                        | (with_reducible refine wpList_load_at rfl 24 (.tmp 62) rfl Tryz.underlying24 rfl s9 rfl htB.out ?_)
                        | (with_reducible refine wpList_load_at rfl 30 (.tmp 66) rfl Tryz.underlying30 rfl sr rfl hresQ.out ?_)
                        | (go_at_call 26
                           refine hmode.out.mono ?_
                           rintro e u1 ⟨rfl, hb⟩
                           have hbB1 := Lib.hid (below_step hb hbQB.out)
                           have hb51 := Lib.hid (below_step hb hb5B.out)
                           have o0 := (hop.out u1 hb51.out).cell 0 rfl
                           have o1 := (hop.out u1 hb51.out).cell 1 rfl
                           have y0 := (hbB.out.2.1.below hb (Nat.le_refl _)).cell 0 rfl
                           have y1 := (hbB.out.2.1.below hb (Nat.le_refl _)).cell 1 rfl
                           have hcvL := Lib.hid (hLa.out.cov (hbx.out _ hb51.out))
                           clear hb hmode z0)
                        | (go_at_call 28
                           (with_reducible refine (cov_any mo hm u1 hcvL.out).mono ?_)
                           rw [hcv'.out]
                           rintro e u2 ⟨rfl, hb⟩
                           have hbf := Lib.hid (below_step hb hbB1.out)
                           clear hb o0 o1 y0 y1))
                      go_roundw
                      case rel => exact ⟨i + 1, by omega, by go_num, hbf.out⟩
                      case measure => simp [intOf]; omega
                    · have b5 : (v == 5) = false := by rw [beq_eq_false_iff_ne]; exact hv5
                      clear hv5 hnot hcv
                      go_wp2_with (first
                        | (with_reducible refine wpList_load_at rfl 45 (.tmp 60) rfl Tryz.underlying45 rfl sh rfl hcellH.out ?_)
                        | (with_reducible refine wpList_load_at rfl 24 (.tmp 62) rfl Tryz.underlying24 rfl s9 rfl htB.out ?_)
                        | (with_reducible refine wpList_load_at rfl 30 (.tmp 66) rfl Tryz.underlying30 rfl sr rfl hresQ.out ?_)
                        | (go_at_call 26
                           refine hmode.out.mono ?_
                           rintro e u1 ⟨rfl, hb⟩
                           have hbB1 := Lib.hid (below_step hb hbQB.out)
                           have hb51 := Lib.hid (below_step hb hb5B.out)
                           have o0 := (hop.out u1 hb51.out).cell 0 rfl
                           have o1 := (hop.out u1 hb51.out).cell 1 rfl
                           have y0 := (hbB.out.2.1.below hb (Nat.le_refl _)).cell 0 rfl
                           have y1 := (hbB.out.2.1.below hb (Nat.le_refl _)).cell 1 rfl
                           have hcvL := Lib.hid (hLa.out.cov (hbx.out _ hb51.out))
                           clear hb hmode z0)
                        | (go_at_call 28
                           (with_reducible refine (cov_any mo hm u1 hcvL.out).mono ?_)
                           rw [hcv'.out]
                           rintro e u2 ⟨rfl, hb⟩
                           have hbf := Lib.hid (below_step hb hbB1.out)
                           clear hb o0 o1 y0 y1))
                      go_roundw
                      case rel => exact ⟨i + 1, by omega, by go_num, hbf.out⟩
                      case measure => simp [intOf]; omega
                · obtain rfl : hn = i := by omega
                  have hbf := Lib.hid (below_step hr3.out hb5Q.out)
                  go_wp2
                  go_roundw
                  case rel => exact ⟨p + 1, by omega, by go_num, hbf.out⟩
                  case measure => simp [intOf]; omega
            · obtain rfl : n = p := by omega
              have d2 := (htd.out wp hr2.out).cell 2 rfl
              have hgn : Hid (gn ≤ 9223372036854775807) := by show _ ≤ _; have h1 := hg5.out.reads.le; have h2 := hg5.out.reads.cap; unfold maxLen at h2; omega
              have hgn' := hgn.out
              go_wp2
              clear d2
              go_loopw [102] (fun v102 wr => ∃ i : Nat, i ≤ gn ∧ v102 = .int .i64 i ∧ Hid (Below w5.heap.size w5 wr)) (fun v102 _ => gn - (intOf v102).toNat)
              case atStart => exact ⟨0, Nat.zero_le _, rfl, hr2.out⟩
              case round =>
                obtain ⟨i, hi, rfl, hr4⟩ := hrel
                obtain ⟨wg, rfl⟩ : ∃ u, u = wr := ⟨_, rfl⟩
                by_cases hli : i < gn
                · have hown := hgN.out wg hr4.out
                  cases gq with
                  | none => exact absurd hown.nil_cap.1 (by omega)
                  | some A0 =>
                  obtain ⟨gb, cur, hA0, _⟩ := hown.opened
                  cases hA0
                  obtain ⟨AG, nb, hqG, hnbi, hcG⟩ := hown.reads.at hli
                  cases hqG
                  have cnb : wg.cell? ⟨gb, i, none⟩ = some (.int .i64 nb) := by
                    have h1 := hcG 0 _ rfl
                    rw [show i * Cel.sz Int = i from Nat.mul_one i] at h1
                    rcases Nat.eq_zero_or_pos i with h0 | h0
                    · subst h0; simpa [Addr.add] using h1
                    · simpa [Addr.add, Nat.ne_of_gt h0] using h1
                  obtain ⟨d, hwd, hnx, hhe⟩ := hst.out.gr nb (List.mem_of_getElem? hnbi)
                  have hdm := Lib.hid (wtOf_mem hwd).1
                  obtain ⟨⟨gt, gk, gid⟩, hds, wds⟩ := d
                  have hgid : Hid (0 ≤ gid ∧ gid < 65536) := lk_ok hr.out.lk _ hdm.out
                  obtain ⟨gm, hgm⟩ : ∃ gm, (wtrOf ⟨⟨gt, gk, gid⟩, hds, wds⟩ nb).m = gm := ⟨_, rfl⟩
                  rw [hgm] at hhe
                  have hwt1 : Hid (WaitsR L nb ⟨gt, gk, gid⟩ gm true) := .inr (.inr ⟨hr.out.chk, _, hwd, rfl, hgm.symm, rfl⟩)
                  have hwt2 : Hid (WaitsR L' nb ⟨0, false, 0⟩ 0 false) := .inr (.inl ⟨hst.out.chk, wtOf_none (nowait_iff.2 hnx), rfl, rfl, rfl⟩)
                  have hmd : Hid (ModeE L' nb ⟨gt, gk, gid⟩ gm) := .inr ⟨hst.out.chk, hhe.symm⟩
                  have xl4 := Lib.hid (hlb.out wg hr4.out)
                  have i0 : (0 : Int) ≤ i := by omega
                  have i1 : (i : Int) < gn := by omega
                  have svz : (Tryz.prog.info? 30).map (·.size) = some ([.int .i64 0, .bool false, .int .u16 0] : List Value).length := sizeRes _ _ _
                  have svr : (Tryz.prog.info? 30).map (·.size) = some ([.int .i64 gt, .bool gk, .int .u16 gid] : List Value).length := sizeRes _ _ _
                  have honez : ∀ y ∈ ([.int .i64 0, .bool false, .int .u16 0] : List Value), y.oneCell' = true := fun y hy => by simp only [List.mem_cons, List.not_mem_nil, or_false] at hy; rcases hy with rfl | rfl | rfl <;> rfl
                  have honer : ∀ y ∈ ([.int .i64 gt, .bool gk, .int .u16 gid] : List Value), y.oneCell' = true := fun y hy => by simp only [List.mem_cons, List.not_mem_nil, or_false] at hy; rcases hy with rfl | rfl | rfl <;> rfl
                  clear hcG hnbi hwd hnx hhe hgm hown
                  go_wp2_with (first
                    | (with_reducible refine wpList_load_at rfl 24 (.tmp 3) rfl Tryz.underlying24 rfl s1 rfl xl4.out.all ?_)
                    | (go_at_call 19
                       first
                       | (refine (waits_any q n c V L nb gt gk gid gm true hwt1.out wg (hbx2.out _ hr4.out) (hkL.out _ hr4.out) hsmL.out (by have := hn5.out; omega)).mono ?_
                          rintro e v1 ⟨rfl, hb⟩
                          obtain ⟨v2, hv2⟩ : ∃ u, v1.alloc (.cells #[.int .i64 0, .bool false, .int .u16 0] 30) = u := ⟨_, rfl⟩
                          have hbv2 := Lib.hid (one_box (xs := [.int .i64 0, .bool false, .int .u16 0]) hv2)
                          have rv2 : Hid (RowV 30 v2 v1.heap.size [.int .i64 0, .bool false, .int .u16 0]) := RowV.made' (cs := [.int .i64 0, .bool false, .int .u16 0]) hv2
                          have hv1s := Lib.hid (below_step hb hr4.out)
                          have hv2s := Lib.hid (below_step hbv2.out.1 hv1s.out)
                          clear hb hwt1)
                       | (refine (waits_any q5 n5 c5 V5 L' nb 0 false 0 0 false hwt2.out v3 (hbx2.out _ hv3.out) (hkN.out _ hv3.out) hsm.out (by have := hl5.out; omega)).mono ?_
                          rintro e v4 ⟨rfl, hb⟩
                          obtain ⟨v5, hv5'⟩ : ∃ u, v4.alloc (.cells #[.int .i64 0, .bool false, .int .u16 0] 30) = u := ⟨_, rfl⟩
                          have hbv5 := Lib.hid (one_box (xs := [.int .i64 0, .bool false, .int .u16 0]) hv5')
                          have rv5 : Hid (RowV 30 v5 v4.heap.size [.int .i64 0, .bool false, .int .u16 0]) := RowV.made' (cs := [.int .i64 0, .bool false, .int .u16 0]) hv5'
                          have hb34 := Lib.hid hb
                          have hv4s := Lib.hid (below_step hb hv3.out)
                          have hv5s := Lib.hid (below_step hbv5.out.1 hv4s.out)
                          clear hb))
                    | ((with_reducible refine wpList_store_at rfl 30 (.tmp 15) (.tmp 110) rfl (o := 0) (vs := [.int .i64 gt, .bool gk, .int .u16 gid]) rfl rfl rv2.out svr (Nat.le_refl _) honer ?_)
                       intro v3 h9 hg9
                       have rv3 : Hid (RowV 30 v3 v1.heap.size [.int .i64 gt, .bool gk, .int .u16 gid]) := h9
                       have hv3 : Hid (Below w5.heap.size w5 v3) := low_step hv2s.out hg9 hv1s.out.size
                       have ht3 := Lib.hid (htl.out v3 hv3.out)
                       clear h9 hg9 hv2)
                    | (with_reducible refine wpList_load_at rfl 24 (.tmp 114) rfl Tryz.underlying24 rfl s9 rfl ht3.out ?_)
                    | ((with_reducible refine wpList_store_at rfl 30 (.tmp 18) (.tmp 118) rfl (o := 0) (vs := [.int .i64 0, .bool false, .int .u16 0]) rfl rfl rv5.out svz (Nat.le_refl _) honez ?_)
                       intro v6 h9 hg9
                       have hv36 : Hid (Below v3.heap.size v3 v6) := low_step (below_step hbv5.out.1 hb34.out) hg9 hb34.out.size
                       have hv6 : Hid (Below w5.heap.size w5 v6) := below_step hv36.out hv3.out
                       have t0 := (htd.out v6 hv6.out).cell 0 rfl
                       have rr := rv3.out.below hv36.out
                       have q0 : v6.cell? ⟨v1.heap.size, 0, none⟩ = some (.int .i64 gt) := rr.cell 0
                       have q1 : v6.cell? ⟨v1.heap.size, 1, none⟩ = some (.bool gk) := rr.cell 1
                       have q2 : v6.cell? ⟨v1.heap.size, 2, none⟩ = some (.int .u16 gid) := rr.cell 2
                       have hmode := Lib.hid (mode_any q5 n5 c5 V5 L' nb gt gk gid gm hmd.out v6 (hbx2.out _ hv6.out) (hkN.out _ hv6.out) hsm.out (by have := hl5.out; omega) (fun h => ⟨h.sort, h.sorts⟩) hgid.out.1 hgid.out.2)
                       clear h9 hg9 hv5' rr)
                    | (go_at_call 26
                       refine hmode.out.mono ?_
                       rintro e v7 ⟨rfl, hb⟩
                       have hfin := Lib.hid (below_step hb hv6.out)
                       clear hb hmode t0 q0 q1 q2))
                  go_roundw
                  case rel => exact ⟨i + 1, by omega, by go_num, hfin.out⟩
                  case measure => simp [intOf]; omega
                · obtain rfl : gn = i := by omega
                  have hbf4 := Lib.hid hr4.out
                  have xlf := hr.out.box.below (below_step hr4.out hbo5.out)
                  have xlf' := Lib.hid xlf
                  have s5 := sizeLks (.slice q5 n5 c5)
                  have hone5 : ∀ y ∈ ([.slice q5 n5 c5] : List Value), y.oneCell' = true := fun y hy => by obtain rfl := List.mem_singleton.1 hy; rfl
                  have htf := Lib.hid (htl.out wg hr4.out)
                  clear xlf
                  go_wp2_with (first
                    | (with_reducible refine wpList_load_at rfl 24 (.tmp 136) rfl Tryz.underlying24 rfl s5 rfl htf.out ?_)
                    | ((with_reducible refine wpList_store_at rfl 24 (.tmp 3) (.tmp 137) rfl (o := 0) (vs := [.slice q5 n5 c5]) rfl rfl xlf'.out s5 (Nat.le_refl _) hone5 ?_)
                       intro v9 h9 hg9
                       have q9 : Hid (RowV 24 v9 w1.heap.size [.slice q5 n5 c5]) := h9
                       have hg9' := Lib.hid hg9
                       clear h9 hg9 hone5))
                  go_roundw
                  case rel =>
                    refine ⟨j + 1, q5, n5, c5, V5, L', by omega, by have := hj59.out; omega, by go_num, hst.out.chk, hst.out.tot, ?_, q9.out, ?_⟩
                    · have h1 : LkP wg WA.heap.size q5 n5 c5 V5 L' := hk5.out.below hr4.out
                      exact (h1.gr hg9'.out (by have h2 := hr.out.fr.size; have h3 := hbA.out.1.size; have h4 := hG.out.2; omega)).lk
                    · exact (hr.out.fr.trans (Fr.of_below (below_step hr4.out hbo5.out))).trans (Fr.of_grown hg9'.out (fun k e => by cases e; rfl))
                  case measure => simp [intOf]; omega
        · have her : (er == 0) = false := by rw [beq_eq_false_iff_ne]; exact hq
          clear hq
          go_wp2
          go_roundw
          case rel =>
            exact ⟨j + 1, q, n, c, V, L, by omega, by have := hj59.out; omega, by go_num, hr.out.chk, fun d hd => Nat.le_succ_of_le (hr.out.tot d hd), hr.out.lk.below hbo5.out (Nat.le_refl _), hr.out.box.below hbo5.out, hr.out.fr.trans (Fr.of_below hbo5.out)⟩
          case measure => simp [intOf]; omega
    · obtain rfl : on = j := by omega
      go_wp2
      go_ret
      exact ⟨rfl, hbwo.out⟩

set_option maxRecDepth 1000000 in
theorem safelaw_lifted (os : Os) (started : os.Started) (H : Type) (enc : TypeId × Value → H) :
    ReturnsInHanded {} Tryz.checked os 6 .any (fun w args => (Rows.locksSafeSpec.pre enc Tryz.prog Tryz.f6 [] false w args ∧ laidMetH Tryz.prog [("bursary/mode.goes", Rows.laid_bursary_mode_goes), ("bursary/mode.covers", Rows.laid_bursary_mode_covers)] w) ∧ sizedMet enc Tryz.prog Tryz.f6 (OpenSpec.ofChange Rows.locksSafeSpec) false w args)
      (Rows.locksSafeSpec.post enc Tryz.prog Tryz.f6 false true false false) := by
  refine returnsInHanded_of_change_and (C := Tryz.checked) (X := fun w _ => laidMetH Tryz.prog [("bursary/mode.goes", Rows.laid_bursary_mode_goes), ("bursary/mode.covers", Rows.laid_bursary_mode_covers)] w) (fun _ _ _ hh h => h.of_heap hh) own started (by kernel_rfl) Tryz.func6
    (ChangeSpec.witness_shaped (enc := enc) (C := Tryz.checked) (os := os) (X := fun w _ => laidMetH Tryz.prog [("bursary/mode.goes", Rows.laid_bursary_mode_goes), ("bursary/mode.covers", Rows.laid_bursary_mode_covers)] w) false (World.doorLaid Tryz.prog 400 os) #[.slice none 0 0] 8 rfl (World.shaped_of_RefB (by kernel_rfl) (by kernel_rfl)) (by kernel_rfl) (by kernel_rfl) (by kernel_rfl) (door_met os _)) ?_
  intro W base args ds gs before hval0 hW _ _ hL _
  have hval : ∀ (j : Nat) t v, Tryz.f6.params[j]? = some t → args[j]? = some v → Value.okWide Tryz.prog W .any base t v := hval0
  have hW' := hW
  obtain ⟨p, q, hA0, hV, rfl, _, _⟩ := hW
  have hA : DataW.TrodAll enc Tryz.prog W 0 (fun _ => true) true Tryz.f6.params.toList args.toList ds p := hA0
  rw [Tryz.params6] at hA hval
  obtain ⟨v0, d0, rfl, rfl, h0⟩ := trodAll_one hA
  obtain ⟨rfl, rfl⟩ := trodVars_none hV
  have hT := of_laid hL
  obtain ⟨aq, an, ac, aO, rfl, hl0, hok0⟩ := open_ops (hval 0 25 v0 rfl rfl) h0
  refine (safelaw_any aq an ac aO W hT hl0 hok0).mono fun e W' ⟨he, hb⟩ => ?_
  subst he
  exact ⟨_, rfl, law_post laidOut (of_decide_eq_true (by kernel_rfl)) rfl (by kernel_rfl) Tryz.underlying4 hW' ⟨rfl, rfl, rfl⟩ hb⟩

set_option maxRecDepth 1000000 in
theorem safelaw_said : Rows.LocksSafeSaid :=
  OpenClaim.holds_of_wide 6 Tryz.f6 rfl rfl rfl rfl rfl rfl rfl ⟨rfl, rfl, rfl, rfl, rfl⟩ rfl rfl rfl rfl rfl (by kernel_rfl) Tryz.func6 (by kernel_rfl)
    (of_decide_eq_true (by kernel_rfl)) (by unfold Func.isWrapper; first | (rw [if_pos (by decide +kernel)]; kernel_rfl) | (rw [if_neg (by decide +kernel)]; exact ⟨rfl, rfl⟩))
    (fun os started H enc _ => safelaw_lifted os started H enc)

set_option maxRecDepth 1000000 in
theorem safelaw_holds : Rows.LocksSafeCardSaid :=
  Claim7.holds_tied_plain_at .later [] [.wider, .wider] true Rows.locksSafeCard.stood.harness false
    safelaw_said (fun _ h => by cases h) (by kernel_rfl) (fun _ h => by cases h) locksSafe_row_tie rfl ⟨rfl, rfl⟩ (by kernel_rfl) rfl
    (fun f fn hf hfn => by
      obtain rfl : f = 6 := Option.some.inj ((show Tryz.prog.funcNamed "bursary/bursarylaw08.LocksSafe" = some 6 by kernel_rfl).symm.trans hf) |>.symm
      obtain rfl : fn = Tryz.f6 := (Option.some.inj (Tryz.func6.symm.trans hfn)).symm
      exact ⟨by kernel_rfl, fun j t ht => by
        rw [Tryz.params6] at ht
        have hm : t ∈ [25] := by simpa using Array.mem_of_getElem? ht
        have hall : ([25].all fun u => !Tryz.prog.wantsStandIn u) = true := by kernel_rfl
        exact (show Tryz.prog.wantsStandIn t = false by simpa using List.all_eq_true.1 hall t hm)⟩)
    (by kernel_rfl)

end Go.Proofs.YtbgpppbcffpdbaaGreatDoor
