/- DiskForks, by its contract: two disks and the document's own ones beside them. -/
import Derived.Test.YtnjandmlhncapaaTwo
namespace Go.Proofs.Ytnjandmlhncapaa
open Go.RowKit

theorem run_field31 (q : Option Addr) (n c : Nat) (ops ar fl : Int) (dead : Bool) (w : World) : (Instr.field 31 (.agg #[.slice q n c, .int .i64 ops, .int .i64 ar, .int .i64 fl, .bool dead]) 0).run Try.prog w = .ok (.slice q n c) w := by kernel_rfl

/-- the end: the program's disk is read, sector by sector -/
structure LoopC (w W : World) (p : Pl) (dc : Dk) (q : Option Addr) (c : Nat) (S : List Sc) (i : Nat) : Prop where
  ex : ∃ d', Mine w W p d' ∧ Calm d' dc.held.length ∧ d'.cache = dc.cache ∧ d'.held = dc.held ∧ 0 ≤ d'.ops ∧ d'.ops ≤ 100 + (i : Int)
  holds : HoldsE W (.slice q S.length c) (S.map Sc.cells)
  far : ∀ a, q = some a → a.block ∉ p.L ∧ a.block < W.heap.size

set_option maxRecDepth 100000 in
set_option maxHeartbeats 3000000 in
theorem forks_any (n : Int) (v v2 : Value) (os os2 : List OpV) (w : World) (hn : I64 n) (hv : IsOps w v os) (hv2 : IsOps w v2 os2) :
    Calls Try.prog 3 #[.int .i64 n, v, v2] w (fun e w' => e = .returned (.bool true) ∧ Below w.heap.size w w') := by
  have hsz := szOf_le n
  obtain ⟨q, c, rfl, hq0, hq1⟩ := hv.shape
  obtain ⟨q2, c2, rfl, hq20, hq21⟩ := hv2.shape
  have hv0 := Lib.hid hv
  have hv20 := Lib.hid hv2
  have hol : os.length ≤ 9223372036854775807 := by have := hv.len; unfold maxLen at this; omega
  have hol2 : os2.length ≤ 9223372036854775807 := by have := hv2.len; unfold maxLen at this; omega
  have hq0' := Lib.hid hq0
  have hq1' := Lib.hid hq1
  have hq20' := Lib.hid hq20
  have hq21' := Lib.hid hq21
  clear hv hv2 hq0 hq1 hq20 hq21
  go_enter Try.func3, Try.ntmps3
  go_wp2_with fail
  refine (wakes_any _).mono ?_
  rintro e w1 ⟨rfl, hb1⟩
  have hB1 : Hid (Below w.heap.size w w1) := hb1
  clear hb1
  go_wp2_with fail
  refine (size_any n _ hn).mono ?_
  rintro e w' ⟨rfl, hw⟩
  obtain rfl := hw.symm
  go_wp2_with fail
  refine (new_any (szOf n) _ hsz.1 (by omega)).mono ?_
  rintro e w2 ⟨p, rfl, hA, hB, hL⟩
  have m2 : Hid (Mine w w2 p (dNew (szOf n))) := ⟨hA, hB1.out.trans (hB.mono hB1.out.size), fun x hx => Nat.le_trans hB1.out.size (hL x hx)⟩
  clear hA hB hL
  go_wp2_with fail
  refine (size_any n _ hn).mono ?_
  rintro e w' ⟨rfl, hw⟩
  obtain rfl := hw.symm
  go_wp2_with fail
  refine (rnew_any (szOf n) _ (by omega)).mono ?_
  rintro e w3 ⟨q3, c3, S3, ops3, ar3, fl3, dead3, rfl, hd3, hb3, hf3⟩
  have m3 := Lib.hid (m2.out.stay hb3)
  have d3 := Lib.hid hd3
  have r3 : Hid (RowV 31 (w3.alloc (.cells (dL none 0 0 0 0 0 false).toArray 31)) w3.heap.size (dL none 0 0 0 0 0 false)) := RowV.made w3 _
  have l3 : Hid (w2.heap.size ≤ w3.heap.size) := hb3.size
  have f3 : Hid (∀ a, q3 = some a → w2.heap.size ≤ a.block) := by
    rcases hf3 with rfl | hf3
    · exact fun a ha => by cases ha
    · exact hf3
  clear hd3 hb3 hf3
  go_wp2_with (first
    | ((with_reducible refine wpList_store_at rfl 31 (.tmp 9) (.tmp 37) rfl (o := 0) rfl rfl r3.out (size31b _ _ _ _ _) (fit31 _ _ _ _ _ _ _ _ _ _) (one31 q3 S3.length c3 ops3 ar3 fl3 dead3) ?_)
       intro w4 h4 hg4
       rw [d5_splice] at h4
       have x4 := Lib.hid h4
       have y4 := Lib.hid hg4
       clear h4 hg4))
  have b4 : Below w3.heap.size w3 w4 := ((Below.refl _ _).alloc (Nat.le_refl _) _).grown y4.out (by rw [World.size_alloc]; omega) (fun k e => by cases e; exact Nat.le_refl _)
  have two4 : Two w w4 p w3.heap.size (dNew (szOf n)) (dNew (szOf n)) q3 c3 S3 ops3 ar3 fl3 dead3 :=
    ⟨m3.out.stay b4, x4.out, d3.out.below b4, m3.out.below.size, fun hin => by have := at_lts m3.out.disk _ hin; omega, fun a ha => ⟨by have := d3.out.low a ha; omega, fun hin => by
      have h1 := at_lts m2.out.disk _ hin
      have h2 := f3.out a ha
      omega⟩⟩
  obtain ⟨b9, hb9⟩ : ∃ b9, w3.heap.size = b9 := ⟨_, rfl⟩
  rw [hb9] at two4 ⊢
  have hr0 : Hid (LoopA w w4 p b9 ((min 0 30 : Nat) : Int)) := ⟨_, q3, c3, S3, ops3, ar3, fl3, dead3, two4, Int.le_refl _, Int.le_refl _⟩
  clear two4 b4 x4 y4 m3 m2 d3 r3 l3 f3 hb9
  go_loopw [40] (fun v40 wr => ∃ i : Nat, i ≤ os.length ∧ v40 = .int .i64 i ∧ Hid (LoopA w wr p b9 ((min i 30 : Nat) : Int))) (fun v40 _ => os.length - (intOf v40).toNat)
  case atStart => exact ⟨0, by omega, by go_num, hr0⟩
  case round =>
    obtain ⟨i, hi, rfl, hr⟩ := hrel
    by_cases hlt : i < os.length
    · obtain ⟨d, qd, cd, S, ops, ar, fl, dead, htw, ho0, ho1⟩ := hr.out
      have hx := List.getElem?_eq_getElem hlt
      obtain ⟨o, hoe⟩ : ∃ o, os[i] = o := ⟨_, rfl⟩
      rw [hoe] at hx
      cases q with
      | none => rw [hq0'.out rfl] at hlt; simp at hlt
      | some a =>
        have hin : (i : Int) < os.length := by omega
        have htw' := Lib.hid htw
        have hop := Lib.hid ((hv0.out.each o (List.mem_of_getElem? hx)).below (htw.mine.below) (Nat.le_refl _))
        have hcel : ∀ j x, o.cells[j]? = some x → wr.cell? ((a.add (i * 5)).add j) = some x := fun j x hj => by
          rw [Addr.add_add]
          exact cell_keeps htw.mine.below (Nat.le_refl _) (hq1'.out a rfl i o hx j x hj)
        have hcel' := Lib.hid hcel
        have hob := Lib.hid (And.intro ho0 ho1)
        have hsz5 : (Try.prog.info? 35).map (·.size) = some [Value.int .i64 o.kind, .int .i64 o.pos, .int .i64 o.num, .int .u8 o.byte, o.kv].length := by kernel_rfl
        have hrun := Lib.hid (run_any p d)
        have hopr := Lib.hid (ops_run d o)
        have rop : Hid (RowV 35 (wr.alloc (.cells o.cells.toArray 35)) wr.heap.size o.cells) := RowV.made wr _
        unfold OpV.cells at hcel' rop
        obtain ⟨kq, kc, hkv, hkr⟩ := hop.out.keep
        have hx0 := Lib.hid hx
        clear hkr hcel hx hr hr0 hoe htw ho0 ho1
        obtain ⟨kind, pos, num, byte, ks, kv⟩ := o
        simp only at hkv hcel' hsz5
        change Hid (RowV 35 (wr.alloc (.cells [.int .i64 kind, .int .i64 pos, .int .i64 num, .int .u8 byte, kv].toArray 35)) wr.heap.size [.int .i64 kind, .int .i64 pos, .int .i64 num, .int .u8 byte, kv]) at rop
        subst hkv
        by_cases h30 : i < 30
        · have h30' : (i : Int) < 30 := by omega
          go_wp2_with (first
            | (with_reducible refine wpList_load_at rfl 35 (.tmp 43) rfl Try.underlying35 rfl hsz5 rfl hcel'.out ?_)
            | (with_reducible refine wpList_load_at rfl 35 (.tmp 11) rfl Try.underlying35 rfl hsz5 rfl (rop5.out.part (o := 0) (pre := []) (rest := []) (by simp) rfl) ?_)
            | (with_reducible refine wpList_load_at rfl 31 (.tmp 9) rfl Try.underlying31 rfl (vs := dL qd S.length cd ops ar fl dead) (size31b _ _ _ _ _) rfl (two5.out.row.part (o := 0) (pre := []) (rest := []) (part31 _) rfl) ?_)
            | (go_at_call 13
               refine (hrun.out _ (htw'.out.mine.disk.alloc _) ⟨kind, pos, num, byte, ks, .slice kq ks.length kc⟩ (hop.out.below ((Below.refl _ _).alloc (Nat.le_refl _) _) (Nat.le_refl _)) hob.out.1 (by have := hob.out.2; omega)).mono ?_
               rintro e w5 ⟨rfl, hA, hT⟩
               have two5 := Lib.hid ((htw'.out.below ((Below.refl _ _).alloc (Nat.le_refl _) _)).run hA hT)
               have rop5 := Lib.hid (rop.out.tch hT (fun hin => by have := at_lts htw'.out.mine.disk _ hin; omega))
               clear hA hT)
            | (go_at_call 14
               refine (wants_any two5.out.doc (htw'.out.room hob.out.1 (by have := hob.out.2; omega)) ⟨kind, pos, num, byte, ks, .slice kq ks.length kc⟩ ((hv0.out.each _ (List.mem_of_getElem? (hx0.out))).below two5.out.mine.below (Nat.le_refl _))).mono ?_
               rintro e w6 ⟨q6, c6, S6, ops6, ar6, fl6, dead6, rfl, hd6, hb6, hf6⟩
               have d6 := Lib.hid hd6
               have b6 := Lib.hid hb6
               have f6 := Lib.hid hf6
               have row6 := Lib.hid (two5.out.row.below hb6)
               clear hd6 hb6 hf6)
            | ((with_reducible refine wpList_store_at rfl 31 (.tmp 9) (.tmp 54) rfl (o := 0) rfl rfl row6.out (size31b _ _ _ _ _) (fit31 _ _ _ _ _ _ _ _ _ _) (one31 q6 S6.length c6 ops6 ar6 fl6 dead6) ?_)
               intro w7 h7 hg7
               rw [d5_splice] at h7
               have two7 := Lib.hid (two5.out.wants b6.out d6.out f6.out h7 hg7)
               clear h7 hg7))
          go_roundw
          case rel =>
            refine ⟨i + 1, by omega, by go_num, ⟨_, q6, c6, S6, ops6, ar6, fl6, dead6, two7.out, ?_, ?_⟩⟩
            · have h1 := hob.out.1; rcases hopr.out with e | e <;> rw [e] <;> omega
            · have h1 := hob.out.2; rcases hopr.out with e | e <;> rw [e] <;> omega
          case measure => simp [intOf]; omega
        · have h30' : (30 : Int) ≤ i := by omega
          go_wp2_with (first
            | (with_reducible refine wpList_load_at rfl 35 (.tmp 43) rfl Try.underlying35 rfl hsz5 rfl hcel'.out ?_))
          go_roundw
          case rel =>
            refine ⟨i + 1, by omega, by go_num, ⟨_, qd, cd, S, ops, ar, fl, dead, htw'.out.below ((Below.refl _ _).alloc (Nat.le_refl _) _), hob.out.1, ?_⟩⟩
            have := hob.out.2; omega
          case measure => simp [intOf]; omega
    · obtain rfl : os.length = i := by omega
      obtain ⟨d1, qd, cd, S, ops, ar, fl, dead, htw, ho0, ho1⟩ := hr.out
      have two0 := Lib.hid htw
      have hob1 := Lib.hid (And.intro ho0 ho1)
      clear hr hr0 htw ho0 ho1
      go_wp2_with fail
      refine wp_region_held (S := fun W => RowV 31 W b9 [.slice qd S.length cd, .int .i64 ops, .int .i64 ar, .int .i64 fl, .bool dead]) (by kernel_rfl) ?_
      change wpAnyH _ _ _ _ _ _ _ _ (World.drew wr)
      have two1 : Hid (Two w wr.drew p b9 d1 d1 qd cd S ops ar fl dead) := two0.out.below (below_drewN wr 1)
      obtain ⟨w0, hw0⟩ : ∃ w0, wr.drew = w0 := ⟨_, rfl⟩
      rw [hw0] at two1 ⊢
      clear hw0 two0
      have hS := two1.out.row
      refine held_take (i := 0) (dst := some 58) (v := ptr p) rfl rfl (by kernel_rfl) (by kernel_rfl) (by kernel_rfl) (fun _ _ _ h => h) (y_move (.tmp 7) rfl rfl rfl) hS ?_
      go_frame
      refine held_take (i := 2) (dst := some 60) (v := .agg #[.slice qd S.length cd, .int .i64 ops, .int .i64 ar, .int .i64 fl, .bool dead]) rfl rfl (by kernel_rfl) (by kernel_rfl) (by kernel_rfl) (fun _ _ _ h => h) (y_load_agg 31 (.tmp 9) rfl rfl rfl (fun W hW => load_d5 hW)) hS ?_
      go_frame
      refine held_pair (i := 1) (j := 3) (di := some 59) (dj := some 13) (Z := fun v u W => ∃ p2 g, v = ptr p2 ∧ u = .pointer (some ⟨g, 0, none⟩) ∧ Hid (At W p2 d1) ∧ Hid (Below w0.heap.size w0 W) ∧ (∀ x ∈ p2.L, w0.heap.size ≤ x) ∧ w0.heap.size ≤ g ∧ g ∉ p2.L ∧ Hid (RowV 31 W g (dL none 0 0 0 0 0 false))) rfl rfl rfl rfl (by kernel_rfl) (by kernel_rfl) (by kernel_rfl) (by kernel_rfl) rfl rfl (fun _ => rfl) (fun _ => rfl) (fun _ _ => rfl) (by go_simp) (copy_any p d1 w0 two1.out.mine.disk) ?_ ?_ ?_
      · rintro e w' ⟨p2, rfl, hA, hb, hL⟩
        exact ⟨ptr p2, _, _, rfl, hS.below hb, run_alloc_op rfl alloc31, (hS.below hb).below ((Below.refl _ _).alloc (Nat.le_refl _) _), p2, w'.heap.size, rfl, rfl, Lib.hid (hA.alloc _), Lib.hid (hb.alloc hb.size _), hL, hb.size, fun hin => by have := at_lts hA _ hin; omega, Lib.hid (RowV.made w' _)⟩
      · have hba := (Below.refl w0.heap.size w0).alloc (Nat.le_refl _) (.cells (dL none 0 0 0 0 0 false).toArray 31)
        refine ⟨_, _, _, run_alloc_op rfl alloc31, hS.below hba, by go_simp, copy_any p d1 _ (two1.out.mine.disk.below hba), ?_⟩
        rintro e w' ⟨p2, rfl, hA, hb, hL⟩
        exact ⟨ptr p2, rfl, (hS.below hba).below hb, p2, w0.heap.size, rfl, rfl, Lib.hid hA, Lib.hid (hba.trans (hb.mono hba.size)), fun x hx => by have := hL x hx; rw [World.size_alloc] at this; omega, Nat.le_refl _, fun hin => by have := hL _ hin; rw [World.size_alloc] at this; omega, Lib.hid ((RowV.made w0 _).below hb)⟩
      rintro v u w5 ⟨p2, g, rfl, rfl, a5, b5, hL2, hg0, hg1, rg⟩
      go_frame
      have hl9 := two1.out.row.lt
      refine held_value (i := 4) (dst := some 12) (w' := w5) (v := ptr p2) rfl rfl (by kernel_rfl) rfl (by go_simp) (hS.below b5.out) ?_
      go_frame
      obtain ⟨w6, hst6, h6, hg6⟩ := run_storeVar_at (P := Try.prog) (ty := 31) rg.out (size31b (.slice qd S.length cd) (.int .i64 ops) (.int .i64 ar) (.int .i64 fl) (.bool dead)) (fit31 _ _ _ _ _ _ _ _ _ _) (one31 qd S.length cd ops ar fl dead)
      rw [d5_splice] at h6
      refine held_skip (i := 5) (dst := none) (w' := w6) rfl rfl (by kernel_rfl) rfl (run_store_op rfl rfl rfl hst6) ((hS.below b5.out).kept hg6 (by omega)) ?_
      go_frame
      refine wpAnyH_done (by kernel_rfl) ?_ _
      have b6 : Below w0.heap.size w0 w6 := b5.out.grown hg6 b5.out.size (fun k e => by cases e; exact hg0)
      have two6 : Two w0 w6 p2 g d1 d1 qd cd S ops ar fl dead := ⟨⟨a5.out.other hg6 hg1, b6, hL2⟩, h6, two1.out.doc.below b6, hg0, hg1, fun a ha => ⟨by have := two1.out.doc.low a ha; omega, fun hin => by have := two1.out.doc.low a ha; have := hL2 _ hin; omega⟩⟩
      have hr0 : Hid (LoopA w0 w6 p2 g ((30 + min 0 30 : Nat) : Int)) := ⟨_, qd, cd, S, ops, ar, fl, dead, two6, hob1.out.1, by have := hob1.out.2; omega⟩
      clear two6 b6 a5 b5 rg h6 hg6 hst6 hS hL2 hg0 hg1
      go_wp2_with fail
      go_loopw [63] (fun v63 wr => ∃ i : Nat, i ≤ os2.length ∧ v63 = .int .i64 i ∧ Hid (LoopA w0 wr p2 g ((30 + min i 30 : Nat) : Int))) (fun v63 _ => os2.length - (intOf v63).toNat)
      case atStart => exact ⟨0, by omega, by go_num, hr0⟩
      case round =>
        obtain ⟨j, hj, rfl, hr⟩ := hrel
        by_cases hlt2 : j < os2.length
        · obtain ⟨d, qe, ce, E, opsE, arE, flE, deadE, htw, ho0, ho1⟩ := hr.out
          have hx := List.getElem?_eq_getElem hlt2
          obtain ⟨o, hoe⟩ : ∃ o, os2[j] = o := ⟨_, rfl⟩
          rw [hoe] at hx
          cases q2 with
          | none => rw [hq20'.out rfl] at hlt2; simp at hlt2
          | some a2 =>
            have hin2 : (j : Int) < os2.length := by omega
            have htw' := Lib.hid htw
            have hbw : Hid (Below w.heap.size w wr) := two1.out.mine.below.trans (htw.mine.below.mono two1.out.mine.below.size)
            have hop := Lib.hid ((hv20.out.each o (List.mem_of_getElem? hx)).below hbw.out (Nat.le_refl _))
            have hcel : ∀ k x, o.cells[k]? = some x → wr.cell? ((a2.add (j * 5)).add k) = some x := fun k x hj => by
              rw [Addr.add_add]
              exact cell_keeps hbw.out (Nat.le_refl _) (hq21'.out a2 rfl j o hx k x hj)
            have hcel' := Lib.hid hcel
            have hob := Lib.hid (And.intro ho0 ho1)
            have hsz5 : (Try.prog.info? 35).map (·.size) = some [Value.int .i64 o.kind, .int .i64 o.pos, .int .i64 o.num, .int .u8 o.byte, o.kv].length := by kernel_rfl
            have hrun := Lib.hid (run_any p2 d)
            have hopr := Lib.hid (ops_run d o)
            have hB64 := run_len0 d htw.mine.disk.good o
            have rop : Hid (RowV 35 (wr.alloc (.cells o.cells.toArray 35)) wr.heap.size o.cells) := RowV.made wr _
            unfold OpV.cells at hcel' rop
            obtain ⟨kq, kc, hkv, hkr⟩ := hop.out.keep
            have hx0 := Lib.hid hx
            clear hkr hcel hx hr hr0 hoe htw ho0 ho1
            obtain ⟨kind, pos, num, byte, ks, kv⟩ := o
            simp only at hkv hcel' hsz5
            change Hid (RowV 35 (wr.alloc (.cells [.int .i64 kind, .int .i64 pos, .int .i64 num, .int .u8 byte, kv].toArray 35)) wr.heap.size [.int .i64 kind, .int .i64 pos, .int .i64 num, .int .u8 byte, kv]) at rop
            subst hkv
            by_cases h30 : j < 30
            · have h30' : (j : Int) < 30 := by omega
              obtain ⟨r, hrr⟩ : ∃ r, runRes d ⟨kind, pos, num, byte, ks, .slice kq ks.length kc⟩ = r := ⟨_, rfl⟩
              have hrun2 : Hid (Calls Try.prog 13 #[.agg (OpV.mk kind pos num byte ks (.slice kq ks.length kc)).cells.toArray, ptr p2] (wr.alloc (.cells [.int .i64 kind, .int .i64 pos, .int .i64 num, .int .u8 byte, .slice kq ks.length kc].toArray 35)) (fun e w' => e = .returned (.tuple #[agg r.1.1, .int .i64 r.1.2]) ∧ At w' p2 r.2 ∧ Tch p2.L (wr.alloc (.cells [.int .i64 kind, .int .i64 pos, .int .i64 num, .int .u8 byte, .slice kq ks.length kc].toArray 35)) w')) := by
                have h := hrun.out _ (htw'.out.mine.disk.alloc (.cells [.int .i64 kind, .int .i64 pos, .int .i64 num, .int .u8 byte, .slice kq ks.length kc].toArray 35)) ⟨kind, pos, num, byte, ks, .slice kq ks.length kc⟩ (hop.out.below ((Below.refl _ _).alloc (Nat.le_refl _) _) (Nat.le_refl _)) hob.out.1 (by have := hob.out.2; omega)
                rw [hrr] at h
                exact h
              have hwant : Hid (∀ W, Two w0 W p2 g r.2 d qe ce E opsE arE flE deadE → Calls Try.prog 14 #[.agg (OpV.mk kind pos num byte ks (.slice kq ks.length kc)).cells.toArray, .agg #[.slice qe E.length ce, .int .i64 opsE, .int .i64 arE, .int .i64 flE, .bool deadE]] W (DocPost W qe r.2 (fun v => .returned (.tuple #[v, agg r.1.1, .int .i64 r.1.2])))) := fun W hW => by
                have h := wants_any hW.doc (htw'.out.room hob.out.1 (by have := hob.out.2; omega)) ⟨kind, pos, num, byte, ks, .slice kq ks.length kc⟩ ((hv20.out.each _ (List.mem_of_getElem? (hx0.out))).below (two1.out.mine.below.trans (hW.mine.below.mono two1.out.mine.below.size)) (Nat.le_refl _))
                rw [hrr] at h
                exact h
              rw [hrr] at hB64 hopr
              have hBB : (!(r.1.1 == r.1.1)) = false := by simp
              clear hrun
              go_wp2_with (first
                | (with_reducible refine wpList_load_at rfl 35 (.tmp 66) rfl Try.underlying35 rfl hsz5 rfl hcel'.out ?_)
                | (with_reducible refine wpList_load_at rfl 35 (.tmp 15) rfl Try.underlying35 rfl hsz5 rfl (rop6.out.part (o := 0) (pre := []) (rest := []) (by simp) rfl) ?_)
                | (with_reducible refine wpList_load_at rfl 31 (.tmp 13) rfl Try.underlying31 rfl (vs := dL qe E.length ce opsE arE flE deadE) (size31b _ _ _ _ _) rfl (two6.out.row.part (o := 0) (pre := []) (rest := []) (part31 _) rfl) ?_)
                | (with_reducible refine wpList_load_at rfl 31 (.tmp 18) rfl Try.underlying31 rfl (vs := dL q7 S7.length c7 ops7 ar7 fl7 dead7) (size31b _ _ _ _ _) rfl (r18.out.part (o := 0) (pre := []) (rest := []) (part31 _) rfl) ?_)
                | (with_reducible refine wpList_load_at rfl 37 (.tmp 16) rfl Try.underlying37 rfl (vs := bl r.1.1) (bl_size hB64) rfl (rA.out.part (o := 0) (pre := []) (rest := []) (bl_part r.1.1) rfl) ?_)
                | (with_reducible refine wpList_load_at rfl 37 (.tmp 19) rfl Try.underlying37 rfl (vs := bl r.1.1) (bl_size hB64) rfl (rB.out.part (o := 0) (pre := []) (rest := []) (bl_part r.1.1) rfl) ?_)
                | ((with_reducible refine wpList_alloc_z rfl 37 rfl alloc37z ?_)
                   try simp only [World.size_alloc])
                | (with_reducible refine wpList_alloc_z rfl 31 rfl alloc31 ?_)
                | (go_at_call 13
                   refine hrun2.out.mono ?_
                   rintro e w5 ⟨rfl, hA, hT⟩
                   have two5 := Lib.hid ((htw'.out.below ((Below.refl _ _).alloc (Nat.le_refl _) _)).run hA hT)
                   have rop5 := Lib.hid (rop.out.tch hT (fun hin => by have := at_lts htw'.out.mine.disk _ hin; omega))
                   have r16z : Hid (RowV 37 (w5.alloc (.cells (bl z64).toArray 37)) w5.heap.size (bl z64)) := RowV.made w5 _
                   clear hA hT)
                | (go_at_call 14
                   refine (hwant.out _ two6.out).mono ?_
                   rintro e w7 ⟨q7, c7, S7, ops7, ar7, fl7, dead7, rfl, hd7, hb7, hf7⟩
                   have d7 := Lib.hid hd7
                   have b7 := Lib.hid hb7
                   have f7 := Lib.hid hf7
                   have r18z : Hid (RowV 31 ((w7.alloc (.cells (dL none 0 0 0 0 0 false).toArray 31)).alloc (.cells (bl z64).toArray 37)) w7.heap.size (dL none 0 0 0 0 0 false)) := (RowV.made w7 _).block (heap_alloc_old _ _ (by simp))
                   have r19y := RowV.made (T := 37) (w7.alloc (.cells (dL none 0 0 0 0 0 false).toArray 31)) (bl z64)
                   rw [World.size_alloc] at r19y
                   have r19z := Lib.hid r19y
                   clear hd7 hb7 hf7 r19y)
                | ((with_reducible refine wpList_store_at rfl 37 (.tmp 16) (.tmp 74) rfl (o := 0) rfl rfl r16z.out (bl_size hB64) (bl_fits hB64 z64_len) (bl_one r.1.1) ?_)
                   intro w6 h6 hg6
                   rw [bl_splice hB64 z64_len] at h6
                   have b6 : Below w5.heap.size w5 w6 := ((Below.refl _ _).alloc (Nat.le_refl _) _).grown hg6 (by rw [World.size_alloc]; omega) (fun k e => by cases e; exact Nat.le_refl _)
                   have two6 := Lib.hid (two5.out.below b6)
                   have rop6 := Lib.hid (rop5.out.below b6)
                   have r16 := Lib.hid h6
                   clear h6 hg6 b6)
                | ((with_reducible refine wpList_store_at rfl 31 (.tmp 18) (.tmp 80) rfl (o := 0) rfl rfl r18z.out (size31b _ _ _ _ _) (fit31 _ _ _ _ _ _ _ _ _ _) (one31 q7 S7.length c7 ops7 ar7 fl7 dead7) ?_)
                   intro w8 h8 hg8
                   rw [d5_splice] at h8
                   have r18a := Lib.hid h8
                   have r19a := Lib.hid (r19z.out.kept hg8 (by omega))
                   have b8 : Hid (Below w7.heap.size w7 w8) := (((Below.refl _ _).alloc (Nat.le_refl _) _).alloc (by simp) _).grown hg8 (by simp; omega) (fun k e => by cases e; exact Nat.le_refl _)
                   clear h8 hg8)
                | ((with_reducible refine wpList_store_at rfl 37 (.tmp 19) (.tmp 81) rfl (o := 0) rfl rfl r19a.out (bl_size hB64) (bl_fits hB64 z64_len) (bl_one r.1.1) ?_)
                   intro w9 h9 hg9
                   rw [bl_splice hB64 z64_len] at h9
                   have r18 := Lib.hid (r18a.out.kept hg9 (by omega))
                   have r19 := Lib.hid h9
                   have b9' : Hid (Below w7.heap.size w7 w9) := b8.out.grown hg9 b8.out.size (fun k e => by cases e; omega)
                   have row9 := Lib.hid ((two6.out.row.below b7.out).below b9'.out)
                   clear h9 hg9)
                | ((with_reducible refine wpList_store_at rfl 31 (.tmp 13) (.tmp 83) rfl (o := 0) rfl rfl row9.out (size31b _ _ _ _ _) (fit31 _ _ _ _ _ _ _ _ _ _) (one31 q7 S7.length c7 ops7 ar7 fl7 dead7) ?_)
                   intro wA hA hgA
                   rw [d5_splice] at hA
                   have twoA := Lib.hid (two6.out.wants (b7.out.trans (b9'.out.mono b7.out.size)) (d7.out.below b9'.out) f7.out hA hgA)
                   have l5 := two5.out.row.lt
                   have l6 := r16.out.lt
                   have l7 := b7.out.size
                   have rA := Lib.hid (((r16.out.below b7.out).below b9'.out).kept hgA (by omega))
                   have rB := Lib.hid (r19.out.kept hgA (by omega))
                   clear hA hgA)
                | ((with_reducible refine wpList_neq_blk rfl rfl rfl rfl hB64 hB64 ?_)
                   rw [hBB]))
              go_roundw
              case rel =>
                refine ⟨j + 1, by omega, by go_num, ⟨_, q7, c7, S7, ops7, ar7, fl7, dead7, twoA.out, ?_, ?_⟩⟩
                · have h1 := hob.out.1; rcases hopr.out with e | e <;> rw [e] <;> omega
                · have h1 := hob.out.2; rcases hopr.out with e | e <;> rw [e] <;> omega
              case measure => simp [intOf]; omega
            · have h30' : (30 : Int) ≤ j := by omega
              go_wp2_with (first
                | (with_reducible refine wpList_load_at rfl 35 (.tmp 66) rfl Try.underlying35 rfl hsz5 rfl hcel'.out ?_))
              go_roundw
              case rel =>
                refine ⟨j + 1, by omega, by go_num, ⟨_, qe, ce, E, opsE, arE, flE, deadE, htw'.out.below ((Below.refl _ _).alloc (Nat.le_refl _) _), hob.out.1, ?_⟩⟩
                have := hob.out.2; omega
              case measure => simp [intOf]; omega
        · obtain rfl : os2.length = j := by omega
          obtain ⟨d2, qe, ce, E, opsE, arE, flE, deadE, htw, ho0, ho1⟩ := hr.out
          have twoF := Lib.hid htw
          have twoM := Lib.hid (two1.out.below htw.mine.below)
          clear hr hr0 htw ho0 ho1 two1
          go_wp2_with (first
            | (with_reducible refine wpList_load_at rfl 31 (.tmp 13) rfl Try.underlying31 rfl (vs := dL qe E.length ce opsE arE flE deadE) (size31b _ _ _ _ _) rfl (twoF.out.row.part (o := 0) (pre := []) (rest := []) (part31 _) rfl) ?_))
          refine (saysD_any p2 d2 _ twoF.out.mine.disk twoF.out.doc).mono ?_
          rintro e wa ⟨rfl, hba⟩
          have twoA := Lib.hid (twoM.out.below hba)
          clear hba twoF twoM
          go_wp2_with (first
            | ((with_reducible refine wpList_load_w 31 (.tmp 9) rfl ?_ Try.underlying31 rfl (vs := dL qd S.length cd ops ar fl dead) (size31b _ _ _ _ _) rfl (twoA.out.row.part (o := 0) (pre := []) (rest := []) (part31 _) rfl) ?_)
               · exact rfl))
          refine (saysD_any p d1 _ twoA.out.mine.disk twoA.out.doc).mono ?_
          rintro e wb ⟨rfl, hbb⟩
          have twoB := Lib.hid (twoA.out.below hbb)
          clear hbb twoA
          go_wp2_with fail
          refine (crash_any p d1 _ twoB.out.mine.disk (.slice none 0 0) [] ⟨none, 0, rfl, fun _ => rfl, fun a ha => by cases ha⟩).mono ?_
          rintro e wc ⟨rfl, hA, hT⟩
          have twoC := Lib.hid (twoB.out.run hA hT)
          have hgd := Lib.hid twoB.out.mine.disk.good
          have hgc := Lib.hid hA.good
          clear hA hT twoB
          go_wp2_with (first
            | (with_reducible refine wpList_load_at rfl 31 (.tmp 9) rfl Try.underlying31 rfl (vs := dL qd S.length cd ops ar fl dead) (size31b _ _ _ _ _) rfl (twoC.out.row.part (o := 0) (pre := []) (rest := []) (part31 _) rfl) ?_))
          refine (crash_doc twoC.out.doc hgd.out (keep_none _)).mono ?_
          rintro e wd ⟨q8, c8, S8, ops8, ar8, fl8, dead8, rfl, hd8, hb8, hf8⟩
          obtain ⟨dc, hdc⟩ : ∃ dc, crRes d1 [] = dc := ⟨_, rfl⟩
          have hcn : ∀ k, dc.cache k = none := fun k => by rw [← hdc]; rfl
          have hops : dc.ops = d1.ops := by rw [← hdc]; rfl
          have hcalm : Calm dc dc.held.length := by rw [← hdc]; exact ⟨rfl, rfl, rfl, rfl⟩
          rw [hdc] at hd8 twoC hgc
          have hsec := Lib.hid hd8.tw.secs
          have hr0 : Hid (LoopC w wd p dc q8 c8 S8 0) := ⟨⟨dc, twoC.out.mine.stay hb8, hcalm, rfl, rfl, by rw [hops]; exact hob1.out.1, by rw [hops]; have := hob1.out.2; omega⟩, hd8.holds, fun a ha => ⟨by
            rcases hf8 with rfl | hf8
            · exact (twoC.out.far a ha).2
            · exact fun hin => by have := hf8 a ha; have := at_lts twoC.out.mine.disk _ hin; omega, hd8.low a ha⟩⟩
          have hcn' := Lib.hid hcn
          have hle : S8.length ≤ 4096 := hsec.out.n hgc.out
          clear hd8 hb8 hf8 hdc twoC hcalm hops hcn
          have hfd := run_field31 q8 S8.length c8 ops8 ar8 fl8 dead8
          go_wp2_with fail
          clear hfd
          go_loopw [112] (fun v112 wr => ∃ i : Nat, i ≤ S8.length ∧ v112 = .int .i64 i ∧ Hid (LoopC w wr p dc q8 c8 S8 i)) (fun v112 _ => S8.length - (intOf v112).toNat)
          case atStart => exact ⟨0, by omega, by go_num, hr0⟩
          case round =>
            obtain ⟨k, hk, rfl, hr⟩ := hrel
            by_cases hlt3 : k < S8.length
            · obtain ⟨d', hm, hcm, hca, hhe, ho0, ho1⟩ := hr.out.ex
              have hkh : k < dc.held.length := by rw [← hsec.out.1]; exact hlt3
              obtain ⟨cc, hS8, hC0, _⟩ := hsec.out.2 k hkh
              obtain ⟨a8, rfl, hcel0⟩ := secs_at hr.out.holds (hsec.out.ok hgc.out) hlt3 hS8
              obtain ⟨B, hB⟩ : ∃ B, dc.hold k = B := ⟨_, rfl⟩
              have hB64 : B.length = 64 := by rw [← hB]; exact Dk.hold_len hgc.out (by omega) (by omega)
              obtain ⟨is, his⟩ : ∃ is, (dc.cache k).isSome = is := ⟨_, rfl⟩
              have hsay : d'.says k = B := by
                unfold Dk.says Dk.hold
                rw [hca, hhe, hcn'.out]
                exact hB
              have hrd : Hid (∀ W, At W p d' → Calls Try.prog 19 #[ptr p, .int .i64 k] W (fun e w' => e = .returned (.tuple #[agg B, .int .i64 0]) ∧ At w' p (dRead d') ∧ Tch p.L W w')) := fun W hW => by
                have h := read_any p d' W hW ho0 (by omega) k
                rw [hcm.rd (by omega) (by omega), hsay] at h
                exact h
              simp only [hB, his] at hcel0
              have hcel : Hid (∀ j v, (secV (bl B) cc is)[j]? = some v → wr.cell? ((a8.add (k * 129)).add j) = some v) := hcel0
              have hH : Hid (Blk (bl B)) := blk_bl hB64
              have hC := Lib.hid hC0
              have rz : Hid (RowV 47 (wr.alloc (.cells (secV (blk 0) (blk 0) false).toArray 47)) wr.heap.size (secV (blk 0) (blk 0) false)) := RowV.made wr _
              have hm' := Lib.hid hm
              have hdd := Lib.hid (And.intro hcm (And.intro hca (And.intro hhe (And.intro ho0 ho1))))
              have hBB : (!(B == B)) = false := by simp
              clear hcel0 hC0 hB his hsay hm hcm hca hhe ho0 ho1 hS8 hr0
              go_wp2_with (first
                | (with_reducible refine wpList_load_at rfl 47 (.tmp 115) rfl Try.underlying47 rfl (vs := secV (bl B) cc is) (sec_size hH.out hC.out) rfl hcel.out ?_)
                | (with_reducible refine wpList_alloc_z rfl 47 rfl alloc47 ?_)
                | (with_reducible refine wpList_alloc_z rfl 37 rfl alloc37z ?_)
                | ((with_reducible refine wpList_store_at rfl 47 (.tmp 22) (.tmp 116) rfl (o := 0) rfl rfl rz.out (sec_size hH.out hC.out) (sec_fits hH.out hC.out (blk_blk 0) (blk_blk 0)) (sec_one hH.out hC.out) ?_)
                   intro w6 h6 hg6
                   rw [sec_splice hH.out hC.out (blk_blk 0) (blk_blk 0)] at h6
                   have b6 : Below wr.heap.size wr w6 := ((Below.refl _ _).alloc (Nat.le_refl _) _).grown hg6 (by rw [World.size_alloc]; omega) (fun j e => by have := Option.some.inj e; omega)
                   have t6 := Lib.hid b6
                   have x6 := Lib.hid h6
                   have m6 := Lib.hid (hm'.out.stay b6)
                   clear h6 hg6 b6)
                | (go_at_call 19
                   refine (hrd.out _ m6.out.disk).mono ?_
                   rintro e w7 ⟨rfl, hA, hT⟩
                   have m7 := Lib.hid (m6.out.tch hA hT)
                   have x7 := Lib.hid (x6.out.tch hT (fun hin => by have := at_lts hm'.out.disk _ hin; omega))
                   have h7 := Lib.hid (holdsE_kept (holdsE_below hr.out.holds t6.out (Nat.le_refl _)) (fun a ha => hT.block _ (Nat.lt_of_lt_of_le (hr.out.far a ha).2 t6.out.size) (hr.out.far a ha).1))
                   have s7 := Lib.hid (Nat.le_trans t6.out.size hT.size)
                   have r23z : Hid (RowV 37 (w7.alloc (.cells (bl z64).toArray 37)) w7.heap.size (bl z64)) := RowV.made w7 _
                   clear hA hT)
                | ((with_reducible refine wpList_store_at rfl 37 (.tmp 23) (.tmp 121) rfl (o := 0) rfl rfl r23z.out (bl_size hB64) (bl_fits hB64 z64_len) (bl_one B) ?_)
                   intro w8 h8 hg8
                   rw [bl_splice hB64 z64_len] at h8
                   have b8 : Below w7.heap.size w7 w8 := ((Below.refl _ _).alloc (Nat.le_refl _) _).grown hg8 (by rw [World.size_alloc]; omega) (fun j e => by have := Option.some.inj e; omega)
                   have t8 := Lib.hid b8
                   have r23 := Lib.hid h8
                   have x8 := Lib.hid (x7.out.below b8)
                   clear h8 hg8 b8)
                | ((with_reducible refine wpList_load_w 37 (.tmp 23) rfl ?_ Try.underlying37 rfl (vs := bl B) (bl_size hB64) rfl (r23.out.part (o := 0) (pre := []) (rest := []) (bl_part B) rfl) ?_)
                   · exact rfl)
                | ((with_reducible refine wpList_load_w 37 (.tmp 127) rfl ?_ Try.underlying37 rfl (vs := bl B) (bl_size hB64) rfl (x8.out.part (o := 0) (pre := []) (rest := cc ++ [.bool is]) rfl rfl) ?_)
                   · exact rfl)
                | ((refine wpList_neq_blk rfl rfl rfl rfl hB64 hB64 ?_)
                   rw [hBB]))
              go_roundw
              case rel =>
                refine ⟨k + 1, by omega, by go_num, ⟨⟨dRead d', m7.out.stay t8.out, ⟨hdd.out.1.dead, hdd.out.1.al, hdd.out.1.fl, hdd.out.1.len⟩, hdd.out.2.1, hdd.out.2.2.1, ?_, ?_⟩, holdsE_below h7.out t8.out (Nat.le_refl _), fun a ha => ⟨(hr.out.far a ha).1, ?_⟩⟩⟩
                · show 0 ≤ d'.ops + 1; have := hdd.out.2.2.2.1; omega
                · show d'.ops + 1 ≤ _; have := hdd.out.2.2.2.2; omega
                · exact Nat.lt_of_lt_of_le (hr.out.far a ha).2 (Nat.le_trans s7.out t8.out.size)
              case measure => simp [intOf]; omega
            · obtain rfl : S8.length = k := by omega
              obtain ⟨d', hm, _⟩ := hr.out.ex
              have hm' := Lib.hid hm.below
              clear hr hr0 hm
              go_wp2
              go_returns
              exact ⟨rfl, hm'.out⟩

end Go.Proofs.Ytnjandmlhncapaa
