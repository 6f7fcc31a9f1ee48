/- DiskNils: for every list of numbers and operation the law returns true, and its arguments read as they did. No condition. -/
import Derived.Test.YtnjandmlhncapaaNilB
import Derived.BigQuiet
import Derived.Deep.QuietTactic
namespace Go.Proofs.Ytnjandmlhncapaa
open Go.ChangeShapes Go.WideShapes Go.ChangeAt Go.RowKit

structure NilsRel (w W : World) (B : Nat) (o : OpV) : Prop where
  below : Below w.heap.size w W
  op : RowV 35 W B o.cells

theorem eq_z (x y : Operand) (w : World) : (do eqGuard .eql 37 x y (agg z64) (agg z64); binOp .eql 37 (agg z64) (agg z64) : Sem Value).run Try.prog w = .ok (.bool true) w := by
  kernel_rfl
section
variable {P : Program} {ops : Array Oper} {rest : List Oper} {o : Oper} {a : Act} {w : World} {Q : Exit → Act → World → Prop}
theorem wpList_wanted (hw : Region.wanted o (yielded ops a.tmps) = true) (h : ∀ K : Act → World → Prop, (∀ a w, wpList P ops Q rest a w → K a w) → o.wp P a w K Q) : wpList P ops Q (o :: rest) a w :=
  wpList_step fun K hK => by simp only [hw, if_true]; exact h K hK
theorem wpList_load_w (ty : TypeId) (x : Operand) (ho : o.op = .load ty x) (hw : Region.wanted o (yielded ops a.tmps) = true) {d : TypeDesc} (hu : P.underlying ty = some d)
    (hd : (match d with | .struct _ | .array _ _ => true | _ => false) = true) {vs : List Value} (hi : (P.info? ty).map (·.size) = some vs.length) {ad : Addr} (hx : a.eval x = .pointer (some ad))
    (hc : ∀ j v, vs[j]? = some v → w.cell? (ad.add j) = some v) (h : wpList P ops Q rest (a.put o.dst (.agg vs.toArray)) w) : wpList P ops Q (o :: rest) a w := by
  refine wpList_wanted hw fun K hK => ?_
  unfold Oper.wp execOp
  simp only [ho, hx, Instr.loadAt, Instr.sureAddr, Sem.run_bind, Sem.run_pure, Result.andThen_ok, run_loadVar_at hu hd hi ad hc]
  exact hK _ _ h
end
theorem wpList_build_w {ops : Array Oper} {rest : List Oper} {o : Oper} {a : Act} {w : World} {Q : Exit → Act → World → Prop} (ho : o.op = .build 37 #[]) (hw : Region.wanted o (yielded ops a.tmps) = true)
    (h : wpList Try.prog ops Q rest (a.put o.dst (agg z64)) w) : wpList Try.prog ops Q (o :: rest) a w := by
  refine wpList_wanted hw fun K hK => ?_
  unfold Oper.wp execOp
  have hb := build37 w
  simp only [ho, List.map_toArray, List.map_nil, Sem.run_bind, hb, Result.andThen_ok, Sem.run_pure]
  exact hK _ _ h
theorem wpList_eq_z {ops : Array Oper} {rest : List Oper} {o : Oper} {a : Act} {w : World} {Q : Exit → Act → World → Prop} {x y : Operand} {t : TypeId} (ho : o.op = .binOp .eql 37 x y t) (hw : Region.wanted o (yielded ops a.tmps) = true)
    (hx : a.eval x = agg z64) (hy : a.eval y = agg z64) (h : wpList Try.prog ops Q rest (a.put o.dst (.bool true)) w) : wpList Try.prog ops Q (o :: rest) a w := by
  refine wpList_wanted hw fun K hK => ?_
  unfold Oper.wp execOp
  have hb := eq_z x y w
  simp only [Sem.run_bind] at hb
  simp only [ho, hx, hy, Sem.run_bind, hb, Result.andThen_ok, Sem.run_pure]
  exact hK _ _ h

set_option maxRecDepth 100000 in
set_option maxHeartbeats 4000000 in
theorem nils_any (v : Value) (zs : List Int) (o : OpV) (w : World) (hv : IsInts w v zs) (ho : IsOp w o) :
    Calls Try.prog 4 #[v, .agg o.cells.toArray] w (fun e w' => e = .returned (.bool true) ∧ Below w.heap.size w w') := by
  obtain ⟨q, c, rfl, hq0, hql, hqz, hq1⟩ := hv
  have hol : zs.length ≤ 9223372036854775807 := by unfold maxLen at hql; omega
  have hq0' := Lib.hid hq0
  have hq1' := Lib.hid hq1
  have hqz' := Lib.hid hqz
  have ho' := Lib.hid ho
  clear hq0 hq1 hqz hql ho
  have hop0 : Hid (RowV 35 (w.alloc (.cells o.cells.toArray 35)) w.heap.size o.cells) := RowV.made w o.cells
  unfold OpV.cells at hop0 ⊢
  have hsz5 : (Try.prog.info? 35).map (·.size) = some [Value.int .i64 o.kind, .int .i64 o.pos, .int .i64 o.num, .int .u8 o.byte, o.kv].length := by kernel_rfl
  go_enter Try.func4, Try.ntmps4
  go_wp2_with fail
  refine (wakes_any _).mono ?_
  rintro e w1 ⟨rfl, hb1⟩
  have hS0 : Hid (NilsRel w w1 w.heap.size o) := ⟨((Below.refl _ _).alloc (Nat.le_refl _) _).trans (hb1.mono (by simp)), hop0.out.below hb1⟩
  clear hb1 hop0
  go_wp2_with fail
  go_loopw [17] (fun v17 wr => ∃ i : Nat, i ≤ zs.length ∧ v17 = .int .i64 i ∧ Hid (NilsRel w wr w.heap.size o)) (fun v17 _ => zs.length - (intOf v17).toNat)
  case atStart => exact ⟨0, by omega, by go_num, hS0⟩
  case round =>
    obtain ⟨i, hi, rfl, hr⟩ := hrel
    by_cases hlt : i < zs.length
    · have hin : (i : Int) < zs.length := by omega
      have hx := List.getElem?_eq_getElem hlt
      obtain ⟨z, hze⟩ : ∃ z, zs[i] = z := ⟨_, rfl⟩
      rw [hze] at hx
      have hz := hqz'.out z (List.mem_of_getElem? hx)
      unfold I64 at hz
      obtain ⟨hz1, hz2⟩ := hz
      cases q with
      | none => rw [hq0'.out rfl] at hlt; simp at hlt
      | some a =>
        have hcel : wr.cell? (a.add i) = some (.int .i64 z) := cell_keeps hr.out.below (Nat.le_refl _) (hq1'.out a rfl i z hx)
        clear hx hze
        by_cases h8 : i = 8
        · have h8' : ((i : Int) == 8) = true := by simp; omega
          have hrn := Lib.hid (run_nil wr o (ho'.out.below hr.out.below (Nat.le_refl _)))
          have hop := Lib.hid hr.out.op
          unfold OpV.cells at hrn hop
          clear h8
          go_wp2_with (first
            | (with_reducible refine wpList_load_at rfl 35 (.tmp 3) rfl Try.underlying35 rfl hsz5 rfl (hop.out.part (o := 0) (pre := []) (rest := []) (by simp) rfl) ?_)
            | (go_at_call 13; refine hrn.out.mono ?_; clear hrn; rintro e w6 ⟨rfl, hB⟩
               have b6 := Lib.hid (hr.out.below.trans (hB.mono hr.out.below.size))
               have r6 : Hid (RowV 37 (w6.alloc (.cells (bl z64).toArray 37)) w6.heap.size (bl z64)) := RowV.made w6 _
               have b6' := Lib.hid (b6.out.alloc b6.out.size (.cells (bl z64).toArray 37))
               clear hB)
            | (with_reducible refine wpList_alloc_z rfl 37 rfl alloc37z ?_)
            | ((with_reducible refine wpList_store_at rfl 37 (.tmp 11) (.tmp 67) rfl (o := 0) rfl rfl r6.out (bl_size z64_len) (bl_fits z64_len z64_len) (bl_one z64) ?_)
               intro w7 h7 hg7
               rw [bl_splice z64_len z64_len] at h7
               have r7 := Lib.hid h7
               have b7 := Lib.hid (b6'.out.grown hg7 b6'.out.size (fun j e => by cases e; exact b6.out.size))
               clear h7 hg7)
            | ((with_reducible refine wpList_load_w 37 (.tmp 11) rfl ?_ Try.underlying37 rfl (vs := bl z64) (bl_size z64_len) rfl (r7.out.part (o := 0) (pre := []) (rest := []) (bl_part z64) rfl) ?_)
               · exact rfl)
            | (refine wpList_build_w rfl rfl ?_)
            | (refine wpList_eq_z rfl rfl rfl rfl ?_)
            | (go_at_call 15; refine (copy_nil _).mono ?_; rintro e w' ⟨rfl, hw⟩; obtain rfl := hw.symm)
            | (go_at_call 20; refine (len_nil _).mono ?_; rintro e w' ⟨rfl, hw⟩; obtain rfl := hw.symm)
            | (go_at_call 21; refine (pending_nil _).mono ?_; rintro e w' ⟨rfl, hw⟩; obtain rfl := hw.symm)
            | (go_at_call 22; refine (ops_nil _).mono ?_; rintro e w' ⟨rfl, hw⟩; obtain rfl := hw.symm)
            | (go_at_call 23; refine (dead_nil _).mono ?_; rintro e w' ⟨rfl, hw⟩; obtain rfl := hw.symm))
          go_ret
          exact ⟨rfl, b7.out⟩
        · have h8' : ((i : Int) == 8) = false := by simp; omega
          by_cases hg : 1 ≤ z ∧ z ≤ 2048
          · obtain ⟨hg1, hg2⟩ := hg
            obtain ⟨m, rfl⟩ : ∃ m : Nat, z = m := ⟨z.toNat, by omega⟩
            have hnw := Lib.hid (new_any m wr (by omega) (by omega))
            go_wp2_with (first
              | (go_at_call 10; refine hnw.out.mono ?_; clear hnw; rintro e w5 ⟨p, rfl, hA, hB, _⟩
                 have m0 := Lib.hid hA
                 have hS1 : Hid (NilsRel w w5 w.heap.size o) := ⟨hr.out.below.trans (hB.mono hr.out.below.size), hr.out.op.below hB⟩
                 clear hA hB)
              | (go_at_call 20; refine (len_any p _ _ m0.out).mono ?_; rintro e w' ⟨rfl, hw⟩; obtain rfl := hw.symm; rw [show (dNew m).held.length = m by simp [dNew]]))
            go_roundw
            case rel => exact ⟨i + 1, by omega, by go_num, hS1⟩
            case measure => simp [intOf]; omega
          · have hbad := Lib.hid (new_bad z wr (by omega))
            by_cases hz0 : z < 1
            · go_wp2_with (go_at_call 10; refine hbad.out.mono ?_; clear hbad; rintro e w' ⟨rfl, hw⟩; obtain rfl := hw.symm)
              go_roundw
              case rel => exact ⟨i + 1, by omega, by go_num, hr⟩
              case measure => simp [intOf]; omega
            · have hz3 : 1 ≤ z := by omega
              have hz4 : 2048 < z := by omega
              go_wp2_with (go_at_call 10; refine hbad.out.mono ?_; clear hbad; rintro e w' ⟨rfl, hw⟩; obtain rfl := hw.symm)
              go_roundw
              case rel => exact ⟨i + 1, by omega, by go_num, hr⟩
              case measure => simp [intOf]; omega
    · obtain rfl : zs.length = i := by omega
      have hrn := Lib.hid (run_nil wr o (ho'.out.below hr.out.below (Nat.le_refl _)))
      have hop := Lib.hid hr.out.op
      unfold OpV.cells at hrn hop
      go_wp2_with (first
        | (with_reducible refine wpList_load_at rfl 35 (.tmp 3) rfl Try.underlying35 rfl hsz5 rfl (hop.out.part (o := 0) (pre := []) (rest := []) (by simp) rfl) ?_)
        | (go_at_call 13; refine hrn.out.mono ?_; clear hrn; rintro e w6 ⟨rfl, hB⟩
           have b6 := Lib.hid (hr.out.below.trans (hB.mono hr.out.below.size))
           have r6 : Hid (RowV 37 (w6.alloc (.cells (bl z64).toArray 37)) w6.heap.size (bl z64)) := RowV.made w6 _
           have b6' := Lib.hid (b6.out.alloc b6.out.size (.cells (bl z64).toArray 37))
           clear hB)
        | (with_reducible refine wpList_alloc_z rfl 37 rfl alloc37z ?_)
        | ((with_reducible refine wpList_store_at rfl 37 (.tmp 11) (.tmp 67) rfl (o := 0) rfl rfl r6.out (bl_size z64_len) (bl_fits z64_len z64_len) (bl_one z64) ?_)
           intro w7 h7 hg7
           rw [bl_splice z64_len z64_len] at h7
           have r7 := Lib.hid h7
           have b7 := Lib.hid (b6'.out.grown hg7 b6'.out.size (fun j e => by cases e; exact b6.out.size))
           clear h7 hg7)
        | ((with_reducible refine wpList_load_w 37 (.tmp 11) rfl ?_ Try.underlying37 rfl (vs := bl z64) (bl_size z64_len) rfl (r7.out.part (o := 0) (pre := []) (rest := []) (bl_part z64) rfl) ?_)
           · exact rfl)
        | (refine wpList_build_w rfl rfl ?_)
        | (refine wpList_eq_z rfl rfl rfl rfl ?_)
        | (go_at_call 15; refine (copy_nil _).mono ?_; rintro e w' ⟨rfl, hw⟩; obtain rfl := hw.symm)
        | (go_at_call 20; refine (len_nil _).mono ?_; rintro e w' ⟨rfl, hw⟩; obtain rfl := hw.symm)
        | (go_at_call 21; refine (pending_nil _).mono ?_; rintro e w' ⟨rfl, hw⟩; obtain rfl := hw.symm)
        | (go_at_call 22; refine (ops_nil _).mono ?_; rintro e w' ⟨rfl, hw⟩; obtain rfl := hw.symm)
        | (go_at_call 23; refine (dead_nil _).mono ?_; rintro e w' ⟨rfl, hw⟩; obtain rfl := hw.symm))
      go_ret
      exact ⟨rfl, b7.out⟩

set_option maxRecDepth 1000000 in
theorem nils_lifted (os : Os) (started : os.Started) (H : Type) (enc : TypeId × Value → H) :
    ReturnsInHanded {} Try.checked os 4 .any (Rows.diskNilsSpec.pre6 enc Try.prog Try.f4 Rows.diskNilsRow.domain false) (Rows.diskNilsSpec.post enc Try.prog Try.f4 false true false false) := by
  refine returnsInHanded_of_change (C := Try.checked) own started (by kernel_rfl) Try.func4
    (ChangeSpec.witness6 (enc := enc) (C := Try.checked) false ⟨#[], #[.slice none 0 0, .agg #[.int .i64 0, .int .i64 0, .int .i64 0, .int .u8 0, .slice none 0 0]], []⟩ 8 (by kernel_rfl) (by kernel_rfl) (by kernel_rfl) (by kernel_rfl)) ?_
  intro W base args ds gs before hval0 hW _ _
  have hval : ∀ (j : Nat) t v, Try.f4.params[j]? = some t → args[j]? = some v → Value.okWide Try.prog W .any base t v := hval0
  have hW' := hW
  obtain ⟨p, q, hA0, hV, rfl, _, _⟩ := hW
  have hA : DataW.TrodAll enc Try.prog W 0 (fun _ => true) true Try.f4.params.toList args.toList ds p := hA0
  rw [Try.params4] at hA hval
  obtain ⟨v0, v1, d0, d1, p0, p1, rfl, rfl, rfl, h0, h1⟩ := trodAll_two hA
  obtain ⟨rfl, rfl⟩ := trodVars_none hV
  obtain ⟨a0, len0, cap0, rfl⟩ := okWide_slice Try.underlying50 (hval 0 50 v0 rfl rfl)
  obtain ⟨zs, hzs⟩ := open_nums ⟨_, _, _, rfl⟩ h0
  obtain ⟨o, rfl, ho⟩ := open_op0 (hval 1 35 v1 rfl rfl) h1
  refine (nils_any _ zs o W hzs ho).mono fun e W' ⟨he, hb⟩ => ?_
  subst he
  exact ⟨_, rfl, law_post laidOut (of_decide_eq_true (by kernel_rfl)) rfl (by kernel_rfl) Try.underlying4 hW' ⟨rfl, rfl, rfl⟩ hb⟩

set_option maxRecDepth 1000000 in
theorem nils_holds : Rows.DiskNilsSaid :=
  OpenClaim.holds_of_wide 4 Try.f4 rfl rfl rfl rfl rfl rfl rfl ⟨rfl, rfl, rfl, rfl, rfl⟩ rfl rfl rfl rfl rfl (by kernel_rfl) Try.func4 (by kernel_rfl)
    (of_decide_eq_true (by kernel_rfl)) (by unfold Func.isWrapper; first | (rw [if_pos (by decide +kernel)]; kernel_rfl) | (rw [if_neg (by decide +kernel)]; exact ⟨rfl, rfl⟩))
    (fun os started H enc _ => nils_lifted os started H enc)

end Go.Proofs.Ytnjandmlhncapaa
