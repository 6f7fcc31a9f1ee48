/- The sectors that are pending, told one behind the other: eachPending, for every loop that goes on. -/
import Derived.Test.YtjhnagipagkhiaaGreatMeth
import Derived.Test.YtjhnagipagkhiaaGreatShelf
import Derived.RangeFuncNested
import Derived.RangeFuncBound
import Derived.RangeFuncCalls
import Derived.RangeFuncLeaves
import Derived.Shelf.Abstract
import Derived.OwnWalkIn
import Derived.TacticsInMore
import Derived.RegionIn
import Derived.LoopNIn
import Derived.LoopIn
namespace Go.Proofs.YtjhnagipagkhiaaGreat
open Go.RowKit Go.Maps Go.Sort Go.Shelf
attribute [local go_sem] Oper.semAt_some

theorem sorts (m : Nat) : AnyZI.SortsIn Tryz.prog Tryz.sortedA_ren Fence.wide m :=
  ⟨fun blk off cap ss W hH hblk hsz => callsIn_wide.2 (Tryz.slices_Sort_int blk off cap ss W hH hblk hsz), fun q cap W => callsIn_wide.2 (Tryz.slices_Sort_int_none q cap W)⟩

theorem keys_call (mb : Option Nat) (n : Nat) (W : World) : CallsIn Fence.wide n Tryz.prog 95 #[.map mb] W fun e w' => e = .returned (.func (.func 117) #[] #[.pointer (some ⟨W.heap.size, 0, none⟩)]) ∧ w' = W.alloc (.cells #[.map mb] 76) :=
  AnyZI.keys_in Tryz.keysA Fence.wide n trivial rfl mb W

theorem sorted_call (b cn : Nat) (f : Int → Option Value) (ks : List Int) (B : Nat) (w : World) (hB : w.cell? ⟨B, 0, none⟩ = some (.map (some b))) (hBl : B < w.heap.size) (h : IMap .i64 w b cn f) (hks : Rising f ks) (hwf : ∀ j, (f j).isSome = true → (Lit.int .i64 j).wf = true) (hn : ks.length ≤ 2048) (n : Nat) :
    CallsIn Fence.wide n Tryz.prog 94 #[.func (.func 117) #[] #[.pointer (some ⟨B, 0, none⟩)]] w fun e w' => ∃ v, e = .returned v ∧ w'.ownsRow w.heap.size 3 1 v ks.length (ks.map encZ) ∧ Below w.heap.size w w' := by
  have hc := h.count hks
  obtain ⟨D, hown, hsz, hss⟩ := h.owns (P := Tryz.prog) (k := 3) Tryz.underlying3 hwf (by unfold maxLen; omega)
  have hseq : SeqGives Fence.wide 6 Tryz.prog 117 #[.pointer (some ⟨B, 0, none⟩)] encZ (fun ss => ss.Perm (intKeys D)) (Maps.size D) w :=
    AnyZI.keys_gives (ρ := Tryz.keysA_ren) { Tryz.keysA with } Fence.wide _ trivial rfl (by omega) B b cn D w hBl hB hown
  have cS := AnyZI.sorted_in Tryz.sortedA Fence.wide 9 trivial trivial trivial trivial rfl (by omega) (sorts _) (enters_of Tryz.func116 (by kernel_rfl) rfl) 117 #[.pointer (some ⟨B, 0, none⟩)] trivial (enters_of Tryz.func117 (by kernel_rfl) rfl) _ _ (by rw [hsz]; unfold maxLen; omega) (by rw [hsz]; omega) _ hseq
  change CallsIn _ _ Tryz.prog 94 _ _ _ at cS
  refine callsIn_wide.2 ((callsIn_wide.1 cS).mono ?_)
  rintro e w' ⟨v, ss, rfl, hS, hrow, _, hb⟩
  obtain ⟨h1, h2, h3⟩ := hss ss hS
  have hsort := hks.sorted h1 h3
  have hl : ss.length = ks.length := by omega
  rw [hsort, hl] at hrow
  exact ⟨v, rfl, hrow, hb⟩

/-- the blocks of a stretch lie as they lay -/
def Same (a b : Nat) (w w' : World) : Prop := ∀ k, a ≤ k → k < b → w'.heap[k]? = w.heap[k]?

theorem Dk.pend_wf {d : Dk} (h : Good d) : ∀ j, (cf d.cache j).isSome = true → (Lit.int .i64 j).wf = true := by
  intro j hj
  rw [cf_some] at hj
  obtain ⟨b, hb⟩ := Option.isSome_iff_exists.1 hj
  have h1 := h.cache j b hb
  have h2 := h.n
  have e1 : IntKind.i64.min = -9223372036854775808 := rfl
  have e2 : IntKind.i64.max = 9223372036854775807 := rfl
  simp only [Lit.wf, Bool.and_eq_true, decide_eq_true_eq]
  omega

set_option maxHeartbeats 1000000 in
theorem each_any (p : Pl) (d : Dk) (w : World) (k : At w p d) (l : Nat) (J : World → List Int → World → Prop)
    (h0 : ∀ Wf, Below w.heap.size w Wf → J Wf [] Wf)
    (hY : ∀ Wf pre x post W1, Below w.heap.size w Wf → d.pend = pre ++ x :: post → J Wf pre W1 → YieldAt Fence.wide 8 Tryz.prog l #[.int .i64 x] W1 fun e W' => e = .returned (.bool true) ∧ J Wf (pre ++ [x]) W' ∧ Same w.heap.size Wf.heap.size W1 W') :
    CallsIn Fence.wide 9 Tryz.prog 70 #[ptr p, .func (.yield l) #[] #[]] w fun e W' => (∃ v, e = .returned v) ∧ ∃ Wf, Below w.heap.size w Wf ∧ J Wf d.pend W' := by
  obtain ⟨cn, hm⟩ := k.map
  have c1 : w.cell? ⟨p.g, 1, none⟩ = some (.map (some p.m)) := k.row.cell 1
  have hG := k.good
  have hlen := Nat.le_trans d.pend_len hG.n
  have cS := sorted_call p.m cn (cf d.cache) d.pend w.heap.size (w.alloc (.cells #[.map (some p.m)] 76)) (by simp) (by simp) (hm.block (heap_alloc_old _ _ k.mlt)) (Dk.rising hG) (Dk.pend_wf hG) hlen 8
  have hfK : Fence.wide.fn 95 := trivial
  have hfS : Fence.wide.fn 94 := trivial
  have hbw := Lib.hid ((Below.refl w.heap.size w).alloc (Nat.le_refl _) (.cells #[.map (some p.m)] 76))
  have h0' := Lib.hid h0
  have hY' := Lib.hid hY
  clear hm hG k h0 hY
  refine callsIn_of_wp Tryz.func70 rfl trivial ?_ rfl
  simp only [Tryz.ntmps70, List.size_toArray, List.length_cons, List.length_nil, Nat.reduceAdd, Nat.reduceSub, Array.replicate_succ, Array.replicate_zero, List.push_toArray, List.append_toArray, List.nil_append, List.cons_append]
  gi_wp2_with (first
    | (gi_at_call 95; refine (keys_call _ _ _).mono ?_; rintro e w' ⟨rfl, rfl⟩)
    | (gi_at_call 94; refine cS.mono ?_; clear cS; rintro e wf ⟨v, rfl, hrow, hb⟩
       have hbf := Lib.hid (hbw.out.trans (hb.mono (by simp)))
       have hrow0 := Lib.hid hrow
       obtain ⟨q, n, c, rfl, hn⟩ : ∃ q n c, v = .slice q n c ∧ n = d.pend.length := by
         rcases hrow.2 with ⟨rfl, e⟩ | ⟨g, cap, cur, rfl, _⟩
         · exact ⟨_, _, _, rfl, e.symm⟩
         · exact ⟨_, _, _, rfl, rfl⟩
       clear hrow hb))
  have hJ0 : Hid (J wf (d.pend.take 0) wf ∧ Same w.heap.size wf.heap.size wf wf) := by
    refine ⟨?_, fun _ _ _ => rfl⟩
    rw [List.take_zero]
    exact h0'.out wf hbf.out
  gi_loopw [13] (fun v13 wr => ∃ i : Nat, i ≤ d.pend.length ∧ v13 = .int .i64 i ∧ Hid (J wf (d.pend.take i) wr ∧ Same w.heap.size wf.heap.size wf wr)) (fun v13 _ => d.pend.length - (RowKit.intOf v13).toNat)
  case atStart => exact ⟨0, by omega, rfl, hJ0⟩
  case round =>
    obtain ⟨i, hi, rfl, hJ⟩ := hrel
    by_cases hlt : i < d.pend.length
    · have hx := List.getElem?_eq_getElem hlt
      obtain ⟨x, hxe⟩ : ∃ x, d.pend[i] = x := ⟨_, rfl⟩
      rw [hxe] at hx
      have hsplit : d.pend = d.pend.take i ++ x :: d.pend.drop (i + 1) := by rw [← hxe, ← List.drop_eq_getElem_cons hlt, List.take_append_drop]
      have htake : d.pend.take (i + 1) = d.pend.take i ++ [x] := by rw [List.take_succ_eq_append_getElem hlt, hxe]
      have hsp := Lib.hid hsplit
      have htk := Lib.hid htake
      have hsame := Lib.hid hJ.out.2
      have hrw := hrow0.out
      rcases hrw with ⟨hl1, ⟨he, h0n⟩ | ⟨g, cap, cur, he, hg, hh, hle, hm, hsz, htk2⟩⟩
      · omega
      · cases he
        have hgl : g < wf.heap.size := (Array.getElem?_eq_some_iff.1 hh).1
        have hgw : wr.heap[g]? = some (.cells cur 3 (0, 0)) := (hsame.out g (by simp at hg; omega) hgl).trans hh
        have cx : wr.cell? ⟨g, i, none⟩ = some (.int .i64 x) := by
          rw [cell_of_row wr g i cur 3 (0, 0) hgw]
          have h3 := congrArg (·[i]?) htk2
          simp only [Nat.mul_one] at h3
          rw [List.getElem?_take_of_lt hlt] at h3
          rw [← Array.getElem?_toList, h3, List.getElem?_map, hx]
          rfl
        obtain ⟨fn, tmps, assign, body, hy, hR⟩ := hY'.out wf (d.pend.take i) x (d.pend.drop (i + 1)) wr hbf.out hsp.out hJ.out.1
        clear hsplit htake hh hgw htk2 hrow0 hsz hle hm hx
        gi_wp2
        refine hR.mono ?_
        rintro e W3 ⟨rfl, hJ3, hk3⟩
        have hJ4 : Hid (J wf (d.pend.take (i + 1)) W3 ∧ Same w.heap.size wf.heap.size wf W3) := by
          refine ⟨by rw [htk.out]; exact hJ3, fun j h1 h2 => (hk3 j h1 h2).trans (hsame.out j h1 h2)⟩
        clear hJ3 hk3
        gi_wp2
        go_roundw
        case rel => exact ⟨i + 1, by omega, by go_num, hJ4⟩
        case measure => simp [RowKit.intOf]; omega
    · obtain rfl : d.pend.length = i := by omega
      gi_wp2
      go_end0
      refine ⟨⟨_, rfl⟩, wf, hbf.out, ?_⟩
      have := hJ.out.1
      rwa [List.take_length] at this

end Go.Proofs.YtjhnagipagkhiaaGreat
