/- The document's Find and Of. -/
import Derived.Test.YtaiepdhmlmnggaaYFnd
import Derived.Test.YtaiepdhmlmnggaaYRef
import Derived.Test.YtaiepdhmlmnggaaYOvr
namespace Go.Proofs.Ytaiepdhmlmnggaa
open Go.RowKit

def findAt (l : List RowD) (k : KeyD) : Int := match findK l k with | some i => i | none => -1
theorem findAt_or (l : List RowD) (k : KeyD) : (0 ≤ findAt l k ∧ findB l k = true ∧ findN l k = findAt l k) ∨ (findAt l k = -1 ∧ findB l k = false ∧ findN l k = 0) := by
  unfold findAt findB findN
  cases findK l k with
  | none => right; exact ⟨rfl, rfl, rfl⟩
  | some i => left; exact ⟨Int.natCast_nonneg i, rfl, rfl⟩

set_option maxRecDepth 100000 in
set_option maxHeartbeats 2000000 in
theorem refFind_any (q : Option Addr) (n c : Nat) (l : List RowD) (t id : Int) (w : World) (hr : RowsOn w q n c l) (hn : n ≤ 4611686018427387904) :
    Calls Try.prog 23 #[.slice q n c, .agg #[.int .i64 t, .int .u16 id]] w (fun e w' => e = .returned (.int .i64 (findAt l ⟨t, id⟩)) ∧ Below w.heap.size w w') := by
  obtain ⟨W, hW⟩ : ∃ W, w.alloc (.cells #[.int .i64 t, .int .u16 id] 28) = W := ⟨_, rfl⟩
  have hbx := Lib.hid (one_box (xs := [.int .i64 t, .int .u16 id]) hW)
  have hrr := Lib.hid (hr.below hbx.out.1 (Nat.le_refl _))
  have hll := Lib.hid hr.len
  have hm := Nat.le_trans hr.le hr.cap
  unfold maxLen at hm
  clear hr
  have hr0 : Hid (FndRel W W l ⟨t, id⟩ 0) := ⟨Below.refl _ _, fun i r hi => by omega⟩
  go_enter Try.func23, Try.ntmps23
  go_wp2
  clear hW
  go_loopw [5] (fun v5 wr => ∃ k : Nat, k ≤ n ∧ v5 = .int .i64 k ∧ Hid (FndRel W wr l ⟨t, id⟩ k)) (fun v5 _ => n - (intOf v5).toNat)
  case atStart => exact ⟨0, Nat.zero_le _, rfl, hr0⟩
  case round =>
    obtain ⟨k, hk, rfl, hrl⟩ := hrel
    by_cases hlt : k < n
    · obtain ⟨a, ⟨⟨pt, pid⟩, pv, ps⟩, rfl, hx, hok, hc⟩ := (hrr.out.below hrl.out.1 (Nat.le_refl _)).at hlt
      have c0 : wr.cell? (a.add (k * 4)) = some (.int .i64 pt) := by have h := hc 0 _ rfl; rwa [add0] at h
      have c1 : wr.cell? ⟨(a.add (k * 4)).block, (a.add (k * 4)).off + 1, none⟩ = some (.int .u16 pid) := hc 1 _ rfl
      have b0 := (hbx.out.2.1.below hrl.out.1 (Nat.le_refl _)).cell 0 rfl
      have b1 := (hbx.out.2.1.below hrl.out.1 (Nat.le_refl _)).cell 1 rfl
      have hx' := Lib.hid hx
      have i0 : (0 : Int) ≤ k := by omega
      have i1 : (k : Int) < n := by omega
      have heq := fun u => eq_keyY u pt pid t id
      obtain ⟨E, hE⟩ : ∃ E, eqK ⟨pt, pid⟩ ⟨t, id⟩ = E := ⟨_, rfl⟩
      rw [hE] at heq
      have hE' := Lib.hid hE
      clear hE hx hok hc
      cases E with
      | true =>
        have hfk := Lib.hid (findK_some hx'.out hE'.out (fun j x hj hxj => hrl.out.2 j x hj hxj))
        go_wp2
        go_quiet (fail)
        clear c0 c1 b0 b1
        go_wp2
        go_ret
        exact ⟨ret_i (by unfold findAt; rw [hfk.out]), hbx.out.1.trans ((hrl.out.1.trans ((below_drewN _ _).mono hrl.out.1.size)).mono hbx.out.1.size)⟩
      | false =>
        go_wp2
        go_quiet (fail)
        clear c0 c1 b0 b1
        go_wp2
        go_roundw
        case rel =>
          refine ⟨k + 1, by omega, by go_num, hrl.out.1.trans ((below_drewN _ _).mono hrl.out.1.size), fun i r hi hr => ?_⟩
          rcases Nat.lt_or_ge i k with h | h
          · exact hrl.out.2 i r h hr
          · obtain rfl : i = k := by omega
            rw [hx'.out] at hr; cases hr; exact hE'.out
        case measure => simp [intOf]; omega
    · obtain rfl : n = k := by omega
      have hfk := Lib.hid (findK_none (l := l) (k := ⟨t, id⟩) fun j x hj => hrl.out.2 j x (by have := (List.getElem?_eq_some_iff.1 hj).1; rw [hll.out] at this; exact this) hj)
      go_wp2
      go_ret
      exact ⟨ret_i (by unfold findAt; rw [hfk.out]), hbx.out.1.trans (hrl.out.1.mono hbx.out.1.size)⟩

end Go.Proofs.Ytaiepdhmlmnggaa
