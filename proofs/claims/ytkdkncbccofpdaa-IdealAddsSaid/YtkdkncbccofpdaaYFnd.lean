/- Find of row. -/
import Derived.Test.YtkdkncbccofpdaaYPu
namespace Go.Proofs.Ytkdkncbccofpdaa
open Go.RowKit

def findK (l : List RowD) (k : KeyD) : Option Nat := l.findIdx? fun r => eqK r.key k
theorem findK_some {l : List RowD} {k : KeyD} {i : Nat} {r : RowD} (hi : l[i]? = some r) (hr : eqK r.key k = true) (hlt : ∀ (j : Nat) (x : RowD), j < i → l[j]? = some x → eqK x.key k = false) : findK l k = some i := by
  unfold findK
  have hl := (List.getElem?_eq_some_iff.1 hi).1
  rw [List.findIdx?_eq_some_iff_getElem]
  refine ⟨hl, ?_, fun j hj => ?_⟩
  · rw [(List.getElem?_eq_some_iff.1 hi).2]; exact hr
  · have := hlt j _ hj (List.getElem?_eq_getElem (by omega))
    simp [this]
theorem findK_none {l : List RowD} {k : KeyD} (h : ∀ (j : Nat) (x : RowD), l[j]? = some x → eqK x.key k = false) : findK l k = none := by
  unfold findK
  rw [List.findIdx?_eq_none_iff]
  intro x hx
  obtain ⟨j, hj⟩ := List.mem_iff_getElem?.1 hx
  exact h j x hj
def findN (l : List RowD) (k : KeyD) : Int := match findK l k with | some i => i | none => 0
def findB (l : List RowD) (k : KeyD) : Bool := (findK l k).isSome

def FndRel (W wr : World) (l : List RowD) (k : KeyD) (n : Nat) : Prop := Below W.heap.size W wr ∧ ∀ i r, i < n → l[i]? = some r → eqK r.key k = false

theorem eqK_false {a b c d : Int} (h : ¬ (a = c ∧ b = d)) : eqK ⟨a, b⟩ ⟨c, d⟩ = false := by
  unfold eqK
  rw [Bool.and_eq_false_iff]
  by_cases h1 : a = c
  · right; simp; exact fun h2 => h ⟨h1, h2⟩
  · left; simpa using h1
theorem ret_ib {a b : Int} {x y : Bool} (h : a = b) (h2 : x = y) : Ending.returned (.tuple #[.int .i64 a, .bool x]) = .returned (.tuple #[.int .i64 b, .bool y]) := by rw [h, h2]

set_option maxRecDepth 100000 in
set_option maxHeartbeats 2000000 in
theorem find_any (q : Option Addr) (n c : Nat) (l : List RowD) (t id : Int) (w : World) (hr : RowsOn w q n c l) (hn : n ≤ 4611686018427387904) :
    Calls Try.prog 31 #[.slice q n c, .agg #[.int .i64 t, .int .u16 id]] w (fun e w' => e = .returned (.tuple #[.int .i64 (findN l ⟨t, id⟩), .bool (findB l ⟨t, id⟩)]) ∧ Below w.heap.size w w') := by
  obtain ⟨W, hW⟩ : ∃ W, w.alloc (.cells #[.int .i64 t, .int .u16 id] 28) = W := ⟨_, rfl⟩
  have hbx := Lib.hid (one_box (xs := [.int .i64 t, .int .u16 id]) hW)
  have hs3 := sizeKey t id
  have hrr := Lib.hid (hr.below hbx.out.1 (Nat.le_refl _))
  have hll := Lib.hid hr.len
  clear hr
  have hr0 : Hid (FndRel W W l ⟨t, id⟩ 0) := ⟨Below.refl _ _, fun i r hi => by omega⟩
  go_enter Try.func31, Try.ntmps31
  go_wp2
  clear hW
  go_loopw [10] (fun v10 wr => ∃ k : Nat, k ≤ n ∧ v10 = .int .i64 k ∧ Hid (FndRel W wr l ⟨t, id⟩ k)) (fun v10 _ => n - (intOf v10).toNat)
  case atStart => exact ⟨0, Nat.zero_le _, rfl, hr0⟩
  case round =>
    obtain ⟨k, hk, rfl, hrl⟩ := hrel
    by_cases hlt : k < n
    · obtain ⟨a, ⟨⟨pt, pid⟩, pv, ps⟩, rfl, hx, hok, hc⟩ := (hrr.out.below hrl.out.1 (Nat.le_refl _)).at hlt
      have hcell : Hid (∀ j x, ([.int .i64 pt, .int .u16 pid, .int .i64 pv, .string ps] : List Value)[j]? = some x → wr.cell? ((a.add (k * 4)).add j) = some x) := hc
      have hx' := Lib.hid hx
      have hs2 := sizeRow pt pid pv ps
      have hs4 := sizeKey pt pid
      have hbw := Lib.hid hrl.out.1
      have f1 := Lib.hid (Boxed.made (T := 68) wr [.int .i64 pt, .int .u16 pid, .int .i64 pv, .string ps]).key
      have f2 := Lib.hid ((hbx.out.2.1.below hbw.out (Nat.le_refl _)).below ((Below.refl _ _).alloc (Nat.le_refl _) (.cells #[.int .i64 pt, .int .u16 pid, .int .i64 pv, .string ps] 68)) (Nat.le_refl _))
      have hb3 := Lib.hid (hbw.out.alloc hbw.out.size (.cells #[.int .i64 pt, .int .u16 pid, .int .i64 pv, .string ps] 68))
      clear hx hok hc
      by_cases he : pt = t ∧ pid = id
      · obtain ⟨rfl, rfl⟩ := he
        have hfk := Lib.hid (findK_some hx'.out (by simp [eqK]) (fun j x hj hxj => hrl.out.2 j x hj hxj))
        go_wp2_with (first
          | (with_reducible refine wpList_load_at rfl 68 (.tmp 13) rfl Try.underlying68 rfl hs2 rfl hcell.out ?_)
          | (with_reducible refine wpList_load_at rfl 28 (.tmp 15) rfl Try.underlying28 rfl hs4 rfl f1.out ?_)
          | (with_reducible refine wpList_load_at rfl 28 (.tmp 3) rfl Try.underlying28 rfl hs3 rfl f2.out.all ?_))
        go_ret2
        exact ⟨ret_ib (by unfold findN; rw [hfk.out]) (by unfold findB; rw [hfk.out]; rfl), hbx.out.1.trans (hb3.out.mono hbx.out.1.size)⟩
      · have hef := Lib.hid (eqK_false he)
        have hn1 : (pt == t && pid == id) = false := hef.out
        have hn2 : pt = t → (pid == id) = false := fun h => by simpa using fun h2 => he ⟨h, h2⟩
        by_cases h1 : pt = t
        · have h2 := hn2 h1
          subst h1
          have h3 : ¬ pid = id := by simpa using h2
          clear hn1 hn2 he
          go_wp2_with (first
            | (with_reducible refine wpList_load_at rfl 68 (.tmp 13) rfl Try.underlying68 rfl hs2 rfl hcell.out ?_)
            | (with_reducible refine wpList_load_at rfl 28 (.tmp 15) rfl Try.underlying28 rfl hs4 rfl f1.out ?_)
            | (with_reducible refine wpList_load_at rfl 28 (.tmp 3) rfl Try.underlying28 rfl hs3 rfl f2.out.all ?_))
          go_roundw
          case rel =>
            refine ⟨k + 1, by omega, by go_num, hb3.out, fun i r hi hr => ?_⟩
            rcases Nat.lt_or_ge i k with h | h
            · exact hrl.out.2 i r h hr
            · obtain rfl : i = k := by omega
              rw [hx'.out] at hr; cases hr; exact hef.out
          case measure => simp [intOf]; omega
        · have h2 : (pt == t) = false := by simpa using h1
          clear hn1 hn2 he
          go_wp2_with (first
            | (with_reducible refine wpList_load_at rfl 68 (.tmp 13) rfl Try.underlying68 rfl hs2 rfl hcell.out ?_)
            | (with_reducible refine wpList_load_at rfl 28 (.tmp 15) rfl Try.underlying28 rfl hs4 rfl f1.out ?_)
            | (with_reducible refine wpList_load_at rfl 28 (.tmp 3) rfl Try.underlying28 rfl hs3 rfl f2.out.all ?_))
          go_roundw
          case rel =>
            refine ⟨k + 1, by omega, by go_num, hb3.out, fun i r hi hr => ?_⟩
            rcases Nat.lt_or_ge i k with h | h
            · exact hrl.out.2 i r h hr
            · obtain rfl : i = k := by omega
              rw [hx'.out] at hr; cases hr; exact hef.out
          case measure => simp [intOf]; omega
    · obtain rfl : n = k := by omega
      have hfk := Lib.hid (findK_none (l := l) (k := ⟨t, id⟩) fun j x hj => hrl.out.2 j x (by have := (List.getElem?_eq_some_iff.1 hj).1; rw [hll.out] at this; exact this) hj)
      go_wp2
      go_ret2
      exact ⟨ret_ib (by unfold findN; rw [hfk.out]) (by unfold findB; rw [hfk.out]; rfl), hbx.out.1.trans (hrl.out.1.mono hbx.out.1.size)⟩
end Go.Proofs.Ytkdkncbccofpdaa
