/- The bytes of keys, rows and kids; which rows may be laid. -/
import Derived.Test.YtaiepdhmlmnggaaKBase
import Derived.Lib.AppendStr
namespace Go.Proofs.Ytaiepdhmlmnggaa
open Go.RowKit

theorem add_zero (a : Addr) : a.add 0 = a := by cases a; unfold Addr.add; split <;> simp_all
theorem Boxed.key {w : World} {g : Nat} {a b c d : Value} (h : Boxed w g [a, b, c, d]) : ∀ j x, ([a, b] : List Value)[j]? = some x → w.cell? ((⟨g, 0, none⟩ : Addr).add j) = some x := fun j x hj => h j x (by
  match j, hj with
  | 0, hj => exact hj
  | 1, hj => exact hj
  | j + 2, hj => simp at hj)

def tabB (t : Int) : Bool := decide (0 ≤ t) && decide (t < 3)
def chkRowC (r : RowD) : Int := if tabB r.key.t = true ∧ r.note.size ≤ 8 then 0 else 151

set_option maxRecDepth 100000 in
set_option maxHeartbeats 1000000 in
theorem tabled_any (t id : Int) (w : World) : Calls Try.prog 71 #[.agg #[.int .i64 t, .int .u16 id]] w (fun e w' => e = .returned (.bool (tabB t)) ∧ Below w.heap.size w w') := by
  have hb : Hid (Below w.heap.size w (w.alloc (.cells #[.int .i64 t, .int .u16 id] 28))) := (Below.refl _ _).alloc (Nat.le_refl _) _
  by_cases h0 : 0 ≤ t
  · by_cases h3 : t < 3
    · rw [show tabB t = true by unfold tabB; simp [h0, h3]]
      go_enter Try.func71, Try.ntmps71
      go_wp2
      go_ret
      exact ⟨rfl, hb.out⟩
    · rw [show tabB t = false by unfold tabB; simp [h3]]
      go_enter Try.func71, Try.ntmps71
      go_wp2
      go_ret
      exact ⟨rfl, hb.out⟩
  · rw [show tabB t = false by unfold tabB; simp [h0]]
    go_enter Try.func71, Try.ntmps71
    go_wp2
    go_ret
    exact ⟨rfl, hb.out⟩

set_option maxRecDepth 100000 in
set_option maxHeartbeats 1000000 in
theorem checkRow_any (t id v : Int) (s : ByteArray) (w : World) (hs : s.size ≤ maxLen) : Calls Try.prog 47 #[.agg #[.int .i64 t, .int .u16 id, .int .i64 v, .string s]] w (fun e w' => e = .returned (.int .i64 (chkRowC ⟨⟨t, id⟩, v, s⟩)) ∧ Below w.heap.size w w') := by
  unfold maxLen at hs
  obtain ⟨W, hW⟩ : ∃ W, w.alloc (.cells #[.int .i64 t, .int .u16 id, .int .i64 v, .string s] 30) = W := ⟨_, rfl⟩
  have hbx := Lib.hid (one_box (xs := [.int .i64 t, .int .u16 id, .int .i64 v, .string s]) hW)
  have hs3 := sizeKey t id
  have k1 := Lib.hid hbx.out.2.1.key
  obtain ⟨b, hb⟩ : ∃ b, tabB t = b := ⟨_, rfl⟩
  have ht := Lib.hid (tabled_any t id W)
  rw [hb] at ht
  have hb' := Lib.hid hb
  clear hb
  cases b with
  | true =>
    by_cases h8 : s.size ≤ 8
    · rw [show chkRowC ⟨⟨t, id⟩, v, s⟩ = 0 from if_pos ⟨hb'.out, h8⟩]
      have h8' : ¬ 8 < s.size := by omega
      go_enter Try.func47, Try.ntmps47
      go_wp2_with (first
        | (with_reducible refine wpList_load_at rfl 28 (.tmp 3) rfl Try.underlying28 rfl hs3 rfl k1.out ?_)
        | (go_at_call 71; refine ht.out.mono ?_; rintro e w1 ⟨rfl, hb1⟩; have hd := Lib.hid (hbx.out.1.trans (hb1.mono hbx.out.1.size)); have c3 := (hbx.out.2.1.below hb1 (Nat.le_refl _)).cell 3 rfl; clear hb1))
      go_ret
      exact ⟨rfl, hd.out⟩
    · rw [show chkRowC ⟨⟨t, id⟩, v, s⟩ = 151 from if_neg (fun h => h8 h.2)]
      have h8' : 8 < s.size := by omega
      go_enter Try.func47, Try.ntmps47
      go_wp2_with (first
        | (with_reducible refine wpList_load_at rfl 28 (.tmp 3) rfl Try.underlying28 rfl hs3 rfl k1.out ?_)
        | (go_at_call 71; refine ht.out.mono ?_; rintro e w1 ⟨rfl, hb1⟩; have hd := Lib.hid (hbx.out.1.trans (hb1.mono hbx.out.1.size)); have c3 := (hbx.out.2.1.below hb1 (Nat.le_refl _)).cell 3 rfl; clear hb1))
      go_ret
      exact ⟨rfl, hd.out⟩
  | false =>
    rw [show chkRowC ⟨⟨t, id⟩, v, s⟩ = 151 from if_neg (fun h => by have := h.1; rw [show tabB (⟨⟨t, id⟩, v, s⟩ : RowD).key.t = false from hb'.out] at this; cases this)]
    go_enter Try.func47, Try.ntmps47
    go_wp2_with (first
      | (with_reducible refine wpList_load_at rfl 28 (.tmp 3) rfl Try.underlying28 rfl hs3 rfl k1.out ?_)
      | (go_at_call 71; refine ht.out.mono ?_; rintro e w1 ⟨rfl, hb1⟩; have hd := Lib.hid (hbx.out.1.trans (hb1.mono hbx.out.1.size)); clear hb1))
    go_ret
    exact ⟨rfl, hd.out⟩

/-! bytes -/
end Go.Proofs.Ytaiepdhmlmnggaa
