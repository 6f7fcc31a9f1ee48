/- The document's own functions on keys and rows: table, order, RightRow, key. -/
import Derived.Test.YtaiepdhmlmnggaaKSame
namespace Go.Proofs.Ytaiepdhmlmnggaa
open Go.RowKit

theorem table_any (n : Int) (w : World) : Calls Try.prog 50 #[.int .i64 n] w (fun e w' => e = .returned (.bool (tabB n)) ∧ w = w') := by
  by_cases h0 : 0 ≤ n
  · have d0 : decide (0 ≤ n) = true := decide_eq_true h0
    by_cases h3 : n < 3
    · have d1 : decide (n < 3) = true := decide_eq_true h3
      have e : tabB n = true := by unfold tabB; rw [d0, d1]; rfl
      rw [e]
      clear e h0 h3
      go_enter Try.func50, Try.ntmps50
      go_wp2
      go_ret
      exact ⟨rfl, rfl⟩
    · have d1 : decide (n < 3) = false := decide_eq_false h3
      have e : tabB n = false := by unfold tabB; rw [d0, d1]; rfl
      rw [e]
      clear e h0 h3
      go_enter Try.func50, Try.ntmps50
      go_wp2
      go_ret
      exact ⟨rfl, rfl⟩
  · have d0 : decide (0 ≤ n) = false := decide_eq_false h0
    have e : tabB n = false := by unfold tabB; rw [d0]; rfl
    rw [e]
    clear e h0
    go_enter Try.func50, Try.ntmps50
    go_wp2
    go_ret
    exact ⟨rfl, rfl⟩

def ordK (k : KeyD) : Int := k.t * 65536 + k.id
theorem order_any (t id : Int) (w : World) (h0 : 0 ≤ t) (h3 : t < 3) (i0 : 0 ≤ id) (i1 : id < 65536) :
    Calls Try.prog 66 #[.agg #[.int .i64 t, .int .u16 id]] w (fun e w' => e = .returned (.int .i64 (ordK ⟨t, id⟩)) ∧ Below w.heap.size w w') := by
  obtain ⟨W, hW⟩ : ∃ W, w.alloc (.cells #[.int .i64 t, .int .u16 id] 28) = W := ⟨_, rfl⟩
  have hbx := Lib.hid (one_box (xs := [.int .i64 t, .int .u16 id]) hW)
  have c0 := hbx.out.2.1.cell 0 rfl
  have c1 := hbx.out.2.1.cell 1 rfl
  go_enter Try.func66, Try.ntmps66
  go_wp2
  clear hW
  go_ret
  exact ⟨rfl, hbx.out.1⟩

def okRow (r : RowD) : Bool := tabB r.key.t && decide (r.note.size ≤ 8)
theorem okRow_iff {r : RowD} : okRow r = true ↔ chkRowC r = 0 := by
  unfold okRow chkRowC
  rw [Bool.and_eq_true, decide_eq_true_eq]
  constructor
  · intro h; rw [if_pos h]
  · intro h
    by_cases hh : tabB r.key.t = true ∧ r.note.size ≤ 8
    · exact hh
    · rw [if_neg hh] at h; cases h

theorem rightRow_any (t id v : Int) (s : ByteArray) (w : World) :
    Calls Try.prog 20 #[.agg #[.int .i64 t, .int .u16 id, .int .i64 v, .string s]] w (fun e w' => e = .returned (.bool (okRow ⟨⟨t, id⟩, v, s⟩)) ∧ Below w.heap.size w w') := by
  obtain ⟨W, hW⟩ : ∃ W, w.alloc (.cells #[.int .i64 t, .int .u16 id, .int .i64 v, .string s] 30) = W := ⟨_, rfl⟩
  have hbx := Lib.hid (one_box (xs := [.int .i64 t, .int .u16 id, .int .i64 v, .string s]) hW)
  have c0 := hbx.out.2.1.cell 0 rfl
  have c2 := hbx.out.2.1.cell 3 rfl
  have htb := Lib.hid (fun u => table_any t u)
  obtain ⟨b, hb⟩ : ∃ b, tabB t = b := ⟨_, rfl⟩
  rw [hb] at htb
  have e : okRow ⟨⟨t, id⟩, v, s⟩ = (b && decide (s.size ≤ 8)) := by unfold okRow; rw [hb]
  rw [e]
  clear e hb
  cases b with
  | true =>
    by_cases h8 : s.size ≤ 8
    · have d : decide (s.size ≤ 8) = true := decide_eq_true h8
      have d2 : decide ((s.size : Int) ≤ 8) = true := decide_eq_true (by omega)
      rw [d]
      go_enter Try.func20, Try.ntmps20
      go_wp2_with fail
      clear hW
      refine (htb.out _).mono ?_
      rintro e w1 ⟨rfl, rfl⟩
      go_wp2
      go_ret
      exact ⟨rfl, hbx.out.1⟩
    · have d : decide (s.size ≤ 8) = false := decide_eq_false h8
      have d2 : decide ((s.size : Int) ≤ 8) = false := decide_eq_false (by omega)
      rw [d]
      go_enter Try.func20, Try.ntmps20
      go_wp2_with fail
      clear hW
      refine (htb.out _).mono ?_
      rintro e w1 ⟨rfl, rfl⟩
      go_wp2
      go_ret
      exact ⟨rfl, hbx.out.1⟩
  | false =>
    go_enter Try.func20, Try.ntmps20
    go_wp2_with fail
    clear hW
    refine (htb.out _).mono ?_
    rintro e w1 ⟨rfl, rfl⟩
    go_wp2
    go_ret
    exact ⟨rfl, hbx.out.1⟩

end Go.Proofs.Ytaiepdhmlmnggaa
