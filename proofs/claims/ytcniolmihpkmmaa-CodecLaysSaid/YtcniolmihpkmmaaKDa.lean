/- The document's own functions on keys and rows: table, order, RightRow, key. -/
import Derived.Test.YtcniolmihpkmmaaKSame
namespace Go.Proofs.Ytcniolmihpkmmaa
open Go.RowKit

theorem table_any (n : Int) (w : World) : Calls Try.prog 33 #[.int .i64 n] w (fun e w' => e = .returned (.bool (tabB n)) ∧ w = w') := by
  by_cases h0 : 0 ≤ n
  · have d0 : decide (0 ≤ n) = true := decide_eq_true h0
    by_cases h3 : n < 3
    · have d1 : decide (n < 3) = true := decide_eq_true h3
      have e : tabB n = true := by unfold tabB; rw [d0, d1]; rfl
      rw [e]
      clear e h0 h3
      go_enter Try.func33, Try.ntmps33
      go_wp2
      go_ret
      exact ⟨rfl, rfl⟩
    · have d1 : decide (n < 3) = false := decide_eq_false h3
      have e : tabB n = false := by unfold tabB; rw [d0, d1]; rfl
      rw [e]
      clear e h0 h3
      go_enter Try.func33, Try.ntmps33
      go_wp2
      go_ret
      exact ⟨rfl, rfl⟩
  · have d0 : decide (0 ≤ n) = false := decide_eq_false h0
    have e : tabB n = false := by unfold tabB; rw [d0]; rfl
    rw [e]
    clear e h0
    go_enter Try.func33, Try.ntmps33
    go_wp2
    go_ret
    exact ⟨rfl, rfl⟩

def ordK (k : KeyD) : Int := k.t * 65536 + k.id
theorem order_any (t id : Int) (w : World) (h0 : 0 ≤ t) (h3 : t < 3) (i0 : 0 ≤ id) (i1 : id < 65536) :
    Calls Try.prog 39 #[.agg #[.int .i64 t, .int .u16 id]] w (fun e w' => e = .returned (.int .i64 (ordK ⟨t, id⟩)) ∧ Below w.heap.size w w') := by
  obtain ⟨W, hW⟩ : ∃ W, w.alloc (.cells #[.int .i64 t, .int .u16 id] 40) = W := ⟨_, rfl⟩
  have hbx := Lib.hid (one_box (xs := [.int .i64 t, .int .u16 id]) hW)
  have c0 := hbx.out.2.1.cell 0 rfl
  have c1 := hbx.out.2.1.cell 1 rfl
  go_enter Try.func39, Try.ntmps39
  go_wp2
  clear hW
  go_ret
  exact ⟨rfl, hbx.out.1⟩

def okRow (r : RowD) : Bool := tabB r.key.t && decide (r.note.size ≤ 8)
theorem okRow_iff {r : RowD} : okRow r = true ↔ chkRowC r = 0 := by
  unfold okRow chkRowC
  rw [Bool.and_eq_true, decide_eq_true_eq]
  constructor
  · intro h; rw [if_pos h]
  · intro h
    by_cases hh : tabB r.key.t = true ∧ r.note.size ≤ 8
    · exact hh
    · rw [if_neg hh] at h; cases h

theorem rightRow_any (t id v : Int) (s : ByteArray) (w : World) :
    Calls Try.prog 17 #[.agg #[.int .i64 t, .int .u16 id, .int .i64 v, .string s]] w (fun e w' => e = .returned (.bool (okRow ⟨⟨t, id⟩, v, s⟩)) ∧ Below w.heap.size w w') := by
  obtain ⟨W, hW⟩ : ∃ W, w.alloc (.cells #[.int .i64 t, .int .u16 id, .int .i64 v, .string s] 42) = W := ⟨_, rfl⟩
  have hbx := Lib.hid (one_box (xs := [.int .i64 t, .int .u16 id, .int .i64 v, .string s]) hW)
  have c0 := hbx.out.2.1.cell 0 rfl
  have c2 := hbx.out.2.1.cell 3 rfl
  have htb := Lib.hid (fun u => table_any t u)
  obtain ⟨b, hb⟩ : ∃ b, tabB t = b := ⟨_, rfl⟩
  rw [hb] at htb
  have e : okRow ⟨⟨t, id⟩, v, s⟩ = (b && decide (s.size ≤ 8)) := by unfold okRow; rw [hb]
  rw [e]
  clear e hb
  cases b with
  | true =>
    by_cases h8 : s.size ≤ 8
    · have d : decide (s.size ≤ 8) = true := decide_eq_true h8
      have d2 : decide ((s.size : Int) ≤ 8) = true := decide_eq_true (by omega)
      rw [d]
      go_enter Try.func17, Try.ntmps17
      go_wp2_with fail
      clear hW
      refine (htb.out _).mono ?_
      rintro e w1 ⟨rfl, rfl⟩
      go_wp2
      go_ret
      exact ⟨rfl, hbx.out.1⟩
    · have d : decide (s.size ≤ 8) = false := decide_eq_false h8
      have d2 : decide ((s.size : Int) ≤ 8) = false := decide_eq_false (by omega)
      rw [d]
      go_enter Try.func17, Try.ntmps17
      go_wp2_with fail
      clear hW
      refine (htb.out _).mono ?_
      rintro e w1 ⟨rfl, rfl⟩
      go_wp2
      go_ret
      exact ⟨rfl, hbx.out.1⟩
  | false =>
    go_enter Try.func17, Try.ntmps17
    go_wp2_with fail
    clear hW
    refine (htb.out _).mono ?_
    rintro e w1 ⟨rfl, rfl⟩
    go_wp2
    go_ret
    exact ⟨rfl, hbx.out.1⟩

theorem key_vals {t id : Int} (h0 : 0 ≤ t) (h3 : t < 256) (i0 : 0 ≤ id) (i1 : id < 65536) : #[Value.int .u8 t, .int .u8 (id / 256), .int .u8 (id % 256)] = (vals (encKey ⟨t, id⟩)).toArray := by
  have e1 := ofNat_int h0 h3
  have e2 : ((UInt8.ofNat (id.toNat / 256)).toNat : Int) = id / 256 := by simp; omega
  have e3 : ((UInt8.ofNat id.toNat).toNat : Int) = id % 256 := by simp; omega
  show _ = (vals [UInt8.ofNat t.toNat, UInt8.ofNat (id.toNat / 256), UInt8.ofNat id.toNat]).toArray
  unfold vals
  simp only [List.map_cons, List.map_nil, e1, e2, e3]
theorem row_built (w : World) (l : List UInt8) (cs : Array Value) (h : cs = (vals l).toArray) : Row 5 (w.alloc (.cells cs 5)) w.heap.size l := by
  subst h
  exact heap_alloc_new _ _

theorem key_doc (t id : Int) (w : World) (h0 : 0 ≤ t) (h3 : t < 3) (i0 : 0 ≤ id) (i1 : id < 65536) :
    Calls Try.prog 32 #[.agg #[.int .i64 t, .int .u16 id]] w (BytesPost w 3 (encKey ⟨t, id⟩)) := by
  obtain ⟨W, hW⟩ : ∃ W, w.alloc (.cells #[.int .i64 t, .int .u16 id] 40) = W := ⟨_, rfl⟩
  have hbx := Lib.hid (one_box (xs := [.int .i64 t, .int .u16 id]) hW)
  have c0 := hbx.out.2.1.cell 0 rfl
  have c1 := hbx.out.2.1.cell 1 rfl
  go_enter Try.func32, Try.ntmps32
  go_wp2
  clear hW
  go_ret
  have hr := row_built W (encKey ⟨t, id⟩) #[.int .u8 t, .int .u8 (id / 256), .int .u8 (id % 256)] (key_vals h0 (by omega) i0 i1)
  refine ⟨some ⟨W.heap.size, 0, none⟩, 3, rfl, ?_, hbx.out.1.alloc hbx.out.1.size _⟩
  have h := Row.own (B := w.heap.size) hr hbx.out.1.size (by rw [encKey_len]; unfold maxLen; decide)
  rw [encKey_len] at h
  exact h

theorem made_byte {w : World} {x : Nat} {z : Int} (hz : z = ((x % 256 : Nat) : Int)) : Row 5 (w.alloc (.cells #[.int .u8 z] 5)) w.heap.size [UInt8.ofNat x] := by
  refine row_built w _ _ ?_
  subst hz
  unfold vals
  simp

theorem run_append_oper2 {P : Program} {o : Oper} {a : Act} {w w' : World} {sl x : Operand} {t u : TypeId} {v1 v2 v : Value} (ho : o.op = .call { callee := .builtin .append, args := #[sl, x], argTypes := #[t, u] }) (hs : a.eval sl = v1) (hx : a.eval x = v2)
    (h : (Builtin.append_ #[t, u] o.type #[v1, v2]).run P w = .ok v w') : (execOp a.eval o).run P w = .ok (.value v) w' := by
  unfold execOp
  simp only [ho, resolve, invoke, builtin, Sem.run_bind, Sem.run_pure, Result.andThen_ok, List.map_toArray, List.map_cons, List.map_nil, hs, hx, h]

def RowRel (W wr : World) (k : KeyD) (u j : Nat) (q : Option Addr) (c : Nat) : Prop := Below W.heap.size W wr ∧ Own wr W.heap.size (.slice q (3 + j) c) (encKey k ++ be j (u / 256 ^ (8 - j)))
theorem RowRel.next {W wr w1 w2 : World} {k : KeyD} {u j : Nat} {q q' : Option Addr} {c c' x : Nat} (h : RowRel W wr k u j q c) (hj : j < 8) (hx : x = u / 256 ^ (7 - j)) (hb : Below wr.heap.size wr w1)
    (ho : Own w2 W.heap.size (.slice q' (3 + j + 1) c') ((encKey k ++ be j (u / 256 ^ (8 - j))) ++ [UInt8.ofNat x])) (hg : w1.grownBy w2 (blockOf q)) : RowRel W w2 k u (j + 1) q' c' := by
  subst hx
  refine ⟨(h.2.below hb).up hg (below_step hb h.1) (Nat.le_refl _), ?_⟩
  have e : u / 256 ^ (8 - j) = u / 256 ^ (7 - j) / 256 := by
    rw [Nat.div_div_eq_div_mul, show 8 - j = (7 - j) + 1 by omega, Nat.pow_succ]
  rw [e, List.append_assoc] at ho
  rw [show 8 - (j + 1) = 7 - j by omega]
  exact ho
theorem eight {j : Nat} (h : j < 8) : j = 0 ∨ j = 1 ∨ j = 2 ∨ j = 3 ∨ j = 4 ∨ j = 5 ∨ j = 6 ∨ j = 7 := by omega

set_option maxRecDepth 100000 in
set_option maxHeartbeats 4000000 in
theorem row_doc (t id v : Int) (s : ByteArray) (w : World) (h0 : 0 ≤ t) (h3 : t < 3) (i0 : 0 ≤ id) (i1 : id < 65536) (h8 : s.size ≤ 8) :
    Calls Try.prog 20 #[.agg #[.int .i64 t, .int .u16 id, .int .i64 v, .string s]] w (BytesPost w (12 + s.size) (encRow ⟨⟨t, id⟩, v, s⟩)) := by
  obtain ⟨W, hW⟩ : ∃ W, w.alloc (.cells #[.int .i64 t, .int .u16 id, .int .i64 v, .string s] 42) = W := ⟨_, rfl⟩
  have hbx := Lib.hid (one_box (xs := [.int .i64 t, .int .u16 id, .int .i64 v, .string s]) hW)
  have hs3 := sizeKey t id
  have k0 : Hid (∀ j x, ([.int .i64 t, .int .u16 id] : List Value)[j]? = some x → W.cell? ((⟨w.heap.size, 0, none⟩ : Addr).add j) = some x) := fun j x hj => hbx.out.2.1 j x (by
    match j, hj with
    | 0, hj => exact hj
    | 1, hj => exact hj
    | j + 2, hj => simp at hj)
  have hkd := Lib.hid (fun u => key_doc t id u h0 h3 i0 i1)
  have hu := u64_wrap v
  go_enter Try.func20, Try.ntmps20
  go_wp2_with (first
    | (with_reducible refine wpList_load_at rfl 40 (.tmp 5) rfl Try.underlying40 rfl hs3 rfl k0.out ?_))
  clear hW
  refine (hkd.out _).mono ?_
  rintro e w1 ⟨q1, c1, rfl, ho1, hb1⟩
  have hr0 : Hid (RowRel W w1 ⟨t, id⟩ (u64 v) 0 q1 c1) := ⟨hb1, by
    rw [show be 0 (u64 v / 256 ^ (8 - 0)) = [] from rfl, List.append_nil]; exact ho1⟩
  clear ho1 hb1 hkd
  go_wp2
  go_loopw [3, 4] (fun v3 v4 wr => ∃ (m : Nat) (i : Int) (q : Option Addr) (c : Nat), m ≤ 8 ∧ i = m - 1 ∧ v4 = .int .i64 i ∧ v3 = .slice q (3 + (8 - m)) c ∧ Hid (RowRel W wr ⟨t, id⟩ (u64 v) (8 - m) q c)) (fun _ v4 _ => (RowKit.intOf v4 + 1).toNat)
  case atStart => exact ⟨8, 7, q1, c1, Nat.le_refl _, rfl, rfl, rfl, hr0⟩
  case round =>
    obtain ⟨m, i, q, c, hm, hi, rfl, rfl, hr⟩ := hrel
    have cv := (hbx.out.2.1.below hr.out.1 (Nat.le_refl _)).cell 2 rfl
    cases m with
    | succ m =>
      obtain rfl : i = (m : Int) := by omega
      clear hi
      have hm8 : (m : Int) < 8 := by omega
      have hby : Hid (Row 5 (wr.alloc (.cells #[.int .u8 ((u64 v : Int) / 2 ^ (8 * m) % 256)] 5)) wr.heap.size [UInt8.ofNat (u64 v / 256 ^ m)]) := by
        rw [digit]
        exact made1 wr _
      obtain ⟨W2, hW2⟩ : ∃ W2, wr.alloc (.cells #[.int .u8 ((u64 v : Int) / 2 ^ (8 * m) % 256)] 5) = W2 := ⟨_, rfl⟩
      have hby2 : Hid (Row 5 W2 wr.heap.size [UInt8.ofNat (u64 v / 256 ^ m)]) := by rw [← hW2]; exact hby.out
      have hb2 : Hid (Below wr.heap.size wr W2) := by rw [← hW2]; exact (Below.refl _ _).alloc (Nat.le_refl _) _
      have hown := Lib.hid (hr.out.2.below hb2.out)
      have hsz := Lib.hid (Nat.le_trans hr.out.1.size hb2.out.size)
      have hbig : Hid (3 + (8 - (m + 1)) + 1 ≤ 1099511627776) := by show _ ≤ _; omega
      clear hby
      have hms : Hid (8 - (m + 1) < 8 ∧ m = 7 - (8 - (m + 1)) ∧ 3 + (8 - (m + 1)) + 1 = 3 + (8 - m) ∧ 8 - (m + 1) + 1 = 8 - m) := ⟨by omega, by omega, by omega, by omega⟩
      go_wp2_with (first
        | (at_builtin
           refine wpList_append_bytes rfl (.tmp 12) (.tmp 20) rfl rfl rfl hown.out (hby2.out.holds 1) hbig.out hsz.out ?_
           intro q3 c3 w3 h3 hg3
           have hnx := hr.out.next (x := u64 v / 256 ^ m) hms.out.1 (congrArg (fun z => u64 v / 256 ^ z) hms.out.2.1) hb2.out h3 hg3
           rw [hms.out.2.2.2] at hnx
           have hnx' := Lib.hid hnx
           clear h3 hg3 hnx))
      go_roundw
      case rel => exact ⟨m, (m : Int) - 1, q3, c3, by omega, rfl, rfl, by congr 1; omega, hnx'⟩
      case measure => simp [RowKit.intOf]
    | zero =>
      obtain rfl : i = -1 := by omega
      clear hi hm cv
      have hro := hr.out.2
      have hrb := Lib.hid hr.out.1
      rw [show u64 v / 256 ^ (8 - (8 - 0)) = u64 v by simp] at hro
      have hro' := Lib.hid hro
      have hcs := (hbx.out.2.1.below hr.out.1 (Nat.le_refl _)).cell 3 rfl
      have h8' : (s.size : Int) < 256 := by omega
      have hwp : IntKind.u8.wrap (s.size : Int) = s.size := by show (s.size : Int) % 256 = s.size; omega
      clear hr hro hu
      go_wp2
      refine wp_region_held (S := fun u => Below W.heap.size W u) (by kernel_rfl) ?_
      change wpAnyH _ _ _ _ _ _ _ _ (World.drew wr)
      have hS0 : Below W.heap.size W wr.drew := below_step (below_drew wr) hrb.out
      refine held_take (i := 0) (dst := some 22) rfl rfl (by kernel_rfl) (by kernel_rfl) (by kernel_rfl) (fun _ _ _ h => h) (y_move (.tmp 3) rfl rfl rfl) hS0 ?_
      go_frame
      refine held_take (i := 1) (dst := some 23) (v := .pointer (some ⟨w.heap.size, 3, none⟩)) rfl rfl (by kernel_rfl) (by kernel_rfl) (by kernel_rfl) (fun _ _ _ h => h) (.inl ⟨rfl, fun W hW => by go_simp⟩) hS0 ?_
      go_frame
      refine held_take (i := 2) (dst := some 24) (v := .string s) rfl rfl (by kernel_rfl) (by kernel_rfl) (by kernel_rfl) (fun _ _ _ h => h) (.inl ⟨rfl, fun u hu => by have c9 := (hbx.out.2.1.below hu (Nat.le_refl _)).cell 3 rfl; go_simp⟩) hS0 ?_
      go_frame
      refine held_take (i := 3) (dst := some 25) (v := .int .i64 s.size) rfl rfl (by kernel_rfl) (by kernel_rfl) (by kernel_rfl) (fun _ _ _ h => h) (.inl ⟨rfl, fun W hW => by go_simp⟩) hS0 ?_
      go_frame
      refine held_take (i := 4) (dst := some 26) (v := .int .u8 s.size) rfl rfl (by kernel_rfl) (by kernel_rfl) (by kernel_rfl) (fun _ _ _ h => h) (.inl ⟨rfl, fun W hW => by go_simp⟩) hS0 ?_
      go_frame
      refine held_take (i := 7) (dst := some 29) (v := .pointer (some ⟨w.heap.size, 3, none⟩)) rfl rfl (by kernel_rfl) (by kernel_rfl) (by kernel_rfl) (fun _ _ _ h => h) (.inl ⟨rfl, fun W hW => by go_simp⟩) hS0 ?_
      go_frame
      refine held_take (i := 8) (dst := some 30) (v := .string s) rfl rfl (by kernel_rfl) (by kernel_rfl) (by kernel_rfl) (fun _ _ _ h => h) (.inl ⟨rfl, fun u hu => by have c9 := (hbx.out.2.1.below hu (Nat.le_refl _)).cell 3 rfl; go_simp⟩) hS0 ?_
      go_frame
      have hm1 := made1 wr.drew (UInt8.ofNat s.size)
      rw [show ((UInt8.ofNat s.size).toNat : Int) = s.size by simp; omega] at hm1
      have hb5 : Below wr.drew.heap.size wr.drew (wr.drew.alloc (.cells #[.int .u8 s.size] 5)) := (Below.refl _ _).alloc (Nat.le_refl _) _
      obtain ⟨W5, hW5⟩ : ∃ W5, wr.drew.alloc (.cells #[.int .u8 s.size] 5) = W5 := ⟨_, rfl⟩
      rw [hW5] at hm1 hb5
      have hS1 : Below W.heap.size W W5 := below_step hb5 hS0
      refine held_value (i := 5) (dst := some 27) (v := .slice (some ⟨wr.drew.heap.size, 0, none⟩) 1 1) (w' := W5) rfl rfl (by kernel_rfl) rfl (by rw [← hW5]; go_simp) hS1 ?_
      go_frame
      clear hW5
      have hro5 : Own W5 W.heap.size (.slice q (3 + (8 - 0)) c) (encKey ⟨t, id⟩ ++ be (8 - 0) (u64 v)) := (hro'.out.below (below_drew wr)).below hb5
      obtain ⟨q6, c6, w6, hrun, h6, hg6⟩ := run_append_bytes (m := 1) 33 hro5 (hm1.holds 1) (by omega) hS1.size
      have hS6 : Below W.heap.size W w6 := hro5.up hg6 hS1 (Nat.le_refl _)
      refine held_value (i := 6) (dst := some 28) (v := .slice q6 12 c6) (w' := w6) rfl rfl (by kernel_rfl) rfl (run_append_oper (sl := .tmp 22) (x := .tmp 27) rfl rfl rfl hrun) hS6 ?_
      go_frame
      obtain ⟨i0', hi', hz0, hz1, hz2⟩ := info_parts info5
      obtain ⟨v7, w7, hrun7, h7, hg7, _⟩ := Lib.run_append_own_string (P := Try.prog) w6 W.heap.size 33 9 33 5 i0' Try.underlying33 Try.underlying9 hi' hz0 hz1 hz2 (.slice q6 12 c6) 12 _ h6 s (by unfold maxLen; omega) (by omega) hS6.size
      rw [strCells_vals, ← vals_append] at h7
      have hlen : (encRow ⟨⟨t, id⟩, v, s⟩).length = 12 + s.size := by
        unfold encRow
        rw [List.length_append, List.length_append, List.length_append, encKey_len, length_be, List.length_singleton, Array.length_toList]
        rfl
      have hfin : Own w7 W.heap.size v7 (encRow ⟨⟨t, id⟩, v, s⟩) := by
        unfold Own
        rw [hlen]
        exact h7
      obtain ⟨q7, c7, rfl⟩ := hfin.shape
      rw [hlen] at hfin
      have hb7 : Below W.heap.size W w7 := h6.up (w0 := W) (by cases q6 <;> exact hg7) hS6 (Nat.le_refl _)
      rw [hlen] at hrun7
      refine held_value (i := 9) (dst := some 31) (v := .slice q7 (12 + s.size) c7) (w' := w7) rfl rfl (by kernel_rfl) rfl (run_append_oper2 (sl := .tmp 28) (x := .tmp 30) rfl rfl rfl hrun7) hb7 ?_
      go_frame
      refine held_take (i := 10) (dst := some 2) (v := .slice q7 (12 + s.size) c7) rfl rfl (by kernel_rfl) (by kernel_rfl) (by kernel_rfl) (fun _ _ _ h => h) (.inl ⟨rfl, fun u hu => by go_simp⟩) hb7 ?_
      go_frame
      refine wpAnyH_done (by kernel_rfl) ?_ _
      have hfin' := Lib.hid hfin
      have hb7' := Lib.hid hb7
      clear hfin hb7 hlen hrun hrun7 h6 h7 hg6 hg7 hS6 hS1 hS0 hro5 hm1 hb5
      go_wp2
      go_ret
      exact ⟨q7, c7, rfl, hfin'.out.mono hbx.out.1.size, hbx.out.1.trans (hb7'.out.mono hbx.out.1.size)⟩

end Go.Proofs.Ytcniolmihpkmmaa
