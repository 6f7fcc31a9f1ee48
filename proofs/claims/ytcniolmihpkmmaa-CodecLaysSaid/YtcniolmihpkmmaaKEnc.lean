/- The bytes of keys, rows and kids; which rows may be laid. -/
import Derived.Test.YtcniolmihpkmmaaKBase
import Derived.Lib.AppendStr
namespace Go.Proofs.Ytcniolmihpkmmaa
open Go.RowKit

theorem Boxed.key {w : World} {g : Nat} {a b c d : Value} (h : Boxed w g [a, b, c, d]) : ∀ j x, ([a, b] : List Value)[j]? = some x → w.cell? ((⟨g, 0, none⟩ : Addr).add j) = some x := fun j x hj => h j x (by
  match j, hj with
  | 0, hj => exact hj
  | 1, hj => exact hj
  | j + 2, hj => simp at hj)

def tabB (t : Int) : Bool := decide (0 ≤ t) && decide (t < 3)
def chkRowC (r : RowD) : Int := if tabB r.key.t = true ∧ r.note.size ≤ 8 then 0 else 151

set_option maxRecDepth 100000 in
set_option maxHeartbeats 1000000 in
theorem tabled_any (t id : Int) (w : World) : Calls Try.prog 34 #[.agg #[.int .i64 t, .int .u16 id]] w (fun e w' => e = .returned (.bool (tabB t)) ∧ Below w.heap.size w w') := by
  have hb : Hid (Below w.heap.size w (w.alloc (.cells #[.int .i64 t, .int .u16 id] 40))) := (Below.refl _ _).alloc (Nat.le_refl _) _
  by_cases h0 : 0 ≤ t
  · by_cases h3 : t < 3
    · rw [show tabB t = true by unfold tabB; simp [h0, h3]]
      go_enter Try.func34, Try.ntmps34
      go_wp2
      go_ret
      exact ⟨rfl, hb.out⟩
    · rw [show tabB t = false by unfold tabB; simp [h3]]
      go_enter Try.func34, Try.ntmps34
      go_wp2
      go_ret
      exact ⟨rfl, hb.out⟩
  · rw [show tabB t = false by unfold tabB; simp [h0]]
    go_enter Try.func34, Try.ntmps34
    go_wp2
    go_ret
    exact ⟨rfl, hb.out⟩

set_option maxRecDepth 100000 in
set_option maxHeartbeats 1000000 in
theorem checkRow_any (t id v : Int) (s : ByteArray) (w : World) (hs : s.size ≤ maxLen) : Calls Try.prog 19 #[.agg #[.int .i64 t, .int .u16 id, .int .i64 v, .string s]] w (fun e w' => e = .returned (.int .i64 (chkRowC ⟨⟨t, id⟩, v, s⟩)) ∧ Below w.heap.size w w') := by
  unfold maxLen at hs
  obtain ⟨W, hW⟩ : ∃ W, w.alloc (.cells #[.int .i64 t, .int .u16 id, .int .i64 v, .string s] 42) = W := ⟨_, rfl⟩
  have hbx := Lib.hid (one_box (xs := [.int .i64 t, .int .u16 id, .int .i64 v, .string s]) hW)
  have hs3 := sizeKey t id
  have k1 := Lib.hid hbx.out.2.1.key
  obtain ⟨b, hb⟩ : ∃ b, tabB t = b := ⟨_, rfl⟩
  have ht := Lib.hid (tabled_any t id W)
  rw [hb] at ht
  have hb' := Lib.hid hb
  clear hb
  cases b with
  | true =>
    by_cases h8 : s.size ≤ 8
    · rw [show chkRowC ⟨⟨t, id⟩, v, s⟩ = 0 from if_pos ⟨hb'.out, h8⟩]
      have h8' : ¬ 8 < s.size := by omega
      go_enter Try.func19, Try.ntmps19
      go_wp2_with (first
        | (with_reducible refine wpList_load_at rfl 40 (.tmp 3) rfl Try.underlying40 rfl hs3 rfl k1.out ?_)
        | (go_at_call 34; refine ht.out.mono ?_; rintro e w1 ⟨rfl, hb1⟩; have hd := Lib.hid (hbx.out.1.trans (hb1.mono hbx.out.1.size)); have c3 := (hbx.out.2.1.below hb1 (Nat.le_refl _)).cell 3 rfl; clear hb1))
      go_ret
      exact ⟨rfl, hd.out⟩
    · rw [show chkRowC ⟨⟨t, id⟩, v, s⟩ = 151 from if_neg (fun h => h8 h.2)]
      have h8' : 8 < s.size := by omega
      go_enter Try.func19, Try.ntmps19
      go_wp2_with (first
        | (with_reducible refine wpList_load_at rfl 40 (.tmp 3) rfl Try.underlying40 rfl hs3 rfl k1.out ?_)
        | (go_at_call 34; refine ht.out.mono ?_; rintro e w1 ⟨rfl, hb1⟩; have hd := Lib.hid (hbx.out.1.trans (hb1.mono hbx.out.1.size)); have c3 := (hbx.out.2.1.below hb1 (Nat.le_refl _)).cell 3 rfl; clear hb1))
      go_ret
      exact ⟨rfl, hd.out⟩
  | false =>
    rw [show chkRowC ⟨⟨t, id⟩, v, s⟩ = 151 from if_neg (fun h => by have := h.1; rw [show tabB (⟨⟨t, id⟩, v, s⟩ : RowD).key.t = false from hb'.out] at this; cases this)]
    go_enter Try.func19, Try.ntmps19
    go_wp2_with (first
      | (with_reducible refine wpList_load_at rfl 40 (.tmp 3) rfl Try.underlying40 rfl hs3 rfl k1.out ?_)
      | (go_at_call 34; refine ht.out.mono ?_; rintro e w1 ⟨rfl, hb1⟩; have hd := Lib.hid (hbx.out.1.trans (hb1.mono hbx.out.1.size)); clear hb1))
    go_ret
    exact ⟨rfl, hd.out⟩

/-! bytes -/
def encKey (k : KeyD) : List UInt8 := UInt8.ofNat k.t.toNat :: be 2 k.id.toNat
def u64 (v : Int) : Nat := (v % 18446744073709551616).toNat
def encRow (r : RowD) : List UInt8 := ((encKey r.key ++ be 8 (u64 r.val)) ++ [UInt8.ofNat r.note.size]) ++ r.note.data.toList
def encKid (k : KidD) : List UInt8 := encKey k.least ++ [UInt8.ofNat k.page.toNat]
theorem encKey_len (k : KeyD) : (encKey k).length = 3 := by simp [encKey, length_be]
theorem Row.own {w : World} {g B : Nat} {l : List UInt8} (h : Row 5 w g l) (hB : B ≤ g) (hm : l.length ≤ maxLen) : Own w B (.slice (some ⟨g, 0, none⟩) l.length l.length) l :=
  ⟨by rw [length_vals, Nat.mul_one], .inr ⟨g, l.length, (vals l).toArray, rfl, hB, h, Nat.le_refl _, hm, by simp [length_vals], by rw [Nat.mul_one]; exact List.take_of_length_le (by rw [length_vals]; exact Nat.le_refl _)⟩⟩
theorem ofNat_int {t : Int} (h0 : 0 ≤ t) (h1 : t < 256) : ((UInt8.ofNat t.toNat).toNat : Int) = t := by
  simp; omega
theorem made1 (w : World) (x : UInt8) : Row 5 (w.alloc (.cells #[.int .u8 (x.toNat : Int)] 5)) w.heap.size [x] := heap_alloc_new _ _

def BytesPost (w : World) (n : Nat) (l : List UInt8) (e : Ending) (w' : World) : Prop := ∃ q c, e = .returned (.slice q n c) ∧ Own w' w.heap.size (.slice q n c) l ∧ Below w.heap.size w w'

set_option maxRecDepth 100000 in
set_option maxHeartbeats 1000000 in
theorem keyBytes_any (t id : Int) (w : World) (h0 : 0 ≤ t) (h1 : t < 256) (hi0 : 0 ≤ id) (hi1 : id < 65536) : Calls Try.prog 45 #[.agg #[.int .i64 t, .int .u16 id]] w (BytesPost w 3 (encKey ⟨t, id⟩)) := by
  obtain ⟨W, hW⟩ : ∃ W, w.alloc (.cells #[.int .i64 t, .int .u16 id] 40) = W := ⟨_, rfl⟩
  have hbx := Lib.hid (one_box (xs := [.int .i64 t, .int .u16 id]) hW)
  have c0 := hbx.out.2.1.cell 0 rfl
  have c1 := hbx.out.2.1.cell 1 rfl
  have hx := Lib.hid (ofNat_int h0 h1)
  have hr := Lib.hid (made1 W (UInt8.ofNat t.toNat))
  rw [hx.out] at hr
  obtain ⟨W2, hW2⟩ : ∃ W2, W.alloc (.cells #[.int .u8 t] 5) = W2 := ⟨_, rfl⟩
  have hb2 := Lib.hid (one_box (xs := [.int .u8 t]) hW2)
  have hr2 : Hid (Row 5 W2 W.heap.size [UInt8.ofNat t.toNat]) := by have h := hr.out; rw [hW2] at h; exact h
  have hd1 := (hbx.out.2.1.below hb2.out.1 (Nat.le_refl _)).cell 1 rfl
  have hp := Lib.hid (put16 (some ⟨W.heap.size, 0, none⟩) 1 1 id [UInt8.ofNat t.toNat] W2 (hr2.out.holds 1) (by decide) hi0 hi1)
  clear hr
  go_enter Try.func45, Try.ntmps45
  go_wp2_with fail
  refine hp.out.mono ?_
  clear hp hW2
  rintro e w3 ⟨rfl, hrow, hb3⟩
  have hrow' := Lib.hid hrow
  have hd := Lib.hid (hbx.out.1.trans ((hb2.out.1.trans (hb3.mono hb2.out.1.size)).mono hbx.out.1.size))
  have hsz : Hid (w.heap.size ≤ W2.heap.size) := Nat.le_trans hbx.out.1.size hb2.out.1.size
  clear hrow hb3
  go_wp2
  go_ret
  have ho := Row.own hrow'.out hsz.out (by unfold maxLen; simp [length_be])
  rw [show ([UInt8.ofNat t.toNat] ++ be 2 id.toNat).length = 3 by simp [length_be]] at ho
  exact ⟨_, _, rfl, ho, hd.out⟩
end Go.Proofs.Ytcniolmihpkmmaa
