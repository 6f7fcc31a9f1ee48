/- SumSigns: for every row of bytes the law returns true, and its argument reads as it did, where the table of steps is laid as the program's text lays it. No other condition. -/
import Derived.Test.YthjmmnbfjahamaaDoorSame
import Derived.Test.YthjmmnbfjahamaaDoorSRefSum
import Derived.Test.YthjmmnbfjahamaaDoorTie
import Derived.Test.YthjmmnbfjahamaaDoorCards
namespace Go.Proofs.YthjmmnbfjahamaaDoor
open Go.ChangeShapes Go.WideShapes Go.ChangeAt Go.RowKit

theorem length_le4 (v : BitVec 32) : (le4 v).length = 4 := length_les 4 v

/-- the four bytes, as the document's own answer makes them -/
theorem le4_vals (v : BitVec 32) : #[Value.int .u8 (un v % 256), .int .u8 (un v / 256 % 256), .int .u8 (un v / 65536 % 256), .int .u8 (un v / 16777216 % 256)] = (vals (le4 v)).toArray := by
  have a1 : (v >>> 8).toNat = v.toNat / 2 ^ 8 := by rw [BitVec.toNat_ushiftRight, Nat.shiftRight_eq_div_pow]
  have a2 : (v >>> 8 >>> 8).toNat = v.toNat / 2 ^ 16 := by rw [BitVec.toNat_ushiftRight, a1, Nat.shiftRight_eq_div_pow, Nat.div_div_eq_div_mul]
  have a3 : (v >>> 8 >>> 8 >>> 8).toNat = v.toNat / 2 ^ 24 := by rw [BitVec.toNat_ushiftRight, a2, Nat.shiftRight_eq_div_pow, Nat.div_div_eq_div_mul]
  unfold un vals le4
  simp only [les, a1, a2, a3, List.map_cons, List.map_nil]
  simp

theorem holds_four (w : World) (v : BitVec 32) (cs : Array Value) (h : cs = (vals (le4 v)).toArray) : Lib.HoldsBytes (w.alloc (.cells cs 5)) (.slice (some ⟨w.heap.size, 0, none⟩) 4 4) (le4 v) := by
  have := (row_built w (le4 v) cs h).holds 4
  rwa [length_le4] at this

set_option maxRecDepth 100000 in
set_option maxHeartbeats 1000000 in
theorem refsign_any (p : Option Addr) (n c : Nat) (l : List UInt8) (w : World) (hv : Lib.HoldsBytes w (.slice p n c) l) (hn : n ≤ 100000) :
    Calls Tryd.prog 16 #[.slice p n c] w (fun e w' => ∃ q c', e = .returned (.slice q (n + 4) c') ∧ Own w' w.heap.size (.slice q (n + 4) c') (l ++ le4 (crc l)) ∧ Below w.heap.size w w') := by
  have hv1 := Lib.hid hv
  have h0 := un_lo (crc l)
  have hle := Lib.hid (le4_vals (crc l))
  clear hv
  go_enter Tryd.func16, Tryd.ntmps16
  go_wp2_with fail
  refine (refsum_any p n c l w hv1.out hn).mono ?_
  rintro e w1 ⟨rfl, hb⟩
  have hb1 := Lib.hid hb
  clear hb
  have ho0 : Hid (∀ W : World, Own (W.alloc (.cells #[] 5)) W.heap.size (.slice (some ⟨W.heap.size, 0, none⟩) 0 0) []) := fun W => Own.made (n := 0) (Nat.zero_le _)
  go_wp2_with (first
    | (refine wpList_append_bytes rfl (.tmp 6) (.tmp 7) rfl rfl rfl (ho0.out w1) (holds_below hv1.out (hb1.out.alloc hb1.out.size (.cells #[] 5)) (Nat.le_refl _)) (by omega) (by simp) ?_; intro q3 c3 w3 ho3 hg3
       obtain ⟨x1, x2, x3⟩ := own_copy hb1.out ho3 hg3
       have hb3 := Lib.hid x1
       have hO3 := Lib.hid x2
       have hs3 := Lib.hid x3.size
       clear x1 x2 x3 ho3 hg3)
    | (refine wpList_append_bytes rfl (.tmp 8) (.tmp 20) rfl rfl rfl (hO3.out.below ((Below.refl _ _).alloc (Nat.le_refl _) _)) (holds_four w3 (crc l) _ hle.out) (by omega) (by have := hs3.out; simp; omega) ?_; intro q5 c5 w5 ho5 hg5))
  go_ret
  refine ⟨q5, c5, rfl, ho5.mono hb1.out.size, ?_⟩
  have hb4 : Below w.heap.size w (w3.alloc (.cells #[.int .u8 (un (crc l) % 256), .int .u8 (un (crc l) / 256 % 256), .int .u8 (un (crc l) / 65536 % 256), .int .u8 (un (crc l) / 16777216 % 256)] 5)) := hb3.out.alloc hb3.out.size _
  exact hb4.grown hg5 hb4.size (fun j e => by
    unfold blockOf at e
    cases q3 with
    | none => cases e
    | some b => cases e; exact Nat.le_trans hb1.out.size (hO3.out.holds.2.2 b rfl).1)

theorem refsigned_short (p : Option Addr) (n c : Nat) (l : List UInt8) (w : World) (hv : Lib.HoldsBytes w (.slice p n c) l) (hn : n < 4) :
    Calls Tryd.prog 17 #[.slice p n c] w (fun e w' => e = .returned (.bool (signed l)) ∧ Below w.heap.size w w') := by
  have e : Hid (signed l = false) := by
    have := holds_len hv
    show _ = _
    unfold signed
    rw [decide_eq_false (by omega)]; rfl
  clear hv
  rw [e.out]
  go_enter Tryd.func17, Tryd.ntmps17
  go_wp2
  go_ret
  exact ⟨rfl, Below.refl _ _⟩

theorem signed_split {l : List UInt8} {k : Nat} (h : l.length = k + 4) : (l.take k ++ le4 (crc (l.take k)) == l) = signed l := by
  unfold signed
  rw [h, Nat.add_sub_cancel, decide_eq_true (by omega), Bool.true_and, Bool.eq_iff_iff, beq_iff_eq, beq_iff_eq]
  constructor
  · intro e
    have := congrArg (List.drop k) e
    rw [List.drop_left' (by simp; omega)] at this
    exact this.symm
  · intro e
    rw [← e, List.take_append_drop]

set_option maxHeartbeats 1000000 in
theorem refsigned_long (a : Addr) (k c : Nat) (l : List UInt8) (w : World) (hv : Lib.HoldsBytes w (.slice (some a) (k + 4) c) l) (hn : k ≤ 100000) (hnc : k + 4 ≤ c) :
    Calls Tryd.prog 17 #[.slice (some a) (k + 4) c] w (fun e w' => e = .returned (.bool (signed l)) ∧ Below w.heap.size w w') := by
  have hvt : Hid (Lib.HoldsBytes w (.slice (some a) k c) (l.take k)) := holds_take hv (Below.refl _ _) (by omega)
  have hv1 := Lib.hid hv
  have hsp := Lib.hid (signed_split (holds_len hv).symm)
  have hck : ¬ c < k := by omega
  clear hv
  go_enter Tryd.func17, Tryd.ntmps17
  go_wp2_with fail
  refine (refsign_any (some a) k c (l.take k) w hvt.out hn).mono ?_
  rintro e w1 ⟨q1, c1, rfl, ho, hb⟩
  have ho1 := Lib.hid ho
  have hb1 := Lib.hid hb
  clear ho hb
  go_wp2_with fail
  refine (same_below q1 (some a) (k + 4) c1 (k + 4) c _ l w1 ho1.out.holds.1 (holds_below hv1.out hb1.out (Nat.le_refl _)) (by omega)).mono ?_
  rintro e w2 ⟨rfl, hb⟩
  rw [hsp.out]
  have hb2 := Lib.hid (hb1.out.trans (hb.mono hb1.out.size))
  clear hb
  go_wp2_with fail
  go_ret
  exact ⟨rfl, hb2.out⟩

theorem refsigned_any (p : Option Addr) (n c : Nat) (l : List UInt8) (w : World) (hv : Lib.HoldsBytes w (.slice p n c) l) (hn : n ≤ 100000) (hnc : n ≤ c) :
    Calls Tryd.prog 17 #[.slice p n c] w (fun e w' => e = .returned (.bool (signed l)) ∧ Below w.heap.size w w') := by
  by_cases h : n < 4
  · exact refsigned_short p n c l w hv h
  · obtain ⟨k, rfl⟩ : ∃ k, n = k + 4 := ⟨n - 4, by omega⟩
    cases p with
    | none =>
      obtain ⟨_, _, he, h1, _⟩ := hv
      simp only [Value.slice.injEq] at he
      obtain ⟨rfl, hl, _⟩ := he
      rw [h1 rfl] at hl
      cases hl
    | some a => exact refsigned_long a k c l w hv (by omega) hnc

/-- a row of the call's own, at its block -/
theorem Own.some_of {w : World} {base : Nat} {q : Option Addr} {n c : Nat} {l : List UInt8} (h : Own w base (.slice q n c) l) (hn : 0 < n) :
    ∃ g, q = some ⟨g, 0, none⟩ ∧ base ≤ g ∧ n = l.length ∧ n ≤ c ∧ (∀ i (x : UInt8), l[i]? = some x → w.cell? ⟨g, i, none⟩ = some (.int .u8 (x.toNat : Int))) ∧ (∀ i, w.frozen? ⟨g, i, none⟩ = false) ∧
      (∀ i (x : UInt8), i < n → Own (w.setCell ⟨g, i, none⟩ (.int .u8 (x.toNat : Int))) base (.slice q n c) (l.set i x)) := by
  have hh := h.holds
  obtain ⟨hlen, ⟨he, h0⟩ | ⟨g, cap, cur, he, hg, hb, hle, hm, hsz, htk⟩⟩ := h
  · cases he; omega
  · simp only [Value.slice.injEq] at he
    obtain ⟨rfl, _, rfl⟩ := he
    have hlen2 : n = l.length := holds_len hh.1
    refine ⟨g, rfl, hg, hlen2, by omega, fun i x hx => ?_, fun i => frozen_of_row w g i _ _ hb, fun i x hi => ?_⟩
    · obtain ⟨_, _, he, _, h2⟩ := hh.1
      simp only [Value.slice.injEq] at he
      obtain ⟨rfl, _, _⟩ := he
      have := h2 _ rfl i x hx
      have hadd : (⟨g, 0, none⟩ : Addr).add i = ⟨g, i, none⟩ := by unfold Addr.add; split <;> simp_all
      rwa [hadd] at this
    · have hs := heap_setCell_same w g i _ 5 (.int .u8 (x.toNat : Int)) hb
      refine ⟨by simp [vals], .inr ⟨g, c, _, by rw [List.length_set, ← hlen2], hg, hs, by rw [List.length_set]; exact hle, hm, by simpa using hsz, ?_⟩⟩
      simp only [List.length_set, Nat.mul_one, Array.toList_setIfInBounds] at htk ⊢
      rw [List.take_set, htk, vals, vals, List.map_set]

/-- what the rounds that change the signed bytes leave alone -/
structure BumpS (w wr : World) (B : Nat) (qs : Option Addr) (m cs : Nat) (q : Option Addr) (n c : Nat) (l : List UInt8) : Prop where
  below : Below w.heap.size w wr
  sign : ∃ G : List UInt8, Own wr B (.slice qs m cs) G
  own : Own wr w.heap.size (.slice q n c) l
  far : ∀ a, q = some a → a.block < B

theorem BumpS.round {w wr : World} {B m cs n c i : Nat} {q qs : Option Addr} {l : List UInt8} (h : BumpS w wr B qs m cs q n c l) (hB : w.heap.size ≤ B) (hi : i < m) :
    ∃ g, ∃ y : UInt8, qs = some ⟨g, 0, none⟩ ∧ wr.cell? ⟨g, i, none⟩ = some (.int .u8 (y.toNat : Int)) ∧ wr.frozen? ⟨g, i, none⟩ = false ∧
      BumpS w (wr.setCell ⟨g, i, none⟩ (.int .u8 (((y.toNat : Int) + 1) % 256))) B (some ⟨g, 0, none⟩) m cs q n c l := by
  obtain ⟨G, hG⟩ := h.sign
  obtain ⟨g, rfl, hg, hn, hc, hcell, hfr, hset⟩ := hG.some_of (by omega)
  have hx : G[i]? = some G[i] := List.getElem?_eq_getElem (by omega)
  have e : (((G[i].toNat : Int) + 1) % 256) = ((G[i] + 1).toNat : Int) := by
    rw [UInt8.toNat_add]; simp
  refine ⟨g, G[i], rfl, hcell i _ hx, hfr i, h.below.setCell (p := ⟨g, i, none⟩) (Nat.le_trans hB hg) _, ⟨_, by rw [e]; exact hset i (G[i] + 1) hi⟩, h.own.kept (fun a ha => ?_), h.far⟩
  have := h.far a ha
  exact Below.heap_setCell _ _ _ _ (by show a.block ≠ g; omega)

theorem signs_guard (p : Option Addr) (n c : Nat) (w : World) (hL : Laid w) (h : 500 < n) :
    Calls Tryd.prog 4 #[.slice p n c] w (fun e w' => e = .returned (.bool true) ∧ Below w.heap.size w w') := by
  have hL1 := Lib.hid hL
  clear hL
  go_enter Tryd.func4, Tryd.ntmps4
  go_wp2_with fail
  refine (wakes_any w hL1.out).mono ?_
  rintro e w1 ⟨rfl, hb⟩
  have hb1 := Lib.hid hb
  clear hb
  go_wp2_with fail
  go_ret
  exact ⟨rfl, hb1.out⟩

set_option maxRecDepth 100000 in
set_option maxHeartbeats 2000000 in
theorem signs_core (z : Int) (B : Bool) (hz : (z = 130 ∧ B = false) ∨ (z = 0 ∧ B = true)) (p : Option Addr) (n c : Nat) (l : List UInt8) (w : World) (hL : Laid w) (hv : Lib.HoldsBytes w (.slice p n c) l) (hn : n ≤ 500) (hnc : n ≤ c) (hB0 : signed l = B) (hck0 : ck l = z) :
    Calls Tryd.prog 4 #[.slice p n c] w (fun e w' => e = .returned (.bool true) ∧ Below w.heap.size w w') := by
  have hL1 := Lib.hid hL
  have hv1 := Lib.hid hv
  have hB := Lib.hid hB0
  have hck := Lib.hid hck0
  clear hL hv hB0 hck0
  rcases hz with ⟨rfl, rfl⟩ | ⟨rfl, rfl⟩
  all_goals
    go_enter Tryd.func4, Tryd.ntmps4
    go_wp2_with fail
    refine (wakes_any w hL1.out).mono ?_
    rintro e w1 ⟨rfl, hb⟩
    have hb1 := Lib.hid hb
    clear hb
    have ho0 : Hid (∀ W : World, Own (W.alloc (.cells #[] 5)) W.heap.size (.slice (some ⟨W.heap.size, 0, none⟩) 0 0) []) := fun W => Own.made (n := 0) (Nat.zero_le _)
    go_wp2_with (refine wpList_append_bytes rfl (.tmp 12) (.tmp 13) rfl rfl rfl (ho0.out w1) (holds_below hv1.out (hb1.out.alloc hb1.out.size (.cells #[] 5)) (Nat.le_refl _)) (by omega) (by simp) ?_; intro q3 c3 w3 ho3 hg3)
    obtain ⟨x1, x2, x3⟩ := own_copy hb1.out ho3 hg3
    have hb3 := Lib.hid x1
    have hO3 := Lib.hid (x2.mono hb1.out.size)
    have hl3 := Lib.hid (fun x hx => (x2.holds.2.2 x hx).2)
    clear x1 x2 x3 ho3 hg3
    refine (sign_any p n c l w3 (hL1.out.keep hb3.out hL1.out.size) (holds_below hv1.out hb3.out (Nat.le_refl _)) (by omega) hnc).mono ?_
    rintro e w4 ⟨qs, cs, rfl, ho, hb⟩
    have hS4 := Lib.hid ho
    have hO4 := Lib.hid (hO3.out.below hb)
    have hb4 := Lib.hid (hb3.out.trans (hb.mono hb3.out.size))
    have hs3 : Hid (w.heap.size ≤ w3.heap.size) := hb3.out.size
    clear ho hb hO3
    go_wp2_with fail
    refine (check_any p n c l w4 (hL1.out.keep hb4.out hL1.out.size) (holds_below hv1.out hb4.out (Nat.le_refl _)) (by omega) hnc).mono ?_
    rintro e w5 ⟨rfl, hb⟩
    rw [hck.out]
    have hS5 := Lib.hid (hS4.out.below hb)
    have hO5 := Lib.hid (hO4.out.below hb)
    have hb5 := Lib.hid (hb4.out.trans (hb.mono hb4.out.size))
    clear hb hS4 hO4
    go_wp2_with fail
    refine (refsign_any q3 n c3 l w5 hO5.out.holds.1 (by omega)).mono ?_
    rintro e w6 ⟨q6, c6, rfl, ho, hb⟩
    have hR6 := Lib.hid ho
    have hS6 := Lib.hid (hS5.out.below hb)
    have hO6 := Lib.hid (hO5.out.below hb)
    have hb6 := Lib.hid (hb5.out.trans (hb.mono hb5.out.size))
    clear ho hb hS5 hO5
    go_wp2_with fail
    refine (same_below qs q6 (n + 4) cs (n + 4) c6 _ _ w6 hS6.out.holds.1 hR6.out.holds.1 (by omega)).mono ?_
    rintro e w7 ⟨rfl, hb⟩
    have hS7 := Lib.hid (hS6.out.below hb)
    have hO7 := Lib.hid (hO6.out.below hb)
    have hb7 := Lib.hid (hb6.out.trans (hb.mono hb6.out.size))
    have same1 : (l ++ le4 (crc l) == l ++ le4 (crc l)) = true := by rw [beq_iff_eq]
    clear hb hS6 hO6 hR6
    have hsg := Lib.hid (refsigned_any q3 n c3 l w7 hO7.out.holds.1 (by omega) hO7.out.holds.2.1)
    rw [hB.out] at hsg
    go_wp2_with fail
    refine hsg.out.mono ?_
    rintro e w8 ⟨rfl, hb⟩
    have hrel0 : Hid (BumpS w w8 w3.heap.size qs (n + 4) cs q3 n c3 l) := ⟨hb7.out.trans (hb.mono hb7.out.size), ⟨_, hS7.out.below hb⟩, hO7.out.below hb, hl3.out⟩
    clear hb hS7 hO7 hsg same1
    go_wp2_with fail
    go_loopw [41] (fun v41 wr => ∃ i : Nat, i ≤ n + 4 ∧ v41 = .int .i64 i ∧ Hid (BumpS w wr w3.heap.size qs (n + 4) cs q3 n c3 l)) (fun v41 _ => n + 4 - (intOf v41).toNat)
    case atStart => exact ⟨0, Nat.zero_le _, rfl, hrel0⟩
    case round =>
      obtain ⟨i, hi, rfl, hr⟩ := hrel
      by_cases hlt : i < n + 4
      · obtain ⟨g, y, rfl, hcell, hfr, hnx⟩ := hr.out.round hs3.out hlt
        have hnext := Lib.hid hnx
        clear hnx hr
        go_wp2
        go_roundw
        case rel => exact ⟨i + 1, by omega, by go_num, hnext⟩
        case measure => simp [intOf]; omega
      · obtain rfl : i = n + 4 := by omega
        go_wp2_with fail
        refine (same_below p q3 n c n c3 l l wr (holds_below hv1.out hr.out.below (Nat.le_refl _)) hr.out.own.holds.1 (by omega)).mono ?_
        rintro e w9 ⟨rfl, hb⟩
        have hb9 := Lib.hid (hr.out.below.trans (hb.mono hr.out.below.size))
        have same1 : (l == l) = true := by rw [beq_iff_eq]
        clear hb
        go_wp2_with fail
        go_ret
        exact ⟨rfl, hb9.out⟩

theorem signs_any (p : Option Addr) (n c : Nat) (l : List UInt8) (w : World) (hL : Laid w) (hv : Lib.HoldsBytes w (.slice p n c) l) (hn : n ≤ 500) (hnc : n ≤ c) :
    Calls Tryd.prog 4 #[.slice p n c] w (fun e w' => e = .returned (.bool true) ∧ Below w.heap.size w w') := by
  refine signs_core (ck l) (signed l) ?_ p n c l w hL hv hn hnc rfl rfl
  unfold ck
  cases signed l
  · exact .inl ⟨rfl, rfl⟩
  · exact .inr ⟨rfl, rfl⟩

theorem signs_lifted (os : Os) (started : os.Started) (H : Type) (enc : TypeId × Value → H) :
    ReturnsInHanded {} Tryd.checked os 4 .any (fun w args => (Rows.sumSignsSpec.pre enc Tryd.prog Tryd.f4 [] false w args ∧ laidMetH Tryd.prog [("bursary/sum.steps", Rows.laid_bursary_sum_steps)] w) ∧ sizedMet enc Tryd.prog Tryd.f4 (OpenSpec.ofChange Rows.sumSignsSpec) false w args)
      (Rows.sumSignsSpec.post enc Tryd.prog Tryd.f4 false true false false) := by
  refine returnsInHanded_of_change_and (C := Tryd.checked) (X := fun w _ => laidMetH Tryd.prog [("bursary/sum.steps", Rows.laid_bursary_sum_steps)] w) (fun _ _ _ hh h => h.of_heap hh) own started (by kernel_rfl) Tryd.func4
    (ChangeSpec.witness_shaped (enc := enc) (C := Tryd.checked) (os := os) (X := fun w _ => laidMetH Tryd.prog [("bursary/sum.steps", Rows.laid_bursary_sum_steps)] w) false (World.doorLaid Tryd.prog 400 os) #[.slice none 0 0] 8 rfl (World.shaped_of_RefB (by kernel_rfl) (by kernel_rfl)) (by kernel_rfl) (by kernel_rfl) (by kernel_rfl) (door_met os _)) ?_
  intro W base args ds gs before hval0 hW _ _ hL _
  have hval : ∀ (j : Nat) t v, Tryd.f4.params[j]? = some t → args[j]? = some v → Value.okWide Tryd.prog W .any base t v := hval0
  have hW' := hW
  obtain ⟨p, q, hA0, hV, rfl, _, _⟩ := hW
  have hA : DataW.TrodAll enc Tryd.prog W 0 (fun _ => true) true Tryd.f4.params.toList args.toList ds p := hA0
  rw [Tryd.params4] at hA hval
  obtain ⟨v0, d0, rfl, rfl, h0⟩ := trodAll_one hA
  obtain ⟨rfl, rfl⟩ := trodVars_none hV
  have hT := of_laid hL
  obtain ⟨a0, len0, cap0, rfl⟩ := okWide_slice Tryd.underlying22 (hval 0 22 v0 rfl rfl)
  obtain ⟨l0, hl0, hlen0, hcap0⟩ := open_bytes h0
  have key : Calls Tryd.prog 4 #[.slice a0 len0 cap0] W (fun e w' => e = .returned (.bool true) ∧ Below W.heap.size W w') := by
    by_cases hg : len0 ≤ 500
    · exact signs_any a0 len0 cap0 l0 W hT hl0 hg hcap0
    · exact signs_guard a0 len0 cap0 W hT (by omega)
  refine (key).mono fun e W' ⟨he, hb⟩ => ?_
  subst he
  exact ⟨_, rfl, law_post laidOut (of_decide_eq_true (by kernel_rfl)) rfl (by kernel_rfl) Tryd.underlying4 hW' ⟨rfl, rfl, rfl⟩ hb⟩

theorem signs_said : Rows.SumSignsSaid :=
  OpenClaim.holds_of_wide 4 Tryd.f4 rfl rfl rfl rfl rfl rfl rfl ⟨rfl, rfl, rfl, rfl, rfl⟩ rfl rfl rfl rfl rfl (by kernel_rfl) Tryd.func4 (by kernel_rfl)
    (of_decide_eq_true (by kernel_rfl)) (by unfold Func.isWrapper; first | (rw [if_pos (by decide +kernel)]; kernel_rfl) | (rw [if_neg (by decide +kernel)]; exact ⟨rfl, rfl⟩))
    (fun os started H enc _ => signs_lifted os started H enc)

theorem signs_holds : Rows.SumSignsCardSaid :=
  Claim7.holds_tied_plain_at .later [] [.data] true Rows.sumSignsCard.stood.harness false
    signs_said (fun _ h => by cases h) (by kernel_rfl) (fun _ h => by cases h) sumSigns_row_tie rfl ⟨rfl, rfl⟩ (by kernel_rfl) rfl
    (fun f fn hf hfn => by
      obtain rfl : f = 4 := Option.some.inj ((show Tryd.prog.funcNamed "bursary/bursarylaw03.SumSigns" = some 4 by kernel_rfl).symm.trans hf) |>.symm
      obtain rfl : fn = Tryd.f4 := (Option.some.inj (Tryd.func4.symm.trans hfn)).symm
      exact ⟨by kernel_rfl, fun j t ht => by
        rw [Tryd.params4] at ht
        have hm : t ∈ [22] := by simpa using Array.mem_of_getElem? ht
        have hall : ([22].all fun u => !Tryd.prog.wantsStandIn u) = true := by kernel_rfl
        exact (show Tryd.prog.wantsStandIn t = false by simpa using List.all_eq_true.1 hall t hm)⟩)
    (by kernel_rfl)

end Go.Proofs.YthjmmnbfjahamaaDoor
