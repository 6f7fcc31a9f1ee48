/- OctetBehind: for every two rows of bytes and every row of numbers the law returns true, and its arguments read as they did. No condition. -/
import Derived.Test.YtoafcpfadkejnaaStands
namespace Go.Proofs.Ytoafcpfadkejnaa
open Go.ChangeShapes Go.WideShapes Go.ChangeAt Go.RowKit

/-- The value v is a slice of these ints. -/
def HoldsInts (w : World) (v : Value) (l : List Int) : Prop :=
  ∃ (p : Option Addr) (cap : Nat), v = .slice p l.length cap ∧ (p = none → l = []) ∧ ∀ a, p = some a → ∀ (i : Nat) z, l[i]? = some z → w.cell? (a.add i) = some (.int .i64 z)

theorem ints_below {B : Nat} {w w' : World} {v : Value} {l : List Int} (h : HoldsInts w v l) (hb : Below B w w') (hB : w.heap.size ≤ B) : HoldsInts w' v l := by
  obtain ⟨p, cap, rfl, h1, h2⟩ := h
  exact ⟨p, cap, rfl, h1, fun a ha i x hx => Lib.Below.cellOf hb (h2 a ha i x hx) hB⟩

theorem ints_at {w : World} {p : Option Addr} {n c : Nat} {l : List Int} (h : HoldsInts w (.slice p n c) l) (i : Nat) (hi : i < n) : ∃ a z, p = some a ∧ l[i]? = some z ∧ w.cell? (a.add i) = some (.int .i64 z) := by
  obtain ⟨q, cap, he, h1, h2⟩ := h
  cases he
  cases p with
  | none => rw [h1 rfl] at hi; simp at hi
  | some a => exact ⟨a, l[i], rfl, List.getElem?_eq_getElem hi, h2 a rfl i _ (List.getElem?_eq_getElem hi)⟩

theorem cells3 : Try.prog.cellsOf 3 = 1 := by kernel_rfl

theorem i64_of_wf {x : Int} (h : (Lit.int .i64 x).wf = true) : -9223372036854775808 ≤ x ∧ x ≤ 9223372036854775807 := by
  have h1 : IntKind.i64.min = -9223372036854775808 := rfl
  have h2 : IntKind.i64.max = 9223372036854775807 := rfl
  simp only [Lit.wf, Bool.and_eq_true, decide_eq_true_eq] at h
  omega

/-- An argument of type []int, nil or not. -/
theorem open_nums {H : Type} {enc : TypeId × Value → H} {W : World} {a0 : Option Addr} {len cap : Nat} {d0 : DataW H} {p : List MemPlace}
    (h0 : DataW.Trod enc Try.prog W 0 (fun _ => true) true 37 (.slice a0 len cap) d0 p) :
    ∃ l : List Int, HoldsInts W (.slice a0 len cap) l ∧ l.length = len ∧ ∀ z ∈ l, -9223372036854775808 ≤ z ∧ z ≤ 9223372036854775807 := by
  obtain ⟨fuel, hf⟩ := h0
  rcases open_ints Try.underlying37 Try.underlying3 cells3 hf with ⟨hcs, hx⟩ | ⟨a, len', cap', zs, hcs, _, hl, hm, hz, hx, hcell, hwz⟩
  · simp [Value.cells] at hcs
    obtain ⟨rfl, rfl, rfl⟩ := hcs
    exact ⟨[], ⟨none, 0, rfl, fun _ => rfl, fun a ha => by cases ha⟩, rfl, fun z hz => by cases hz⟩
  · simp [Value.cells] at hcs
    obtain ⟨rfl, rfl, rfl⟩ := hcs
    simp only [if_true] at hz
    refine ⟨zs.take len, ⟨some a, cap, by congr 1; simp; omega, (fun e => by cases e), fun b hb i x hx => ?_⟩, by simp; omega, fun z hz => i64_of_wf (hwz z (List.mem_of_mem_take hz))⟩
    cases hb
    have hi : i < zs.length := by
      have := (List.getElem?_eq_some_iff.1 hx).1
      rw [List.length_take] at this; omega
    rw [List.getElem?_take] at hx
    split at hx
    · rw [hcell i hi]
      simp [List.getD, hx]
    · cases hx

def CloneOwn (w : World) (n : Nat) (l : List UInt8) (e : Ending) (w' : World) : Prop :=
  ∃ q c', e = .returned (.slice q n c') ∧ Own w' w.heap.size (.slice q n c') l ∧ Below w.heap.size w w'

theorem clone_own (p : Option Addr) (n c : Nat) (l : List UInt8) (w : World) (hv : Lib.HoldsBytes w (.slice p n c) l) (hn : n ≤ 140737488355328) :
    Calls Try.prog 29 #[.slice p n c] w (CloneOwn w n l) := by
  obtain ⟨q, cap, he, h1, h2⟩ := hv
  cases he
  cases p with
  | none =>
    have := h1 rfl
    subst this
    refine (Try.bytes_Clone_nil _ c w).mono ?_
    rintro e w' ⟨rfl, rfl⟩
    exact ⟨none, 0, rfl, ⟨rfl, Or.inl ⟨rfl, rfl⟩⟩, Below.refl _ _⟩
  | some a =>
    refine (Try.bytes_Clone_at a l.length c (Lib.numsL l) w (Lib.numsL_length l) hn (fun i hi => ?_)).mono ?_
    · rw [h2 a rfl i l[i] (List.getElem?_eq_getElem hi)]
      simp [Lib.numsL, List.getD, hi]
    rintro e w' ⟨v', rfl, hown, hne, hb⟩
    have e1 : (Lib.numsL l).map (Value.int .u8) = vals l := by simp [Lib.numsL, vals]
    rw [e1] at hown
    have ho : Own w' w.heap.size v' l := hown
    obtain ⟨q, c', rfl⟩ := ho.shape
    exact ⟨q, c', rfl, ho, hb⟩

/-- two readers that are in the same place -/
structure Twins (w wr : World) (r : Nat) (dr : Option Nat) (s : Nat) (ds : Option Nat) (L : List UInt8) (E : Int) : Prop where
  below : Below w.heap.size w wr
  one : Rdr wr r dr L E
  two : Rdr wr s ds L E

theorem Twins.step1 {w wr w1 : World} {r s : Nat} {dr ds : Option Nat} {L : List UInt8} {E : Int} (h : Twins w wr r dr s ds L E) (ha : Apart r dr s ds) (hr : w.heap.size ≤ r) (hg : wr.grownBy w1 (some r)) : Below w.heap.size w w1 ∧ Rdr w1 s ds L E :=
  ⟨h.below.grown hg h.below.size (fun k e => by cases e; exact hr), h.two.keep hg ha.1 ha.2.2⟩

theorem behind_below {w w2 w3 : World} {base : Nat} {q : Option Addr} {n c : Nat} {l : List UInt8} (hb : Below w.heap.size w w2) (ho : Own w2 base (.slice q n c) l) (h : w.heap.size ≤ base) (hg : w2.grownBy w3 (blockOf q)) : Below w.heap.size w w3 :=
  hb.grown hg hb.size (fun k e => by
    cases q with
    | none => cases e
    | some a => cases e; exact Nat.le_trans h (ho.holds.2.2 a rfl).1)

theorem new_keep {w w1 w2 : World} {s : Nat} {q : Option Addr} {n c : Nat} {l : List UInt8} (h : New w.heap.size w1 (.slice q n c) l) (hs : s < w.heap.size) (hg : w1.grownBy w2 (some s)) : Lib.HoldsBytes w2 (.slice q n c) l := by
  refine holds_block h.1 (fun a n' c' e => ?_)
  have h1 := h.2 a n' c' e
  exact hg.block _ h1.2.1 (by intro e2; injection e2; omega)

theorem Rdr.lt {w : World} {g : Nat} {d : Option Nat} {l : List UInt8} {err : Int} (r : Rdr w g d l err) : g < w.heap.size := by
  obtain ⟨p, n, c, hr, _⟩ := r
  exact hr.lt

set_option maxHeartbeats 2000000 in
theorem behind_ok (pa pb pc : Option Addr) (A ca B cb K cc : Nat) (la lb : List UInt8) (lc : List Int) (w : World) (hva : Lib.HoldsBytes w (.slice pa A ca) la) (hvb : Lib.HoldsBytes w (.slice pb B cb) lb) (hvc : HoldsInts w (.slice pc K cc) lc) (hA : A ≤ 2000) (hB : B ≤ 2000) (hK : K ≤ 200) :
    Calls Try.prog 7 #[.slice pa A ca, .slice pb B cb, .slice pc K cc] w (fun e w' => e = .returned (.bool true) ∧ Below w.heap.size w w') := by
  have va := Lib.hid hva
  have vb := Lib.hid hvb
  have vc := Lib.hid hvc
  have la0 := Lib.hid (holds_len hva)
  have lb0 := Lib.hid (holds_len hvb)
  clear hva hvb hvc
  go_enter Try.func7, Try.ntmps7
  go_wp2_with fail
  refine (wakes_any w).mono ?_
  rintro e w1 ⟨rfl, hb⟩
  have hb1 := Lib.hid hb
  clear hb
  go_wp2_with fail
  refine (clone_own pa A ca la w1 (holds_below va.out hb1.out (Nat.le_refl _)) (by omega)).mono ?_
  rintro e w2 ⟨q2, c2, rfl, ho, hb⟩
  have hb2 := Lib.hid (hb1.out.trans (hb.mono hb1.out.size))
  have hs2 := Lib.hid hb.size
  have ho2 := Lib.hid ho
  have hvb2 := Lib.hid (holds_below vb.out hb2.out (Nat.le_refl _))
  clear hb ho
  go_wp2_with (at_builtin; refine wpList_append_bytes rfl _ _ rfl rfl rfl ho2.out hvb2.out (by omega) hs2.out ?_; intro q3 c3 w3 ho hg)
  have hb3 := Lib.hid (behind_below hb2.out ho2.out hb1.out.size hg)
  have ho3 := Lib.hid ho
  have ln3 : Hid (la.length + lb.length = A + B) := by show _ = _; rw [← la0.out, ← lb0.out]
  clear ho hg ho2 hvb2 hs2
  refine (read_any q3 (A + B) c3 (la ++ lb) w3 ho3.out.holds.1 (by omega)).mono ?_
  rintro e w4 ⟨r, dr, rfl, hr, hg, hd, hb⟩
  have hb4 := Lib.hid (hb3.out.trans (hb.mono hb3.out.size))
  have hR4 := Lib.hid hr
  have hg4 : Hid (w.heap.size ≤ r) := Nat.le_trans hb3.out.size hg
  clear hr hg hd hb ho3
  go_wp2_with fail
  refine (read_any pb B cb lb w4 (holds_below vb.out hb4.out (Nat.le_refl _)) (by omega)).mono ?_
  rintro e w5 ⟨s, ds, rfl, hr, hg, hd, hb⟩
  have hb5 := Lib.hid (hb4.out.trans (hb.mono hb4.out.size))
  have hR5 := Lib.hid (hR4.out.below hb)
  have hS5 := Lib.hid hr
  have hg5 : Hid (w.heap.size ≤ s) := Nat.le_trans hb4.out.size hg
  have hrs : Hid (Apart r dr s ds) := apart_of hR4.out hg hd
  clear hr hg hd hb hR4
  go_wp2_with fail
  refine (raw_to (raw_any r dr A 0 (la ++ lb) w5 hR5.out) A la lb 0 (rawL_app la0.out) la0.out.symm (nextL_app la0.out) (nextE_app la0.out)).mono ?_
  rintro e w6 ⟨q6, c6, rfl, hq, hg, hr⟩
  have hb6 := Lib.hid (hb5.out.grown hg hb5.out.size (fun k e => by cases e; exact hg4.out))
  have hT6 : Hid (Twins w w6 r dr s ds lb 0) := ⟨hb6.out, hr, hS5.out.keep hg hrs.out.1 hrs.out.2.2⟩
  have hq6 := Lib.hid hq
  clear hr hg hq hR5 hS5
  go_wp2_with fail
  refine (equal_any q6 pa A c6 A ca la la w6 hq6.out (holds_below va.out hb6.out (Nat.le_refl _))).mono ?_
  rintro e w7 ⟨rfl, rfl⟩
  have same1 : (la == la) = true := by rw [beq_iff_eq]
  go_wp2_with fail
  clear same1 hq6 hb6
  go_loopw [43] (fun v43 wr => ∃ (i : Nat) (L : List UInt8) (E : Int), i ≤ K ∧ v43 = .int .i64 i ∧ Hid (Twins w wr r dr s ds L E)) (fun v43 _ => K - (intOf v43).toNat)
  case atStart => exact ⟨0, lb, 0, Nat.zero_le _, rfl, hT6⟩
  case round =>
    obtain ⟨i, L, E, hi, rfl, hT⟩ := hrel
    by_cases hlt : i < K
    · obtain ⟨a, z, rfl, hz, hcell⟩ := ints_at (ints_below vc.out hT.out.below (Nat.le_refl _)) i hlt
      clear hz
      have cases3 : i % 3 = 0 ∨ i % 3 = 1 ∨ i % 3 = 2 := by omega
      rcases cases3 with h3 | h3 | h3
      · have hm : (i : Int) % 3 = 0 := by omega
        clear h3
        go_wp2_with fail
        refine (raw_any r dr z E L wr hT.out.one).mono ?_
        rintro e w8 ⟨q8, c8, rfl, hq, hg, hr⟩
        have t1 := Lib.hid (hT.out.step1 hrs.out hg4.out hg)
        have t2 := Lib.hid hr
        have t3 := Lib.hid hq
        clear hg hr hq
        go_wp2_with fail
        refine (raw_any s ds z E L w8 t1.out.2).mono ?_
        rintro e w9 ⟨q9, c9, rfl, hq, hg, hr⟩
        have hq9 := Lib.hid hq.1
        have hq8 := Lib.hid (new_keep t3.out hT.out.two.lt hg)
        have hT : Hid (Twins w w9 r dr s ds (nextL z L E) (nextE z L E)) := ⟨t1.out.1.grown hg t1.out.1.size (fun k e => by cases e; exact hg5.out), t2.out.keep hg hrs.out.1.symm hrs.out.2.1, hr⟩
        clear hg hr hq t1 t2 t3
        go_wp2_with fail
        refine (equal_any q8 q9 _ c8 _ c9 (rawL z L E) (rawL z L E) w9 hq8.out hq9.out).mono ?_
        rintro e w10 ⟨rfl, rfl⟩
        have same2 : (rawL z L E == rawL z L E) = true := by rw [beq_iff_eq]
        go_wp2_with fail
        clear same2 hq8 hq9
        generalize hL : nextL z L E = L1 at hT
        generalize hE : nextE z L E = E1 at hT
        clear hL hE
        refine (left_any r dr E1 L1 w9 hT.out.one).mono ?_
        rintro e w20 ⟨rfl, rfl⟩
        go_wp2_with fail
        refine (left_any s ds E1 L1 w9 hT.out.two).mono ?_
        rintro e w20 ⟨rfl, rfl⟩
        go_wp2_with fail
        refine (err_any r dr E1 L1 w9 hT.out.one).mono ?_
        rintro e w20 ⟨rfl, rfl⟩
        go_wp2_with fail
        refine (err_any s ds E1 L1 w9 hT.out.two).mono ?_
        rintro e w20 ⟨rfl, rfl⟩
        go_wp2_with fail
        go_roundw
        case rel => exact ⟨i + 1, L1, E1, by omega, by go_num, hT⟩
        case measure => simp [intOf]; omega
      · have hm : (i : Int) % 3 = 1 := by omega
        clear h3
        go_wp2_with fail
        refine (u16_any r dr E L wr hT.out.one).mono ?_
        rintro e w8 ⟨rfl, hg, hr⟩
        have t1 := Lib.hid (hT.out.step1 hrs.out hg4.out hg)
        have t2 := Lib.hid hr
        clear hg hr
        go_wp2_with fail
        refine (u16_any s ds E L w8 t1.out.2).mono ?_
        rintro e w9 ⟨rfl, hg, hr⟩
        have hT : Hid (Twins w w9 r dr s ds (nextL 2 L E) (nextE 2 L E)) := ⟨t1.out.1.grown hg t1.out.1.size (fun k e => by cases e; exact hg5.out), t2.out.keep hg hrs.out.1.symm hrs.out.2.1, hr⟩
        clear hg hr t1 t2
        go_wp2_with fail
        generalize hL : nextL 2 L E = L1 at hT
        generalize hE : nextE 2 L E = E1 at hT
        clear hL hE
        refine (left_any r dr E1 L1 w9 hT.out.one).mono ?_
        rintro e w20 ⟨rfl, rfl⟩
        go_wp2_with fail
        refine (left_any s ds E1 L1 w9 hT.out.two).mono ?_
        rintro e w20 ⟨rfl, rfl⟩
        go_wp2_with fail
        refine (err_any r dr E1 L1 w9 hT.out.one).mono ?_
        rintro e w20 ⟨rfl, rfl⟩
        go_wp2_with fail
        refine (err_any s ds E1 L1 w9 hT.out.two).mono ?_
        rintro e w20 ⟨rfl, rfl⟩
        go_wp2_with fail
        go_roundw
        case rel => exact ⟨i + 1, L1, E1, by omega, by go_num, hT⟩
        case measure => simp [intOf]; omega
      · have hm : (i : Int) % 3 = 2 := by omega
        clear h3
        go_wp2_with fail
        refine (u32_any r dr E L wr hT.out.one).mono ?_
        rintro e w8 ⟨rfl, hg, hr⟩
        have t1 := Lib.hid (hT.out.step1 hrs.out hg4.out hg)
        have t2 := Lib.hid hr
        clear hg hr
        go_wp2_with fail
        refine (u32_any s ds E L w8 t1.out.2).mono ?_
        rintro e w9 ⟨rfl, hg, hr⟩
        have hT : Hid (Twins w w9 r dr s ds (nextL 4 L E) (nextE 4 L E)) := ⟨t1.out.1.grown hg t1.out.1.size (fun k e => by cases e; exact hg5.out), t2.out.keep hg hrs.out.1.symm hrs.out.2.1, hr⟩
        clear hg hr t1 t2
        go_wp2_with fail
        generalize hL0 : nextL 4 L E = L0 at hT
        generalize hE0 : nextE 4 L E = E0 at hT
        clear hL0 hE0
        refine (u8_any r dr E0 L0 w9 hT.out.one).mono ?_
        rintro e w11 ⟨rfl, hg, hr⟩
        have t1 := Lib.hid (hT.out.step1 hrs.out hg4.out hg)
        have t2 := Lib.hid hr
        clear hg hr
        go_wp2_with fail
        refine (u8_any s ds E0 L0 w11 t1.out.2).mono ?_
        rintro e w12 ⟨rfl, hg, hr⟩
        have hT : Hid (Twins w w12 r dr s ds (nextL 1 L0 E0) (nextE 1 L0 E0)) := ⟨t1.out.1.grown hg t1.out.1.size (fun k e => by cases e; exact hg5.out), t2.out.keep hg hrs.out.1.symm hrs.out.2.1, hr⟩
        clear hg hr t1 t2
        go_wp2_with fail
        generalize hL : nextL 1 L0 E0 = L1 at hT
        generalize hE : nextE 1 L0 E0 = E1 at hT
        clear hL hE
        refine (left_any r dr E1 L1 w12 hT.out.one).mono ?_
        rintro e w20 ⟨rfl, rfl⟩
        go_wp2_with fail
        refine (left_any s ds E1 L1 w12 hT.out.two).mono ?_
        rintro e w20 ⟨rfl, rfl⟩
        go_wp2_with fail
        refine (err_any r dr E1 L1 w12 hT.out.one).mono ?_
        rintro e w20 ⟨rfl, rfl⟩
        go_wp2_with fail
        refine (err_any s ds E1 L1 w12 hT.out.two).mono ?_
        rintro e w20 ⟨rfl, rfl⟩
        go_wp2_with fail
        go_roundw
        case rel => exact ⟨i + 1, L1, E1, by omega, by go_num, hT⟩
        case measure => simp [intOf]; omega
    · obtain rfl : i = K := by omega
      go_wp2_with fail
      go_ret
      exact ⟨rfl, hT.out.below⟩

set_option maxHeartbeats 1000000 in
theorem behind_guard (pa pb pc : Option Addr) (A ca B cb K cc : Nat) (w : World) (h : 2000 < A ∨ (A ≤ 2000 ∧ 2000 < B) ∨ (A ≤ 2000 ∧ B ≤ 2000 ∧ 200 < K)) :
    Calls Try.prog 7 #[.slice pa A ca, .slice pb B cb, .slice pc K cc] w (fun e w' => e = .returned (.bool true) ∧ Below w.heap.size w w') := by
  rcases h with h | ⟨h1, h⟩ | ⟨h1, h2, h⟩
  all_goals
    go_enter Try.func7, Try.ntmps7
    go_wp2_with fail
    refine (wakes_any w).mono ?_
    rintro e w1 ⟨rfl, hb⟩
    have hb1 := Lib.hid hb
    clear hb
    go_wp2_with fail
    go_ret
    exact ⟨rfl, hb1.out⟩

theorem behind_lifted (os : Os) (started : os.Started) (H : Type) (enc : TypeId × Value → H) :
    ReturnsInHanded {} Try.checked os 7 .any (Rows.octetBehindSpec.pre6 enc Try.prog Try.f7 Rows.octetBehindRow.domain false) (Rows.octetBehindSpec.post enc Try.prog Try.f7 false true false false) := by
  refine returnsInHanded_of_change (C := Try.checked) own started (by kernel_rfl) Try.func7
    (ChangeSpec.witness6 (enc := enc) (C := Try.checked) false ⟨#[], #[.slice none 0 0, .slice none 0 0, .slice none 0 0], []⟩ 8 (by kernel_rfl) (by kernel_rfl) (by kernel_rfl) (by kernel_rfl)) ?_
  intro W base args ds gs before hval0 hW _ _
  have hval : ∀ (j : Nat) t v, Try.f7.params[j]? = some t → args[j]? = some v → Value.okWide Try.prog W .any base t v := hval0
  have hW' := hW
  obtain ⟨p, q, hA0, hV, rfl, _, _⟩ := hW
  have hA : DataW.TrodAll enc Try.prog W 0 (fun _ => true) true Try.f7.params.toList args.toList ds p := hA0
  rw [Try.params7] at hA hval
  obtain ⟨v0, v1, v2, d0, d1, d2, p0, p1, p2, rfl, rfl, rfl, h0, h1, h2⟩ := trodAll_three hA
  obtain ⟨rfl, rfl⟩ := trodVars_none hV
  obtain ⟨a0, len0, cap0, rfl⟩ := okWide_slice Try.underlying22 (hval 0 22 v0 rfl rfl)
  obtain ⟨a1, len1, cap1, rfl⟩ := okWide_slice Try.underlying22 (hval 1 22 v1 rfl rfl)
  obtain ⟨a2, len2, cap2, rfl⟩ := okWide_slice Try.underlying37 (hval 2 37 v2 rfl rfl)
  obtain ⟨la, hla, _, _⟩ := open_bytes h0
  obtain ⟨lb, hlb, _, _⟩ := open_bytes h1
  obtain ⟨lc, hlc, _, _⟩ := open_nums h2
  have key : Calls Try.prog 7 #[.slice a0 len0 cap0, .slice a1 len1 cap1, .slice a2 len2 cap2] W (fun e w' => e = .returned (.bool true) ∧ Below W.heap.size W w') := by
    by_cases hg : len0 ≤ 2000 ∧ len1 ≤ 2000 ∧ len2 ≤ 200
    · exact behind_ok a0 a1 a2 len0 cap0 len1 cap1 len2 cap2 la lb lc W hla hlb hlc hg.1 hg.2.1 hg.2.2
    · exact behind_guard a0 a1 a2 len0 cap0 len1 cap1 len2 cap2 W (by omega)
  refine key.mono fun e W' ⟨he, hb⟩ => ?_
  subst he
  exact ⟨_, rfl, law_post laidOut (of_decide_eq_true (by kernel_rfl)) rfl (by kernel_rfl) Try.underlying4 hW' ⟨rfl, rfl, rfl⟩ hb⟩

theorem behind_holds : Rows.OctetBehindSaid :=
  OpenClaim.holds_of_wide 7 Try.f7 rfl rfl rfl rfl rfl rfl rfl ⟨rfl, rfl, rfl, rfl, rfl⟩ rfl rfl rfl rfl rfl (by kernel_rfl) Try.func7 (by kernel_rfl)
    (of_decide_eq_true (by kernel_rfl)) (by unfold Func.isWrapper; first | (rw [if_pos (by decide +kernel)]; kernel_rfl) | (rw [if_neg (by decide +kernel)]; exact ⟨rfl, rfl⟩))
    (fun os started H enc _ => behind_lifted os started H enc)

end Go.Proofs.Ytoafcpfadkejnaa
