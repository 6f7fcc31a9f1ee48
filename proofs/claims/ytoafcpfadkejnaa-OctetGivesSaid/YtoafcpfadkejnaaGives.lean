/- OctetGives: for every bytes and every row of asks the law returns true, and its arguments read as they did. No condition. -/
import Derived.Test.YtoafcpfadkejnaaGiveRef
namespace Go.Proofs.Ytoafcpfadkejnaa
open Go.ChangeShapes Go.WideShapes Go.ChangeAt Go.RowKit

theorem Own.base {w : World} {base : Nat} {q : Option Addr} {n c : Nat} {l : List UInt8} (h : Own w base (.slice q n c) l) (hn : 0 < n) : ∃ g, q = some ⟨g, 0, none⟩ := by
  have e := holds_len h.holds.1
  obtain ⟨_, ⟨_, h0⟩ | ⟨g, cap, cur, he, _⟩⟩ := h
  · omega
  · cases he; exact ⟨g, rfl⟩

theorem Own.cell {w : World} {base g n c : Nat} {l : List UInt8} (h : Own w base (.slice (some ⟨g, 0, none⟩) n c) l) (i : Nat) (hi : i < n) :
    ∃ y : UInt8, w.cell? ⟨g, i, none⟩ = some (.int .u8 (y.toNat : Int)) ∧ w.frozen? ⟨g, i, none⟩ = false := by
  have hl := holds_len h.holds.1
  obtain ⟨_, _, he, _, h2⟩ := h.holds.1
  have hlen : i < l.length := by omega
  refine ⟨l[i], ?_, ?_⟩
  · injection he with e1
    have h3 := h2 _ e1.symm i _ (List.getElem?_eq_getElem hlen)
    have hadd : (⟨g, 0, none⟩ : Addr).add i = ⟨g, i, none⟩ := by unfold Addr.add; split <;> simp_all
    rw [hadd] at h3
    exact h3
  · obtain ⟨_, ⟨he, _⟩ | ⟨g', cap, cur, he, _, hh, _⟩⟩ := h
    · cases he
    · cases he
      simp [World.frozen?, hh]

theorem Own.set {w : World} {base g n c : Nat} {l : List UInt8} (h : Own w base (.slice (some ⟨g, 0, none⟩) n c) l) (i : Nat) (y : UInt8) :
    Own (w.setCell ⟨g, i, none⟩ (.int .u8 (y.toNat : Int))) base (.slice (some ⟨g, 0, none⟩) n c) (l.set i y) := by
  obtain ⟨hlen, ⟨he, _⟩ | ⟨g', cap, cur, he, hg, hh, hle, hm, hsz, htk⟩⟩ := h
  · cases he
  · cases he
    have hlt := (Array.getElem?_eq_some_iff.1 hh).1
    have hv : w.heap[g] = .cells cur 5 (0, 0) := (Array.getElem?_eq_some_iff.1 hh).2
    have hnew : (w.setCell ⟨g, i, none⟩ (.int .u8 (y.toNat : Int))).heap[g]? = some (.cells (cur.setIfInBounds i (.int .u8 (y.toNat : Int))) 5 (0, 0)) := by
      show (w.heap.modify g _)[g]? = _
      rw [Array.getElem?_eq_getElem (by simpa using hlt), Array.getElem_modify_self, hv]
      simp
    refine ⟨by rw [length_vals, Nat.mul_one], Or.inr ⟨g, c, _, by rw [List.length_set], hg, hnew, by rw [List.length_set]; exact hle, hm, by simpa using hsz, ?_⟩⟩
    rw [Nat.mul_one] at htk
    rw [List.length_set, Nat.mul_one, Array.toList_setIfInBounds, List.take_set, htk]
    simp [vals, List.map_set]

/-- what the rounds that change what was handed in leave alone -/
structure BumpOwn (w wr : World) (r : Nat) (d : Option Nat) (l : List UInt8) (q : Option Addr) (n c base : Nat) : Prop where
  below : Below w.heap.size w wr
  rdr : Rdr wr r d l 0
  own : ∃ G, Own wr base (.slice q n c) G

theorem BumpOwn.next {w wr : World} {r n c base g i : Nat} {d : Option Nat} {l : List UInt8} (h : BumpOwn w wr r d l (some ⟨g, 0, none⟩) n c base) (h1 : w.heap.size ≤ base) (h2 : g ≠ r) (h3 : d ≠ some g) (y : UInt8) :
    BumpOwn w (wr.setCell ⟨g, i, none⟩ (.int .u8 (y.toNat : Int))) r d l (some ⟨g, 0, none⟩) n c base := by
  obtain ⟨G, hG⟩ := h.own
  have hb : base ≤ g := (hG.holds.2.2 _ rfl).1
  exact ⟨h.below.setCell (p := ⟨g, i, none⟩) (by show _ ≤ g; omega) _, h.rdr.keep (h := g) set_grown h2 h3, ⟨_, hG.set i y⟩⟩

theorem slice_whole22 (p : Option Addr) (n c : Nat) (u : World) :
    (Instr.slice 22 (.slice p n c) (some (.int .i64 0)) none none).run Try.prog u = .ok (.slice p n c) u := by
  have h := slice_tail22 p n c 0 (Nat.zero_le _) u
  have e : tl p c 0 = p := by unfold tl; split; rfl; cases p <;> simp [add_zero]
  rw [e] at h
  exact h

theorem tl_holds {w : World} {p : Option Addr} {N c A k : Nat} {l : List UInt8} (h : Lib.HoldsBytes w (.slice p N c) l) (hc : N ≤ c) (hk : A + k ≤ N) : Lib.HoldsBytes w (.slice (tl p c A) k (c - A)) ((l.drop A).take k) :=
  holds_take (holds_drop h (show A ≤ N by omega) hc) (Below.refl _ _) (by omega)

theorem gOk_yes {k A N : Nat} {l : List UInt8} (hl : N = l.length) (h : A + k ≤ N) : gOk (k : Int) (l.drop A) 0 = true := by
  have : ((l.drop A).length : Int) = (N : Int) - A := by rw [List.length_drop]; omega
  unfold gOk
  rw [this]
  simp
  omega
theorem gOk_no {k : Int} {A N : Nat} {l : List UInt8} (hl : N = l.length) (hA : A ≤ N) (h : k < 0 ∨ (N : Int) < A + k) : gOk k (l.drop A) 0 = false := by
  have : ((l.drop A).length : Int) = (N : Int) - A := by rw [List.length_drop]; omega
  unfold gOk
  rw [this]
  simp
  omega
theorem gOk_stuck {k E : Int} {L : List UInt8} (h : E ≠ 0) : gOk k L E = false := by simp [gOk, h]
theorem numV_no {k E : Int} {L : List UInt8} (h : gOk k L E = false) : numV k L E = 0 := by simp [numV, h]
theorem nextL_no {k E : Int} {L : List UInt8} (h : gOk k L E = false) : nextL k L E = L := by simp [nextL, h]
theorem rawL_no {k E : Int} {L : List UInt8} (h : gOk k L E = false) : rawL k L E = [] := by simp [rawL, h]
theorem nextE_stuck {k E : Int} {L : List UInt8} (h : E ≠ 0) : nextE k L E = E := by simp [nextE, gOk_stuck h, h]
theorem nextE_short {k : Int} {L : List UInt8} (h : gOk k L 0 = false) (hk : 0 ≤ k) : nextE k L 0 = 7 := by
  unfold nextE; rw [h, if_neg (by decide), if_pos rfl, if_neg (by omega)]
theorem nextE_neg {k : Int} {L : List UInt8} (h : gOk k L 0 = false) (hk : k < 0) : nextE k L 0 = 2 := by
  unfold nextE; rw [h, if_neg (by decide), if_pos rfl, if_pos hk]
theorem numV_yes {k : Nat} {L : List UInt8} (h : gOk k L 0 = true) : numV k L 0 = num (L.take k) := by simp [numV, h]
theorem nextL_yes {k : Nat} {L : List UInt8} (h : gOk k L 0 = true) : nextL k L 0 = L.drop k := by simp [nextL, h]
theorem rawL_yes {k : Nat} {L : List UInt8} (h : gOk k L 0 = true) : rawL k L 0 = L.take k := by simp [rawL, h]
theorem nextE_yes {k : Int} {L : List UInt8} (h : gOk k L 0 = true) : nextE k L 0 = 0 := by simp [nextE, h]

theorem gives_to {p : Option Addr} {N c A : Nat} {n v : Int} {w : World} {l : List UInt8} (hl : N = l.length) (hA : A ≤ N) (hN : N ≤ 4000) (hv : nextE n (l.drop A) 0 = v) :
    Calls Try.prog 25 #[.slice p N c, .int .i64 A, .int .i64 n] w (fun e w' => e = .returned (.int .i64 v) ∧ w = w') := by
  have h := refgives p N c A n w (by omega) (by omega) hN
  rw [gives_next hl hA, hv] at h
  exact h

theorem left_to {w : World} {g : Nat} {d : Option Nat} {err v : Int} {l : List UInt8} (h : Rdr w g d l err) (hv : (l.length : Int) = v) :
    Calls Try.prog 27 #[.pointer (some ⟨g, 0, none⟩)] w (fun e w' => e = .returned (.int .i64 v) ∧ w = w') := by
  subst hv; exact left_any g d err l w h

theorem refnumber_to {p : Option Addr} {n c : Nat} {l : List UInt8} {w : World} {v : Int} (hv : Lib.HoldsBytes w (.slice p n c) l) (hn : n ≤ 8) (h : (num l : Int) = v) :
    Calls Try.prog 24 #[.slice p n c] w (fun e w' => e = .returned (.int .u64 v) ∧ w = w') := by
  subst h; exact refnumber p n c l w hv hn

theorem neq_nil (w : World) (a : Option Addr) (n c : Nat) : (binOp .neq 22 (.slice a n c) (.slice none 0 0)).run Try.prog w = .ok (.bool (!a.isNone)) w := run_neq_slice_nil_any w 22 5 a n c 0 0 Try.underlying22

theorem got_drop {w : World} {q : Option Addr} {k c m : Nat} {L : List UInt8} (h : Lib.HoldsBytes w (.slice q k c) L) (hc : k ≤ c) (hm : m = k - 8) (h8 : 8 ≤ k) : Lib.HoldsBytes w (.slice (tl q c m) 8 (c - m)) (L.drop m) := by
  have e : k - m = 8 := by omega
  have h2 := holds_drop h (show m ≤ k by omega) hc
  rw [e] at h2
  exact h2

def RawTo2 (w : World) (g : Nat) (d : Option Nat) (n : Nat) (l rest : List UInt8) (err : Int) (e : Ending) (w' : World) : Prop :=
  ∃ q c, e = .returned (.slice q n c) ∧ Lib.HoldsBytes w' (.slice q n c) l ∧ n ≤ c ∧ w.grownBy w' (some g) ∧ Rdr w' g d rest err

theorem raw_to2 {P : Program} {f : FuncId} {args : Array Value} {k err : Int} {g : Nat} {d : Option Nat} {l : List UInt8} {w : World} (h : Calls P f args w (RawStep w g d k l err)) (n : Nat) (l' rest : List UInt8) (err' : Int)
    (h1 : rawL k l err = l') (h2 : l'.length = n) (h3 : nextL k l err = rest) (h4 : nextE k l err = err') : Calls P f args w (RawTo2 w g d n l' rest err') := by
  subst h1; subst h2; subst h3; subst h4
  refine h.mono fun e w' ⟨q, c, he, hn, hg, hr⟩ => ⟨q, c, he, hn.1, ?_, hg, hr⟩
  cases q with
  | none => obtain ⟨_, _, e1, e2, _⟩ := hn.1; cases e1; rw [e2 rfl]; simp
  | some a => exact (hn.2 a _ _ rfl).2.2

theorem next_drop {w : World} {p : Option Addr} {N c A k m : Nat} {l : List UInt8} (h : Lib.HoldsBytes w (.slice p N c) l) (hc : N ≤ c) (hk : A + k ≤ N) (hm : m = k - 8) (h8 : 8 ≤ k) :
    Lib.HoldsBytes w (.slice (tl (tl p c A) (c - A) m) 8 (c - A - m)) (((l.drop A).take k).drop m) := by
  have h1 := tl_holds h hc hk
  have h2 := holds_drop h1 (show m ≤ k by omega) (by omega)
  have e : k - m = 8 := by omega
  rw [e] at h2
  exact h2

set_option maxHeartbeats 400000 in
theorem u8_nil (w : World) : Calls Try.prog 19 #[.pointer none] w (fun e w' => e = .returned (.int .u8 0) ∧ Below w.heap.size w w') := by
  go_enter Try.func19, Try.ntmps19
  go_wp2_with (go_at_call 33; refine (number_nil 1 w).mono ?_; rintro e w1 ⟨rfl, hb⟩)
  go_ret
  exact ⟨rfl, hb⟩
set_option maxHeartbeats 400000 in
theorem u16_nil (w : World) : Calls Try.prog 20 #[.pointer none] w (fun e w' => e = .returned (.int .u16 0) ∧ Below w.heap.size w w') := by
  go_enter Try.func20, Try.ntmps20
  go_wp2_with (go_at_call 33; refine (number_nil 2 w).mono ?_; rintro e w1 ⟨rfl, hb⟩)
  go_ret
  exact ⟨rfl, hb⟩
set_option maxHeartbeats 400000 in
theorem u32_nil (w : World) : Calls Try.prog 21 #[.pointer none] w (fun e w' => e = .returned (.int .u32 0) ∧ Below w.heap.size w w') := by
  go_enter Try.func21, Try.ntmps21
  go_wp2_with (go_at_call 33; refine (number_nil 4 w).mono ?_; rintro e w1 ⟨rfl, hb⟩)
  go_ret
  exact ⟨rfl, hb⟩
set_option maxHeartbeats 400000 in
theorem u64_nil (w : World) : Calls Try.prog 22 #[.pointer none] w (fun e w' => e = .returned (.int .u64 0) ∧ Below w.heap.size w w') := by
  go_enter Try.func22, Try.ntmps22
  go_wp2_with (go_at_call 33; refine (number_nil 8 w).mono ?_; rintro e w1 ⟨rfl, hb⟩)
  go_ret
  exact ⟨rfl, hb⟩
set_option maxHeartbeats 400000 in
theorem left_nil (w : World) : Calls Try.prog 27 #[.pointer none] w (fun e w' => e = .returned (.int .i64 0) ∧ w = w') := by
  go_enter Try.func27, Try.ntmps27
  go_wp2
  go_ret
  exact ⟨rfl, rfl⟩
set_option maxHeartbeats 400000 in
theorem err_nil (w : World) : Calls Try.prog 26 #[.pointer none] w (fun e w' => e = .returned (.int .i64 1) ∧ w = w') := by
  go_enter Try.func26, Try.ntmps26
  go_wp2
  go_ret
  exact ⟨rfl, rfl⟩

/-- the reader, and what was taken of it -/
structure GRel (w wr : World) (r : Nat) (d : Option Nat) (l : List UInt8) (A : Nat) (E : Int) : Prop where
  below : Below w.heap.size w wr
  rdr : Rdr wr r d (l.drop A) E

theorem GRel.next {w wr w1 : World} {r A B : Nat} {d : Option Nat} {l : List UInt8} {E F : Int} (h : GRel w wr r d l A E) (h1 : w.heap.size ≤ r) (hg : wr.grownBy w1 (some r)) (hr : Rdr w1 r d (l.drop B) F) : GRel w w1 r d l B F :=
  ⟨h.below.grown hg h.below.size (fun k e => by cases e; exact h1), hr⟩

set_option maxRecDepth 100000 in
set_option maxHeartbeats 16000000 in
theorem gives_ok (p pc : Option Addr) (N c K cc : Nat) (l : List UInt8) (lc : List Int) (w : World) (hv : Lib.HoldsBytes w (.slice p N c) l) (hvc : HoldsInts w (.slice pc K cc) lc) (hN : N ≤ 4000) (hNc : N ≤ c) (hK : K ≤ 300) :
    Calls Try.prog 5 #[.slice p N c, .slice pc K cc] w (fun e w' => e = .returned (.bool true) ∧ Below w.heap.size w w') := by
  have va := Lib.hid hv
  have vc := Lib.hid hvc
  have l0 := Lib.hid (holds_len hv)
  clear hv hvc
  go_enter Try.func5, Try.ntmps5
  go_wp2_with fail
  refine (wakes_any w).mono ?_
  rintro e w1 ⟨rfl, hb⟩
  have hb1 := Lib.hid hb
  clear hb
  have ho0 : Hid (Own (w1.alloc (.cells #[] 5)) w1.heap.size (.slice (some ⟨w1.heap.size, 0, none⟩) 0 0) []) := Own.made (n := 0) (Nat.zero_le _)
  have hv1 := Lib.hid (holds_below va.out (hb1.out.alloc hb1.out.size (.cells #[] 5)) (Nat.le_refl _))
  go_wp2_with (at_builtin; refine wpList_append_bytes rfl _ _ rfl rfl rfl ho0.out hv1.out (by omega) (by simp) ?_; intro q c2 w2 ho hg)
  obtain ⟨k1, k2, k3⟩ := own_copy hb1.out ho hg
  have hb2 := Lib.hid k1
  have ho2 := Lib.hid k2
  have hbase : Hid (w.heap.size ≤ w1.heap.size) := hb1.out.size
  clear k1 k2 k3 ho hg ho0 hv1
  go_wp2_with fail
  refine (read_any q N c2 l w2 ho2.out.holds.1 (by omega)).mono ?_
  rintro e w3 ⟨r, d, rfl, hr, hg, hd, hb⟩
  have hb3 := Lib.hid (hb2.out.trans (hb.mono hb2.out.size))
  have hg3 : Hid (w.heap.size ≤ r) := Nat.le_trans hb2.out.size hg
  have hB3 : Hid (BumpOwn w w3 r d l q N c2 w1.heap.size) := ⟨hb3.out, hr, _, ho2.out.below hb⟩
  have hne : Hid (∀ g, q = some ⟨g, 0, none⟩ → g ≠ r ∧ d ≠ some g) := fun g e => by
    have := (ho2.out.holds.2.2 _ e).2
    exact ⟨by show g ≠ r; simp at this; omega, fun e2 => by have := hd g e2; simp at *; omega⟩
  clear hr hg hd hb ho2
  go_wp2_with fail
  go_loopw [33] (fun v33 wr => ∃ i : Nat, i ≤ N ∧ v33 = .int .i64 i ∧ Hid (BumpOwn w wr r d l q N c2 w1.heap.size)) (fun v33 _ => N - (intOf v33).toNat)
  case atStart => exact ⟨0, Nat.zero_le _, rfl, hB3⟩
  case round =>
    obtain ⟨i, hi, rfl, hB⟩ := hrel
    by_cases hlt : i < N
    · obtain ⟨g, rfl⟩ := hB.out.own.choose_spec.base (by omega)
      obtain ⟨y, hcell, hfree⟩ := hB.out.own.choose_spec.cell i hlt
      have hnn := hne.out g rfl
      have hnext := Lib.hid (hB.out.next (i := i) hbase.out hnn.1 hnn.2 (y + 1))
      have e : ((y.toNat : Int) + 1) % 256 = ((y + 1).toNat : Int) := by
        rw [UInt8.toNat_add]; simp
      have e' := Lib.hid e
      clear e hB hnn
      go_wp2
      go_roundw
      case rel => exact ⟨i + 1, by omega, by go_num, by rw [e'.out]; exact hnext.out⟩
      case measure => simp [intOf]; omega
    · obtain rfl : N = i := by omega
      have hG0 : Hid (GRel w wr r d l 0 0) := ⟨hB.out.below, hB.out.rdr⟩
      go_wp2_with fail
      clear hB hne hbase
      go_loopw [8, 9, 45] (fun v8 v9 v45 wr => ∃ (i A : Nat) (E : Int), i ≤ K ∧ v45 = .int .i64 i ∧ v8 = .int .i64 A ∧ v9 = .int .i64 E ∧ A ≤ N ∧ Hid (GRel w wr r d l A E)) (fun _ _ v45 _ => K - (intOf v45).toNat)
      case atStart => exact ⟨0, 0, 0, Nat.zero_le _, by go_num, by go_num, rfl, Nat.zero_le _, hG0⟩
      case round =>
        obtain ⟨i, A, E, hi, rfl, rfl, rfl, hA, hG⟩ := hrel
        by_cases hlt : i < K
        · obtain ⟨a, z, rfl, hz, hcell⟩ := ints_at (ints_below vc.out hG.out.below (Nat.le_refl _)) i hlt
          have hz0 := Lib.hid hz
          clear hz
          rcases (show z = -2 ∨ z = -3 ∨ z = -4 ∨ z = -5 ∨ (z ≠ -2 ∧ z ≠ -3 ∧ z ≠ -4 ∧ z ≠ -5) by omega) with hz2 | hz3 | hz4 | hz5 | hz6
          · subst hz2
            by_cases he : E = 0
            · subst he
              by_cases hk : A + 1 ≤ N
              · have okk := Lib.hid (gOk_yes (k := 1) l0.out hk)
                have s1 : ∀ u, (Instr.slice 22 (.slice p N c) (some (.int .i64 (A : Int))) (some (.int .i64 ((A : Int) + 1))) none).run Try.prog u = .ok (.slice (tl p c A) 1 (c - A)) u := fun u => slice_lh22 p N c A 1 hk hNc u
                have s2 := slice_whole22 (tl p c A) 1 (c - A)
                have nn := neq_nil
                have hmax : max (-7 : Int) 0 = 0 := by decide
                obtain ⟨x, hx⟩ : ∃ x : Int, x = (num ((l.drop A).take 1) : Int) := ⟨_, rfl⟩
                have bx : 0 ≤ x ∧ x < 256 := by
                  have h1 := numV_lt 1 (l.drop A) 0
                  have h2 : numV 1 (l.drop A) 0 = x := by rw [hx]; exact numV_yes okk.out
                  have h3 : numV 1 (l.drop A) 0 = numV ((1 : Nat) : Int) (l.drop A) 0 := rfl
                  rw [← h3, h2] at h1
                  exact h1
                have hx1 := Lib.hid hx
                clear hx
                obtain ⟨bx0, bx1⟩ := bx
                go_wp2_with fail
                refine (step_to (u8_any r d 0 (l.drop A) wr hG.out.rdr) (l.drop (A + 1)) 0 (.int .u8 x) ?_ ?_ ?_).mono ?_
                · exact (nextL_yes okk.out).trans (by rw [List.drop_drop])
                · exact nextE_yes okk.out
                · exact congrArg _ ((numV_yes okk.out).trans hx1.out.symm)
                rintro e w8 ⟨rfl, hg, hr⟩
                have hG2 : Hid (GRel w w8 r d l (A + 1) 0) := hG.out.next hg3.out hg hr
                clear hg hr hG
                go_wp2_with fail
                refine (gives_to (v := 0) l0.out hA hN (nextE_yes okk.out)).mono ?_
                rintro e w9 ⟨rfl, rfl⟩
                go_wp2_with fail
                refine (refnumber_to (v := x) (tl_holds (holds_below va.out hG2.out.below (Nat.le_refl _)) hNc hk) (by decide) hx1.out.symm).mono ?_
                rintro e w9 ⟨rfl, rfl⟩
                go_wp2_with fail
                refine (err_any r d 0 _ w8 hG2.out.rdr).mono ?_
                rintro e w9 ⟨rfl, rfl⟩
                go_wp2_with fail
                refine (left_to (v := (N : Int) - ((A : Int) + 1)) hG2.out.rdr (by have := l0.out; rw [List.length_drop]; omega)).mono ?_
                rintro e w9 ⟨rfl, rfl⟩
                go_wp2_with fail
                go_roundw
                case rel => exact ⟨i + 1, A + 1, 0, by omega, by go_num, by go_num, rfl, by omega, hG2⟩
                case measure => simp [intOf]; omega
              · have okk := Lib.hid (gOk_no (k := 1) l0.out hA (Or.inr (show (N : Int) < A + 1 by omega)))
                go_wp2_with fail
                refine (step_to (u8_any r d 0 (l.drop A) wr hG.out.rdr) (l.drop A) 7 (.int .u8 0) ?_ ?_ ?_).mono ?_
                · exact nextL_no okk.out
                · exact nextE_short okk.out (by decide)
                · exact congrArg _ (numV_no okk.out)
                rintro e w8 ⟨rfl, hg, hr⟩
                have hG2 : Hid (GRel w w8 r d l A 7) := hG.out.next hg3.out hg hr
                clear hg hr hG
                go_wp2_with fail
                refine (gives_to (v := 7) l0.out hA hN (nextE_short okk.out (by decide))).mono ?_
                rintro e w9 ⟨rfl, rfl⟩
                go_wp2_with fail
                refine (err_any r d 7 _ w8 hG2.out.rdr).mono ?_
                rintro e w9 ⟨rfl, rfl⟩
                go_wp2_with fail
                refine (left_to (v := (N : Int) - (A : Int)) hG2.out.rdr (by have := l0.out; rw [List.length_drop]; omega)).mono ?_
                rintro e w9 ⟨rfl, rfl⟩
                go_wp2_with fail
                go_roundw
                case rel => exact ⟨i + 1, A, 7, by omega, by go_num, by go_num, rfl, by omega, hG2⟩
                case measure => simp [intOf]; omega
            · have he1 : (E == 0) = false := by simpa using he
              have he2 : (E != 0) = true := by simpa using he
              have he' := Lib.hid he
              clear he
              go_wp2_with fail
              refine (step_to (u8_any r d E (l.drop A) wr hG.out.rdr) (l.drop A) E (.int .u8 0) ?_ ?_ ?_).mono ?_
              · exact nextL_no (gOk_stuck he'.out)
              · exact nextE_stuck he'.out
              · exact congrArg _ (numV_no (gOk_stuck he'.out))
              rintro e w8 ⟨rfl, hg, hr⟩
              have hG2 : Hid (GRel w w8 r d l A E) := hG.out.next hg3.out hg hr
              clear hg hr hG
              go_wp2_with fail
              refine (err_any r d E _ w8 hG2.out.rdr).mono ?_
              rintro e w9 ⟨rfl, rfl⟩
              go_wp2_with fail
              refine (left_to (v := (N : Int) - (A : Int)) hG2.out.rdr (by have := l0.out; rw [List.length_drop]; omega)).mono ?_
              rintro e w9 ⟨rfl, rfl⟩
              go_wp2_with fail
              go_roundw
              case rel => exact ⟨i + 1, A, E, by omega, by go_num, by go_num, rfl, by omega, hG2⟩
              case measure => simp [intOf]; omega
          · subst hz3
            by_cases he : E = 0
            · subst he
              by_cases hk : A + 2 ≤ N
              · have okk := Lib.hid (gOk_yes (k := 2) l0.out hk)
                have s1 : ∀ u, (Instr.slice 22 (.slice p N c) (some (.int .i64 (A : Int))) (some (.int .i64 ((A : Int) + 2))) none).run Try.prog u = .ok (.slice (tl p c A) 2 (c - A)) u := fun u => slice_lh22 p N c A 2 hk hNc u
                have s2 := slice_whole22 (tl p c A) 2 (c - A)
                have nn := neq_nil
                have hmax : max (-6 : Int) 0 = 0 := by decide
                obtain ⟨x, hx⟩ : ∃ x : Int, x = (num ((l.drop A).take 2) : Int) := ⟨_, rfl⟩
                have bx : 0 ≤ x ∧ x < 65536 := by
                  have h1 := numV_lt 2 (l.drop A) 0
                  have h2 : numV 2 (l.drop A) 0 = x := by rw [hx]; exact numV_yes okk.out
                  have h3 : numV 2 (l.drop A) 0 = numV ((2 : Nat) : Int) (l.drop A) 0 := rfl
                  rw [← h3, h2] at h1
                  exact h1
                have hx1 := Lib.hid hx
                clear hx
                obtain ⟨bx0, bx1⟩ := bx
                go_wp2_with fail
                refine (step_to (u16_any r d 0 (l.drop A) wr hG.out.rdr) (l.drop (A + 2)) 0 (.int .u16 x) ?_ ?_ ?_).mono ?_
                · exact (nextL_yes okk.out).trans (by rw [List.drop_drop])
                · exact nextE_yes okk.out
                · exact congrArg _ ((numV_yes okk.out).trans hx1.out.symm)
                rintro e w8 ⟨rfl, hg, hr⟩
                have hG2 : Hid (GRel w w8 r d l (A + 2) 0) := hG.out.next hg3.out hg hr
                clear hg hr hG
                go_wp2_with fail
                refine (gives_to (v := 0) l0.out hA hN (nextE_yes okk.out)).mono ?_
                rintro e w9 ⟨rfl, rfl⟩
                go_wp2_with fail
                refine (refnumber_to (v := x) (tl_holds (holds_below va.out hG2.out.below (Nat.le_refl _)) hNc hk) (by decide) hx1.out.symm).mono ?_
                rintro e w9 ⟨rfl, rfl⟩
                go_wp2_with fail
                refine (err_any r d 0 _ w8 hG2.out.rdr).mono ?_
                rintro e w9 ⟨rfl, rfl⟩
                go_wp2_with fail
                refine (left_to (v := (N : Int) - ((A : Int) + 2)) hG2.out.rdr (by have := l0.out; rw [List.length_drop]; omega)).mono ?_
                rintro e w9 ⟨rfl, rfl⟩
                go_wp2_with fail
                go_roundw
                case rel => exact ⟨i + 1, A + 2, 0, by omega, by go_num, by go_num, rfl, by omega, hG2⟩
                case measure => simp [intOf]; omega
              · have okk := Lib.hid (gOk_no (k := 2) l0.out hA (Or.inr (show (N : Int) < A + 2 by omega)))
                go_wp2_with fail
                refine (step_to (u16_any r d 0 (l.drop A) wr hG.out.rdr) (l.drop A) 7 (.int .u16 0) ?_ ?_ ?_).mono ?_
                · exact nextL_no okk.out
                · exact nextE_short okk.out (by decide)
                · exact congrArg _ (numV_no okk.out)
                rintro e w8 ⟨rfl, hg, hr⟩
                have hG2 : Hid (GRel w w8 r d l A 7) := hG.out.next hg3.out hg hr
                clear hg hr hG
                go_wp2_with fail
                refine (gives_to (v := 7) l0.out hA hN (nextE_short okk.out (by decide))).mono ?_
                rintro e w9 ⟨rfl, rfl⟩
                go_wp2_with fail
                refine (err_any r d 7 _ w8 hG2.out.rdr).mono ?_
                rintro e w9 ⟨rfl, rfl⟩
                go_wp2_with fail
                refine (left_to (v := (N : Int) - (A : Int)) hG2.out.rdr (by have := l0.out; rw [List.length_drop]; omega)).mono ?_
                rintro e w9 ⟨rfl, rfl⟩
                go_wp2_with fail
                go_roundw
                case rel => exact ⟨i + 1, A, 7, by omega, by go_num, by go_num, rfl, by omega, hG2⟩
                case measure => simp [intOf]; omega
            · have he1 : (E == 0) = false := by simpa using he
              have he2 : (E != 0) = true := by simpa using he
              have he' := Lib.hid he
              clear he
              go_wp2_with fail
              refine (step_to (u16_any r d E (l.drop A) wr hG.out.rdr) (l.drop A) E (.int .u16 0) ?_ ?_ ?_).mono ?_
              · exact nextL_no (gOk_stuck he'.out)
              · exact nextE_stuck he'.out
              · exact congrArg _ (numV_no (gOk_stuck he'.out))
              rintro e w8 ⟨rfl, hg, hr⟩
              have hG2 : Hid (GRel w w8 r d l A E) := hG.out.next hg3.out hg hr
              clear hg hr hG
              go_wp2_with fail
              refine (err_any r d E _ w8 hG2.out.rdr).mono ?_
              rintro e w9 ⟨rfl, rfl⟩
              go_wp2_with fail
              refine (left_to (v := (N : Int) - (A : Int)) hG2.out.rdr (by have := l0.out; rw [List.length_drop]; omega)).mono ?_
              rintro e w9 ⟨rfl, rfl⟩
              go_wp2_with fail
              go_roundw
              case rel => exact ⟨i + 1, A, E, by omega, by go_num, by go_num, rfl, by omega, hG2⟩
              case measure => simp [intOf]; omega
          · subst hz4
            by_cases he : E = 0
            · subst he
              by_cases hk : A + 4 ≤ N
              · have okk := Lib.hid (gOk_yes (k := 4) l0.out hk)
                have s1 : ∀ u, (Instr.slice 22 (.slice p N c) (some (.int .i64 (A : Int))) (some (.int .i64 ((A : Int) + 4))) none).run Try.prog u = .ok (.slice (tl p c A) 4 (c - A)) u := fun u => slice_lh22 p N c A 4 hk hNc u
                have s2 := slice_whole22 (tl p c A) 4 (c - A)
                have nn := neq_nil
                have hmax : max (-4 : Int) 0 = 0 := by decide
                obtain ⟨x, hx⟩ : ∃ x : Int, x = (num ((l.drop A).take 4) : Int) := ⟨_, rfl⟩
                have bx : 0 ≤ x ∧ x < 4294967296 := by
                  have h1 := numV_lt 4 (l.drop A) 0
                  have h2 : numV 4 (l.drop A) 0 = x := by rw [hx]; exact numV_yes okk.out
                  have h3 : numV 4 (l.drop A) 0 = numV ((4 : Nat) : Int) (l.drop A) 0 := rfl
                  rw [← h3, h2] at h1
                  exact h1
                have hx1 := Lib.hid hx
                clear hx
                obtain ⟨bx0, bx1⟩ := bx
                go_wp2_with fail
                refine (step_to (u32_any r d 0 (l.drop A) wr hG.out.rdr) (l.drop (A + 4)) 0 (.int .u32 x) ?_ ?_ ?_).mono ?_
                · exact (nextL_yes okk.out).trans (by rw [List.drop_drop])
                · exact nextE_yes okk.out
                · exact congrArg _ ((numV_yes okk.out).trans hx1.out.symm)
                rintro e w8 ⟨rfl, hg, hr⟩
                have hG2 : Hid (GRel w w8 r d l (A + 4) 0) := hG.out.next hg3.out hg hr
                clear hg hr hG
                go_wp2_with fail
                refine (gives_to (v := 0) l0.out hA hN (nextE_yes okk.out)).mono ?_
                rintro e w9 ⟨rfl, rfl⟩
                go_wp2_with fail
                refine (refnumber_to (v := x) (tl_holds (holds_below va.out hG2.out.below (Nat.le_refl _)) hNc hk) (by decide) hx1.out.symm).mono ?_
                rintro e w9 ⟨rfl, rfl⟩
                go_wp2_with fail
                refine (err_any r d 0 _ w8 hG2.out.rdr).mono ?_
                rintro e w9 ⟨rfl, rfl⟩
                go_wp2_with fail
                refine (left_to (v := (N : Int) - ((A : Int) + 4)) hG2.out.rdr (by have := l0.out; rw [List.length_drop]; omega)).mono ?_
                rintro e w9 ⟨rfl, rfl⟩
                go_wp2_with fail
                go_roundw
                case rel => exact ⟨i + 1, A + 4, 0, by omega, by go_num, by go_num, rfl, by omega, hG2⟩
                case measure => simp [intOf]; omega
              · have okk := Lib.hid (gOk_no (k := 4) l0.out hA (Or.inr (show (N : Int) < A + 4 by omega)))
                go_wp2_with fail
                refine (step_to (u32_any r d 0 (l.drop A) wr hG.out.rdr) (l.drop A) 7 (.int .u32 0) ?_ ?_ ?_).mono ?_
                · exact nextL_no okk.out
                · exact nextE_short okk.out (by decide)
                · exact congrArg _ (numV_no okk.out)
                rintro e w8 ⟨rfl, hg, hr⟩
                have hG2 : Hid (GRel w w8 r d l A 7) := hG.out.next hg3.out hg hr
                clear hg hr hG
                go_wp2_with fail
                refine (gives_to (v := 7) l0.out hA hN (nextE_short okk.out (by decide))).mono ?_
                rintro e w9 ⟨rfl, rfl⟩
                go_wp2_with fail
                refine (err_any r d 7 _ w8 hG2.out.rdr).mono ?_
                rintro e w9 ⟨rfl, rfl⟩
                go_wp2_with fail
                refine (left_to (v := (N : Int) - (A : Int)) hG2.out.rdr (by have := l0.out; rw [List.length_drop]; omega)).mono ?_
                rintro e w9 ⟨rfl, rfl⟩
                go_wp2_with fail
                go_roundw
                case rel => exact ⟨i + 1, A, 7, by omega, by go_num, by go_num, rfl, by omega, hG2⟩
                case measure => simp [intOf]; omega
            · have he1 : (E == 0) = false := by simpa using he
              have he2 : (E != 0) = true := by simpa using he
              have he' := Lib.hid he
              clear he
              go_wp2_with fail
              refine (step_to (u32_any r d E (l.drop A) wr hG.out.rdr) (l.drop A) E (.int .u32 0) ?_ ?_ ?_).mono ?_
              · exact nextL_no (gOk_stuck he'.out)
              · exact nextE_stuck he'.out
              · exact congrArg _ (numV_no (gOk_stuck he'.out))
              rintro e w8 ⟨rfl, hg, hr⟩
              have hG2 : Hid (GRel w w8 r d l A E) := hG.out.next hg3.out hg hr
              clear hg hr hG
              go_wp2_with fail
              refine (err_any r d E _ w8 hG2.out.rdr).mono ?_
              rintro e w9 ⟨rfl, rfl⟩
              go_wp2_with fail
              refine (left_to (v := (N : Int) - (A : Int)) hG2.out.rdr (by have := l0.out; rw [List.length_drop]; omega)).mono ?_
              rintro e w9 ⟨rfl, rfl⟩
              go_wp2_with fail
              go_roundw
              case rel => exact ⟨i + 1, A, E, by omega, by go_num, by go_num, rfl, by omega, hG2⟩
              case measure => simp [intOf]; omega
          · subst hz5
            by_cases he : E = 0
            · subst he
              by_cases hk : A + 8 ≤ N
              · have okk := Lib.hid (gOk_yes (k := 8) l0.out hk)
                have s1 : ∀ u, (Instr.slice 22 (.slice p N c) (some (.int .i64 (A : Int))) (some (.int .i64 ((A : Int) + 8))) none).run Try.prog u = .ok (.slice (tl p c A) 8 (c - A)) u := fun u => slice_lh22 p N c A 8 hk hNc u
                have s2 := slice_whole22 (tl p c A) 8 (c - A)
                have nn := neq_nil
                have hmax : max (0 : Int) 0 = 0 := by decide
                obtain ⟨x, hx⟩ : ∃ x : Int, x = (num ((l.drop A).take 8) : Int) := ⟨_, rfl⟩
                have bx : 0 ≤ x ∧ x < 18446744073709551616 := by
                  have h1 := numV_lt 8 (l.drop A) 0
                  have h2 : numV 8 (l.drop A) 0 = x := by rw [hx]; exact numV_yes okk.out
                  have h3 : numV 8 (l.drop A) 0 = numV ((8 : Nat) : Int) (l.drop A) 0 := rfl
                  rw [← h3, h2] at h1
                  exact h1
                have hx1 := Lib.hid hx
                clear hx
                obtain ⟨bx0, bx1⟩ := bx
                go_wp2_with fail
                refine (step_to (u64_any r d 0 (l.drop A) wr hG.out.rdr) (l.drop (A + 8)) 0 (.int .u64 x) ?_ ?_ ?_).mono ?_
                · exact (nextL_yes okk.out).trans (by rw [List.drop_drop])
                · exact nextE_yes okk.out
                · exact congrArg _ ((numV_yes okk.out).trans hx1.out.symm)
                rintro e w8 ⟨rfl, hg, hr⟩
                have hG2 : Hid (GRel w w8 r d l (A + 8) 0) := hG.out.next hg3.out hg hr
                clear hg hr hG
                go_wp2_with fail
                refine (gives_to (v := 0) l0.out hA hN (nextE_yes okk.out)).mono ?_
                rintro e w9 ⟨rfl, rfl⟩
                go_wp2_with fail
                refine (refnumber_to (v := x) (tl_holds (holds_below va.out hG2.out.below (Nat.le_refl _)) hNc hk) (by decide) hx1.out.symm).mono ?_
                rintro e w9 ⟨rfl, rfl⟩
                go_wp2_with fail
                refine (err_any r d 0 _ w8 hG2.out.rdr).mono ?_
                rintro e w9 ⟨rfl, rfl⟩
                go_wp2_with fail
                refine (left_to (v := (N : Int) - ((A : Int) + 8)) hG2.out.rdr (by have := l0.out; rw [List.length_drop]; omega)).mono ?_
                rintro e w9 ⟨rfl, rfl⟩
                go_wp2_with fail
                go_roundw
                case rel => exact ⟨i + 1, A + 8, 0, by omega, by go_num, by go_num, rfl, by omega, hG2⟩
                case measure => simp [intOf]; omega
              · have okk := Lib.hid (gOk_no (k := 8) l0.out hA (Or.inr (show (N : Int) < A + 8 by omega)))
                go_wp2_with fail
                refine (step_to (u64_any r d 0 (l.drop A) wr hG.out.rdr) (l.drop A) 7 (.int .u64 0) ?_ ?_ ?_).mono ?_
                · exact nextL_no okk.out
                · exact nextE_short okk.out (by decide)
                · exact congrArg _ (numV_no okk.out)
                rintro e w8 ⟨rfl, hg, hr⟩
                have hG2 : Hid (GRel w w8 r d l A 7) := hG.out.next hg3.out hg hr
                clear hg hr hG
                go_wp2_with fail
                refine (gives_to (v := 7) l0.out hA hN (nextE_short okk.out (by decide))).mono ?_
                rintro e w9 ⟨rfl, rfl⟩
                go_wp2_with fail
                refine (err_any r d 7 _ w8 hG2.out.rdr).mono ?_
                rintro e w9 ⟨rfl, rfl⟩
                go_wp2_with fail
                refine (left_to (v := (N : Int) - (A : Int)) hG2.out.rdr (by have := l0.out; rw [List.length_drop]; omega)).mono ?_
                rintro e w9 ⟨rfl, rfl⟩
                go_wp2_with fail
                go_roundw
                case rel => exact ⟨i + 1, A, 7, by omega, by go_num, by go_num, rfl, by omega, hG2⟩
                case measure => simp [intOf]; omega
            · have he1 : (E == 0) = false := by simpa using he
              have he2 : (E != 0) = true := by simpa using he
              have he' := Lib.hid he
              clear he
              go_wp2_with fail
              refine (step_to (u64_any r d E (l.drop A) wr hG.out.rdr) (l.drop A) E (.int .u64 0) ?_ ?_ ?_).mono ?_
              · exact nextL_no (gOk_stuck he'.out)
              · exact nextE_stuck he'.out
              · exact congrArg _ (numV_no (gOk_stuck he'.out))
              rintro e w8 ⟨rfl, hg, hr⟩
              have hG2 : Hid (GRel w w8 r d l A E) := hG.out.next hg3.out hg hr
              clear hg hr hG
              go_wp2_with fail
              refine (err_any r d E _ w8 hG2.out.rdr).mono ?_
              rintro e w9 ⟨rfl, rfl⟩
              go_wp2_with fail
              refine (left_to (v := (N : Int) - (A : Int)) hG2.out.rdr (by have := l0.out; rw [List.length_drop]; omega)).mono ?_
              rintro e w9 ⟨rfl, rfl⟩
              go_wp2_with fail
              go_roundw
              case rel => exact ⟨i + 1, A, E, by omega, by go_num, by go_num, rfl, by omega, hG2⟩
              case measure => simp [intOf]; omega
          · obtain ⟨z1, z2, z3, z4⟩ := hz6
            have y1 : (z == -2) = false := by simpa using z1
            have y2 : (z == -3) = false := by simpa using z2
            have y3 : (z == -4) = false := by simpa using z3
            have y4 : (z == -5) = false := by simpa using z4
            have hmax : max (-8 : Int) 0 = 0 := by decide
            have nn := neq_nil
            clear z1 z2 z3 z4
            by_cases he : E = 0
            · subst he
              by_cases hneg : z < 0
              · have okk := Lib.hid (gOk_no (k := z) l0.out hA (Or.inl hneg))
                have s3 : ∀ q c u, (Instr.slice 22 (.slice q 0 c) (some (.int .i64 0)) none none).run Try.prog u = .ok (.slice q 0 c) u := fun q c u => slice_whole22 q 0 c u
                go_wp2_with fail
                refine (raw_to2 (raw_any r d z 0 (l.drop A) wr hG.out.rdr) 0 [] (l.drop A) 2 ?_ ?_ ?_ ?_).mono ?_
                · exact rawL_no okk.out
                · rfl
                · exact nextL_no okk.out
                · exact nextE_neg okk.out hneg
                rintro e w8 ⟨qq, cq, rfl, hq, hqc, hg, hr⟩
                have hG2 : Hid (GRel w w8 r d l A 2) := hG.out.next hg3.out hg hr
                have hq2 := Lib.hid hq
                clear hg hr hG hq
                go_wp2_with fail
                refine (refnumber_to (v := 0) (l := []) hq2.out (by decide) rfl).mono ?_
                rintro e w9 ⟨rfl, rfl⟩
                go_wp2_with fail
                refine (gives_to (v := 2) l0.out hA hN (nextE_neg okk.out hneg)).mono ?_
                rintro e w9 ⟨rfl, rfl⟩
                go_wp2_with fail
                refine (err_any r d 2 _ w8 hG2.out.rdr).mono ?_
                rintro e w9 ⟨rfl, rfl⟩
                go_wp2_with fail
                refine (left_to (v := (N : Int) - (A : Int)) hG2.out.rdr (by have := l0.out; rw [List.length_drop]; omega)).mono ?_
                rintro e w9 ⟨rfl, rfl⟩
                go_wp2_with fail
                go_roundw
                case rel => exact ⟨i + 1, A, 2, by omega, by go_num, by go_num, rfl, by omega, hG2⟩
                case measure => simp [intOf]; omega
              · by_cases hk0 : (A : Int) + z ≤ N
                · by_cases hk8' : z ≤ 8
                  · obtain ⟨k, rfl⟩ : ∃ k : Nat, z = k := ⟨z.toNat, by omega⟩
                    have hk : A + k ≤ N := by omega
                    have okk := Lib.hid (gOk_yes (k := k) l0.out hk)
                    have s1 := fun u => slice_lh22 p N c A k hk hNc u
                    have hmx : max ((k : Int) - 8) 0 = 0 := by omega
                    have s2 := slice_whole22 (tl p c A) k (c - A)
                    have s3 := fun q c u => slice_whole22 q k c u
                    obtain ⟨x, hx⟩ : ∃ x : Int, x = (num ((l.drop A).take k) : Int) := ⟨_, rfl⟩
                    have hx1 := Lib.hid hx
                    clear hx
                    have hk8 : k ≤ 8 := by omega
                    have lk : Hid (((l.drop A).take k).length = k) := by
                      have := l0.out
                      show _ = _
                      rw [List.length_take, List.length_drop]; omega
                    go_wp2_with fail
                    refine (raw_to2 (raw_any r d k 0 (l.drop A) wr hG.out.rdr) k ((l.drop A).take k) (l.drop (A + k)) 0 ?_ ?_ ?_ ?_).mono ?_
                    · exact rawL_yes okk.out
                    · exact lk.out
                    · exact (nextL_yes okk.out).trans (by rw [List.drop_drop])
                    · exact nextE_yes okk.out
                    rintro e w8 ⟨qq, cq, rfl, hq, hqc, hg, hr⟩
                    have hG2 : Hid (GRel w w8 r d l (A + k) 0) := hG.out.next hg3.out hg hr
                    have hq2 := Lib.hid hq
                    clear hg hr hG hq
                    go_wp2_with fail
                    refine (refnumber_to (v := x) (l := (l.drop A).take k) hq2.out hk8 hx1.out.symm).mono ?_
                    rintro e w9 ⟨rfl, rfl⟩
                    go_wp2_with fail
                    refine (gives_to (v := 0) l0.out hA hN (nextE_yes okk.out)).mono ?_
                    rintro e w9 ⟨rfl, rfl⟩
                    go_wp2_with fail
                    refine (refnumber_to (v := x) (tl_holds (holds_below va.out hG2.out.below (Nat.le_refl _)) hNc hk) hk8 hx1.out.symm).mono ?_
                    rintro e w9 ⟨rfl, rfl⟩
                    cases qq with
                    | none =>
                      go_wp2_with fail
                      refine (err_any r d 0 _ w8 hG2.out.rdr).mono ?_
                      rintro e w9 ⟨rfl, rfl⟩
                      go_wp2_with fail
                      refine (left_to (v := (N : Int) - ((A : Int) + k)) hG2.out.rdr (by have := l0.out; rw [List.length_drop]; omega)).mono ?_
                      rintro e w9 ⟨rfl, rfl⟩
                      go_wp2_with fail
                      go_roundw
                      case rel => exact ⟨i + 1, A + k, 0, by omega, by go_num, by go_num, rfl, by omega, hG2⟩
                      case measure => simp [intOf]; omega
                    | some qa =>
                      go_wp2_with fail
                      refine (same_below (some qa) (tl p c A) k cq k (c - A) ((l.drop A).take k) ((l.drop A).take k) w8 hq2.out (tl_holds (holds_below va.out hG2.out.below (Nat.le_refl _)) hNc hk) (by omega)).mono ?_
                      rintro e w10 ⟨rfl, hb⟩
                      have hG3 : Hid (GRel w w10 r d l (A + k) 0) := ⟨hG2.out.below.trans (hb.mono hG2.out.below.size), hG2.out.rdr.below hb⟩
                      have same1 : ((l.drop A).take k == (l.drop A).take k) = true := by rw [beq_iff_eq]
                      clear hG2 hb
                      have hG2 := hG3
                      clear hG3
                      go_wp2_with fail
                      clear same1
                      refine (err_any r d 0 _ w10 hG2.out.rdr).mono ?_
                      rintro e w9 ⟨rfl, rfl⟩
                      go_wp2_with fail
                      refine (left_to (v := (N : Int) - ((A : Int) + k)) hG2.out.rdr (by have := l0.out; rw [List.length_drop]; omega)).mono ?_
                      rintro e w9 ⟨rfl, rfl⟩
                      go_wp2_with fail
                      go_roundw
                      case rel => exact ⟨i + 1, A + k, 0, by omega, by go_num, by go_num, rfl, by omega, hG2⟩
                      case measure => simp [intOf]; omega
                  · obtain ⟨k, rfl⟩ : ∃ k : Nat, z = k := ⟨z.toNat, by omega⟩
                    have hk : A + k ≤ N := by omega
                    have okk := Lib.hid (gOk_yes (k := k) l0.out hk)
                    have s1 := fun u => slice_lh22 p N c A k hk hNc u
                    have hmx : max ((k : Int) - 8) 0 = ((k - 8 : Nat) : Int) := by omega
                    obtain ⟨m, hm⟩ : ∃ m : Nat, m = k - 8 := ⟨_, rfl⟩
                    rw [← hm] at hmx
                    have hm1 := Lib.hid hm
                    have hmk : m ≤ k := by omega
                    have hk8 : k - m = 8 := by omega
                    have s2 := fun u => slice_tail22 (tl p c A) k (c - A) m hmk u
                    have s3 := fun q c u => slice_tail22 q k c m hmk u
                    rw [hk8] at s2 s3
                    clear hm hk8
                    obtain ⟨x, hx⟩ : ∃ x : Int, x = (num (((l.drop A).take k).drop m) : Int) := ⟨_, rfl⟩
                    have hx1 := Lib.hid hx
                    clear hx
                    have lk : Hid (((l.drop A).take k).length = k) := by
                      have := l0.out
                      show _ = _
                      rw [List.length_take, List.length_drop]; omega
                    go_wp2_with fail
                    refine (raw_to2 (raw_any r d k 0 (l.drop A) wr hG.out.rdr) k ((l.drop A).take k) (l.drop (A + k)) 0 ?_ ?_ ?_ ?_).mono ?_
                    · exact rawL_yes okk.out
                    · exact lk.out
                    · exact (nextL_yes okk.out).trans (by rw [List.drop_drop])
                    · exact nextE_yes okk.out
                    rintro e w8 ⟨qq, cq, rfl, hq, hqc, hg, hr⟩
                    have hG2 : Hid (GRel w w8 r d l (A + k) 0) := hG.out.next hg3.out hg hr
                    have hq2 := Lib.hid hq
                    clear hg hr hG hq
                    go_wp2_with fail
                    refine (refnumber_to (v := x) (l := ((l.drop A).take k).drop m) (got_drop hq2.out hqc hm1.out (by omega)) (by decide) hx1.out.symm).mono ?_
                    rintro e w9 ⟨rfl, rfl⟩
                    go_wp2_with fail
                    refine (gives_to (v := 0) l0.out hA hN (nextE_yes okk.out)).mono ?_
                    rintro e w9 ⟨rfl, rfl⟩
                    go_wp2_with fail
                    refine (refnumber_to (v := x) (l := ((l.drop A).take k).drop m) (next_drop (holds_below va.out hG2.out.below (Nat.le_refl _)) hNc hk hm1.out (by omega)) (by decide) hx1.out.symm).mono ?_
                    rintro e w9 ⟨rfl, rfl⟩
                    cases qq with
                    | none =>
                      go_wp2_with fail
                      refine (err_any r d 0 _ w8 hG2.out.rdr).mono ?_
                      rintro e w9 ⟨rfl, rfl⟩
                      go_wp2_with fail
                      refine (left_to (v := (N : Int) - ((A : Int) + k)) hG2.out.rdr (by have := l0.out; rw [List.length_drop]; omega)).mono ?_
                      rintro e w9 ⟨rfl, rfl⟩
                      go_wp2_with fail
                      go_roundw
                      case rel => exact ⟨i + 1, A + k, 0, by omega, by go_num, by go_num, rfl, by omega, hG2⟩
                      case measure => simp [intOf]; omega
                    | some qa =>
                      go_wp2_with fail
                      refine (same_below (some qa) (tl p c A) k cq k (c - A) ((l.drop A).take k) ((l.drop A).take k) w8 hq2.out (tl_holds (holds_below va.out hG2.out.below (Nat.le_refl _)) hNc hk) (by omega)).mono ?_
                      rintro e w10 ⟨rfl, hb⟩
                      have hG3 : Hid (GRel w w10 r d l (A + k) 0) := ⟨hG2.out.below.trans (hb.mono hG2.out.below.size), hG2.out.rdr.below hb⟩
                      have same1 : ((l.drop A).take k == (l.drop A).take k) = true := by rw [beq_iff_eq]
                      clear hG2 hb
                      have hG2 := hG3
                      clear hG3
                      go_wp2_with fail
                      clear same1
                      refine (err_any r d 0 _ w10 hG2.out.rdr).mono ?_
                      rintro e w9 ⟨rfl, rfl⟩
                      go_wp2_with fail
                      refine (left_to (v := (N : Int) - ((A : Int) + k)) hG2.out.rdr (by have := l0.out; rw [List.length_drop]; omega)).mono ?_
                      rintro e w9 ⟨rfl, rfl⟩
                      go_wp2_with fail
                      go_roundw
                      case rel => exact ⟨i + 1, A + k, 0, by omega, by go_num, by go_num, rfl, by omega, hG2⟩
                      case measure => simp [intOf]; omega
                · have okk := Lib.hid (gOk_no (k := z) l0.out hA (Or.inr (by omega)))
                  have s3 : ∀ q c u, (Instr.slice 22 (.slice q 0 c) (some (.int .i64 0)) none none).run Try.prog u = .ok (.slice q 0 c) u := fun q c u => slice_whole22 q 0 c u
                  go_wp2_with fail
                  refine (raw_to2 (raw_any r d z 0 (l.drop A) wr hG.out.rdr) 0 [] (l.drop A) 7 ?_ ?_ ?_ ?_).mono ?_
                  · exact rawL_no okk.out
                  · rfl
                  · exact nextL_no okk.out
                  · exact nextE_short okk.out (by omega)
                  rintro e w8 ⟨qq, cq, rfl, hq, hqc, hg, hr⟩
                  have hG2 : Hid (GRel w w8 r d l A 7) := hG.out.next hg3.out hg hr
                  have hq2 := Lib.hid hq
                  clear hg hr hG hq
                  go_wp2_with fail
                  refine (refnumber_to (v := 0) (l := []) hq2.out (by decide) rfl).mono ?_
                  rintro e w9 ⟨rfl, rfl⟩
                  go_wp2_with fail
                  refine (gives_to (v := 7) l0.out hA hN (nextE_short okk.out (by omega))).mono ?_
                  rintro e w9 ⟨rfl, rfl⟩
                  go_wp2_with fail
                  refine (err_any r d 7 _ w8 hG2.out.rdr).mono ?_
                  rintro e w9 ⟨rfl, rfl⟩
                  go_wp2_with fail
                  refine (left_to (v := (N : Int) - (A : Int)) hG2.out.rdr (by have := l0.out; rw [List.length_drop]; omega)).mono ?_
                  rintro e w9 ⟨rfl, rfl⟩
                  go_wp2_with fail
                  go_roundw
                  case rel => exact ⟨i + 1, A, 7, by omega, by go_num, by go_num, rfl, by omega, hG2⟩
                  case measure => simp [intOf]; omega
            · have he1 : (E == 0) = false := by simpa using he
              have he2 : (E != 0) = true := by simpa using he
              have he' := Lib.hid he
              clear he
              have s3 : ∀ q c u, (Instr.slice 22 (.slice q 0 c) (some (.int .i64 0)) none none).run Try.prog u = .ok (.slice q 0 c) u := fun q c u => slice_whole22 q 0 c u
              go_wp2_with fail
              refine (raw_to2 (raw_any r d z E (l.drop A) wr hG.out.rdr) 0 [] (l.drop A) E ?_ ?_ ?_ ?_).mono ?_
              · exact rawL_no (gOk_stuck he'.out)
              · rfl
              · exact nextL_no (gOk_stuck he'.out)
              · exact nextE_stuck he'.out
              rintro e w8 ⟨qq, cq, rfl, hq, hqc, hg, hr⟩
              have hG2 : Hid (GRel w w8 r d l A E) := hG.out.next hg3.out hg hr
              have hq2 := Lib.hid hq
              clear hg hr hG hq
              go_wp2_with fail
              refine (refnumber_to (v := 0) (l := []) hq2.out (by decide) rfl).mono ?_
              rintro e w9 ⟨rfl, rfl⟩
              go_wp2_with fail
              refine (err_any r d E _ w8 hG2.out.rdr).mono ?_
              rintro e w9 ⟨rfl, rfl⟩
              go_wp2_with fail
              refine (left_to (v := (N : Int) - (A : Int)) hG2.out.rdr (by have := l0.out; rw [List.length_drop]; omega)).mono ?_
              rintro e w9 ⟨rfl, rfl⟩
              go_wp2_with fail
              go_roundw
              case rel => exact ⟨i + 1, A, E, by omega, by go_num, by go_num, rfl, by omega, hG2⟩
              case measure => simp [intOf]; omega
        · have hb := Lib.hid hG.out.below
          clear hG
          go_wp2_with fail
          refine (u8_nil wr).mono ?_
          rintro e w8 ⟨rfl, hb8⟩
          have hb0 := Lib.hid (hb.out.trans (hb8.mono hb.out.size))
          clear hb hb8
          have hb := hb0
          clear hb0
          go_wp2_with fail
          refine (u16_nil w8).mono ?_
          rintro e w9 ⟨rfl, hb8⟩
          have hb0 := Lib.hid (hb.out.trans (hb8.mono hb.out.size))
          clear hb hb8
          have hb := hb0
          clear hb0
          go_wp2_with fail
          refine (u32_nil w9).mono ?_
          rintro e w10 ⟨rfl, hb8⟩
          have hb0 := Lib.hid (hb.out.trans (hb8.mono hb.out.size))
          clear hb hb8
          have hb := hb0
          clear hb0
          go_wp2_with fail
          refine (u64_nil w10).mono ?_
          rintro e w11 ⟨rfl, hb8⟩
          have hb0 := Lib.hid (hb.out.trans (hb8.mono hb.out.size))
          clear hb hb8
          have hb := hb0
          clear hb0
          go_wp2_with fail
          refine (raw_nil 1 w11).mono ?_
          rintro e w12 ⟨rfl, hb8⟩
          have hb0 := Lib.hid (hb.out.trans (hb8.mono hb.out.size))
          clear hb hb8
          have hb := hb0
          clear hb0
          go_wp2_with fail
          refine (left_nil w12).mono ?_
          rintro e w13 ⟨rfl, rfl⟩
          go_wp2_with fail
          refine (err_nil w12).mono ?_
          rintro e w13 ⟨rfl, rfl⟩
          go_wp2_with fail
          go_ret
          exact ⟨rfl, hb.out⟩

set_option maxRecDepth 100000 in
set_option maxHeartbeats 1000000 in
theorem gives_guard (p pc : Option Addr) (N c K cc : Nat) (w : World) (h : 4000 < N ∨ (N ≤ 4000 ∧ 300 < K)) :
    Calls Try.prog 5 #[.slice p N c, .slice pc K cc] w (fun e w' => e = .returned (.bool true) ∧ Below w.heap.size w w') := by
  rcases h with h | ⟨h1, h⟩
  all_goals
    go_enter Try.func5, Try.ntmps5
    go_wp2_with fail
    refine (wakes_any w).mono ?_
    rintro e w1 ⟨rfl, hb⟩
    have hb1 := Lib.hid hb
    clear hb
    go_wp2_with fail
    go_ret
    exact ⟨rfl, hb1.out⟩

theorem gives_lifted (os : Os) (started : os.Started) (H : Type) (enc : TypeId × Value → H) :
    ReturnsInHanded {} Try.checked os 5 .any (Rows.octetGivesSpec.pre6 enc Try.prog Try.f5 Rows.octetGivesRow.domain false) (Rows.octetGivesSpec.post enc Try.prog Try.f5 false true false false) := by
  refine returnsInHanded_of_change (C := Try.checked) own started (by kernel_rfl) Try.func5
    (ChangeSpec.witness6 (enc := enc) (C := Try.checked) false ⟨#[], #[.slice none 0 0, .slice none 0 0], []⟩ 8 (by kernel_rfl) (by kernel_rfl) (by kernel_rfl) (by kernel_rfl)) ?_
  intro W base args ds gs before hval0 hW _ _
  have hval : ∀ (j : Nat) t v, Try.f5.params[j]? = some t → args[j]? = some v → Value.okWide Try.prog W .any base t v := hval0
  have hW' := hW
  obtain ⟨p, q, hA0, hV, rfl, _, _⟩ := hW
  have hA : DataW.TrodAll enc Try.prog W 0 (fun _ => true) true Try.f5.params.toList args.toList ds p := hA0
  rw [Try.params5] at hA hval
  obtain ⟨v0, v1, d0, d1, p0, p1, rfl, rfl, rfl, h0, h1⟩ := trodAll_two hA
  obtain ⟨rfl, rfl⟩ := trodVars_none hV
  obtain ⟨a0, len0, cap0, rfl⟩ := okWide_slice Try.underlying22 (hval 0 22 v0 rfl rfl)
  obtain ⟨a1, len1, cap1, rfl⟩ := okWide_slice Try.underlying37 (hval 1 37 v1 rfl rfl)
  obtain ⟨la, hla, _, hc0⟩ := open_bytes h0
  obtain ⟨lc, hlc, _, _⟩ := open_nums h1
  have key : Calls Try.prog 5 #[.slice a0 len0 cap0, .slice a1 len1 cap1] W (fun e w' => e = .returned (.bool true) ∧ Below W.heap.size W w') := by
    by_cases hg : len0 ≤ 4000 ∧ len1 ≤ 300
    · exact gives_ok a0 a1 len0 cap0 len1 cap1 la lc W hla hlc hg.1 hc0 hg.2
    · exact gives_guard a0 a1 len0 cap0 len1 cap1 W (by omega)
  refine key.mono fun e W' ⟨he, hb⟩ => ?_
  subst he
  exact ⟨_, rfl, law_post laidOut (of_decide_eq_true (by kernel_rfl)) rfl (by kernel_rfl) Try.underlying4 hW' ⟨rfl, rfl, rfl⟩ hb⟩

theorem gives_holds : Rows.OctetGivesSaid :=
  OpenClaim.holds_of_wide 5 Try.f5 rfl rfl rfl rfl rfl rfl rfl ⟨rfl, rfl, rfl, rfl, rfl⟩ rfl rfl rfl rfl rfl (by kernel_rfl) Try.func5 (by kernel_rfl)
    (of_decide_eq_true (by kernel_rfl)) (by unfold Func.isWrapper; first | (rw [if_pos (by decide +kernel)]; kernel_rfl) | (rw [if_neg (by decide +kernel)]; exact ⟨rfl, rfl⟩))
    (fun os started H enc _ => gives_lifted os started H enc)

end Go.Proofs.Ytoafcpfadkejnaa
