/- OctetHalves: for every bytes and every number of 64 bits the law returns true, and its arguments read as they did. No condition. -/
import Derived.Test.YtoafcpfadkejnaaRises
namespace Go.Proofs.Ytoafcpfadkejnaa
open Go.ChangeShapes Go.WideShapes Go.ChangeAt Go.RowKit

theorem be_add : ∀ (j k x : Nat), be (j + k) x = be j (x / 256 ^ k) ++ be k x
  | j, 0, x => by simp [be]
  | j, k + 1, x => by
    rw [← Nat.add_assoc, be, be_add j k, be, List.append_assoc, Nat.div_div_eq_div_mul, Nat.pow_succ']

theorem Row.below {T : TypeId} {w w' : World} {g : Nat} {l : List UInt8} (h : Row T w g l) (hb : Below w.heap.size w w') : Row T w' g l := h.block (hb.block _ h.lt)

theorem Row.hold {T : TypeId} {w : World} {g n : Nat} {l : List UInt8} (h : Row T w g l) (hn : l.length = n) (c : Nat) : Lib.HoldsBytes w (.slice (some ⟨g, 0, none⟩) n c) l := by
  subst hn; exact h.holds c

def RawTo (w : World) (g : Nat) (d : Option Nat) (n : Nat) (l rest : List UInt8) (err : Int) (e : Ending) (w' : World) : Prop :=
  ∃ q c, e = .returned (.slice q n c) ∧ Lib.HoldsBytes w' (.slice q n c) l ∧ w.grownBy w' (some g) ∧ Rdr w' g d rest err

theorem raw_to {P : Program} {f : FuncId} {args : Array Value} {k err : Int} {g : Nat} {d : Option Nat} {l : List UInt8} {w : World} (h : Calls P f args w (RawStep w g d k l err)) (n : Nat) (l' rest : List UInt8) (err' : Int)
    (h1 : rawL k l err = l') (h2 : l'.length = n) (h3 : nextL k l err = rest) (h4 : nextE k l err = err') : Calls P f args w (RawTo w g d n l' rest err') := by
  subst h1; subst h2; subst h3; subst h4
  exact h.mono fun e w' ⟨q, c, he, hn, hg, hr⟩ => ⟨q, c, he, hn.1, hg, hr⟩

theorem gOk_app {n : Nat} {l m : List UInt8} (h : n = l.length) : gOk n (l ++ m) 0 = true := by simp [gOk]; omega
theorem rawL_app {n : Nat} {l m : List UInt8} (h : n = l.length) : rawL n (l ++ m) 0 = l := by subst h; simp [rawL, gOk_app rfl]
theorem nextL_app {n : Nat} {l m : List UInt8} (h : n = l.length) : nextL n (l ++ m) 0 = m := by subst h; simp [nextL, gOk_app rfl]
theorem nextE_app {n : Nat} {l m : List UInt8} (h : n = l.length) : nextE n (l ++ m) 0 = 0 := by simp [nextE, gOk_app h]
theorem numV_app {n : Nat} {l m : List UInt8} (h : n = l.length) : numV n (l ++ m) 0 = num l := by subst h; simp [numV, gOk_app rfl]

/-- two readers whose memory is apart -/
def Apart (r : Nat) (dr : Option Nat) (s : Nat) (ds : Option Nat) : Prop := r ≠ s ∧ dr ≠ some s ∧ ds ≠ some r

theorem apart_of {w : World} {r s : Nat} {dr ds : Option Nat} {l : List UInt8} {err : Int} (h : Rdr w r dr l err) (hg : w.heap.size ≤ s) (hd : ∀ x, ds = some x → w.heap.size ≤ x) : Apart r dr s ds := by
  obtain ⟨p, n, c, hr, _, _, _, _, _, hx⟩ := h
  have := hr.lt
  refine ⟨by omega, fun e => ?_, fun e => ?_⟩
  · have := hx s e; omega
  · have := hd r e; omega

theorem or_halves (x : Int) (hx : 0 ≤ x) (hx1 : x < 18446744073709551616) : (bits .or .u64 (x / 4294967296 * 4294967296) (x % 4294967296) == x) = true := by
  obtain ⟨X, rfl⟩ := Int.eq_ofNat_of_zero_le hx
  have h1 : X / 4294967296 * 4294967296 < 18446744073709551616 := by omega
  have h2 : X % 4294967296 < 18446744073709551616 := by omega
  have e1 : (X : Int) / 4294967296 * 4294967296 = ((X / 4294967296 * 4294967296 : Nat) : Int) := by omega
  have e2 : (X : Int) % 4294967296 = ((X % 4294967296 : Nat) : Int) := by omega
  rw [beq_iff_eq, e1, e2, u64_or_nat _ _ h1 h2]
  have h := Nat.shiftLeft_add_eq_or_of_lt (i := 32) (b := X % 4294967296) (Nat.mod_lt _ (by decide)) (X / 4294967296)
  rw [Nat.shiftLeft_eq, show (2 : Nat) ^ 32 = 4294967296 from rfl] at h
  rw [← h]
  omega

set_option maxHeartbeats 1000000 in
theorem halves_any (p : Option Addr) (n c : Nat) (x : Int) (l : List UInt8) (w : World) (hv : Lib.HoldsBytes w (.slice p n c) l) (hn : n ≤ 4000) (hx : 0 ≤ x) (hx1 : x < 18446744073709551616) :
    Calls Try.prog 6 #[.slice p n c, .int .u64 x] w (fun e w' => e = .returned (.bool true) ∧ Below w.heap.size w w') := by
  have hv0 := Lib.hid hv
  have hlen := Lib.hid (holds_len hv)
  clear hv
  go_enter Try.func6, Try.ntmps6
  go_wp2_with fail
  refine (wakes_any w).mono ?_
  rintro e w1 ⟨rfl, hb⟩
  have hb1 := Lib.hid hb
  have hv1 := Lib.hid (holds_below hv0.out hb (Nat.le_refl _))
  clear hb
  go_wp2_with fail
  refine (put64 p n c x l w1 hv1.out (by omega) hx).mono ?_
  rintro e w2 ⟨rfl, hrow, hb⟩
  have hb2 := Lib.hid (hb1.out.trans (hb.mono hb1.out.size))
  have hv2 := Lib.hid (holds_below hv1.out hb (Nat.le_refl _))
  have hA2 := Lib.hid hrow
  clear hrow hb
  have hh : 0 ≤ x / 4294967296 ∧ x / 4294967296 < 4294967296 := by omega
  have hl : 0 ≤ x % 4294967296 ∧ x % 4294967296 < 4294967296 := by omega
  go_wp2_with fail
  refine (put32 p n c (x / 4294967296) l w2 hv2.out (by omega) hh.1 hh.2).mono ?_
  rintro e w3 ⟨rfl, hrow, hb⟩
  have hb3 := Lib.hid (hb2.out.trans (hb.mono hb2.out.size))
  have hv3 := Lib.hid (holds_below hv2.out hb (Nat.le_refl _))
  have hA3 := Lib.hid (hA2.out.below hb)
  have hB3 := Lib.hid (hrow.hold (n := n + 4) (by rw [List.length_append, length_be, hlen.out]) (n + 4))
  clear hrow hb hA2 hv2
  go_wp2_with fail
  refine (put32 (some ⟨w2.heap.size, 0, none⟩) (n + 4) (n + 4) (x % 4294967296) (l ++ be 4 (x / 4294967296).toNat) w3 hB3.out (by omega) hl.1 hl.2).mono ?_
  rintro e w4 ⟨rfl, hrow, hb⟩
  have hb4 := Lib.hid (hb3.out.trans (hb.mono hb3.out.size))
  have hv4 := Lib.hid (holds_below hv3.out hb (Nat.le_refl _))
  have hn4 : Hid ((l ++ be 8 x.toNat).length = n + 8) := by show _ = _; rw [List.length_append, length_be, hlen.out]
  have hA4 := Lib.hid ((hA3.out.below hb).hold hn4.out (n + 8))
  have eqB : Hid (l ++ be 4 (x / 4294967296).toNat ++ be 4 (x % 4294967296).toNat = l ++ be 8 x.toNat) := by
    show _ = _
    rw [List.append_assoc, show (8 : Nat) = 4 + 4 from rfl, be_add, be_mod 4 x.toNat]
    congr 3 <;> omega
  rw [eqB.out] at hrow
  have hB4 := Lib.hid (hrow.hold (n := n + 4 + 4) hn4.out (n + 4 + 4))
  clear hrow hb hA3 hv3 hB3
  go_wp2_with fail
  refine (equal_any (some ⟨w1.heap.size, 0, none⟩) (some ⟨w3.heap.size, 0, none⟩) (n + 8) (n + 8) (n + 4 + 4) (n + 4 + 4) (l ++ be 8 x.toNat) (l ++ be 8 x.toNat) w4 hA4.out hB4.out).mono ?_
  rintro e w5 ⟨rfl, rfl⟩
  have same1 : (l ++ be 8 x.toNat == l ++ be 8 x.toNat) = true := by rw [beq_iff_eq]
  go_wp2_with fail
  clear same1 hB4
  refine (put32 p n c (x % 4294967296) l w4 hv4.out (by omega) hl.1 hl.2).mono ?_
  rintro e w5 ⟨rfl, hrow, hb⟩
  have hb5 := Lib.hid (hb4.out.trans (hb.mono hb4.out.size))
  have hv5 := Lib.hid (holds_below hv4.out hb (Nat.le_refl _))
  have hA5 := Lib.hid (holds_below hA4.out hb (Nat.le_refl _))
  have hn5 : Hid ((l ++ be 4 (x % 4294967296).toNat).length = n + 4) := by show _ = _; rw [List.length_append, length_be, hlen.out]
  have hC5 := Lib.hid hrow
  clear hrow hb hA4 hv4
  have hs : 0 ≤ IntKind.u16.wrap (x / 65536) ∧ IntKind.u16.wrap (x / 65536) < 65536 := by rw [IntKind.wrap_u16]; omega
  have ht : 0 ≤ IntKind.u16.wrap x ∧ IntKind.u16.wrap x < 65536 := by rw [IntKind.wrap_u16]; omega
  go_wp2_with fail
  refine (put16 p n c (IntKind.u16.wrap (x / 65536)) l w5 hv5.out (by omega) hs.1 hs.2).mono ?_
  rintro e w6 ⟨rfl, hrow, hb⟩
  have hb6 := Lib.hid (hb5.out.trans (hb.mono hb5.out.size))
  have hv6 := Lib.hid (holds_below hv5.out hb (Nat.le_refl _))
  have hA6 := Lib.hid (holds_below hA5.out hb (Nat.le_refl _))
  have hC6 := Lib.hid (hC5.out.below hb)
  have hD6 := Lib.hid (hrow.hold (n := n + 2) (by rw [List.length_append, length_be, hlen.out]) (n + 2))
  clear hrow hb hA5 hv5 hC5
  go_wp2_with fail
  refine (put16 (some ⟨w5.heap.size, 0, none⟩) (n + 2) (n + 2) (IntKind.u16.wrap x) (l ++ be 2 (IntKind.u16.wrap (x / 65536)).toNat) w6 hD6.out (by omega) ht.1 ht.2).mono ?_
  rintro e w7 ⟨rfl, hrow, hb⟩
  have hb7 := Lib.hid (hb6.out.trans (hb.mono hb6.out.size))
  have hv7 := Lib.hid (holds_below hv6.out hb (Nat.le_refl _))
  have hA7 := Lib.hid (holds_below hA6.out hb (Nat.le_refl _))
  have hC7 := Lib.hid ((hC6.out.below hb).hold hn5.out (n + 4))
  have eqD : Hid (l ++ be 2 (IntKind.u16.wrap (x / 65536)).toNat ++ be 2 (IntKind.u16.wrap x).toNat = l ++ be 4 (x % 4294967296).toNat) := by
    show _ = _
    rw [List.append_assoc, show (4 : Nat) = 2 + 2 from rfl, be_add, be_mod 2 (x % 4294967296).toNat, IntKind.wrap_u16, IntKind.wrap_u16, be_mod 2 ((x % 4294967296).toNat / 256 ^ 2)]
    congr 3 <;> omega
  rw [eqD.out] at hrow
  have hD7 := Lib.hid (hrow.hold (n := n + 2 + 2) hn5.out (n + 2 + 2))
  clear hrow hb hA6 hv6 hC6 hD6
  go_wp2_with fail
  refine (equal_any (some ⟨w4.heap.size, 0, none⟩) (some ⟨w6.heap.size, 0, none⟩) (n + 4) (n + 4) (n + 2 + 2) (n + 2 + 2) (l ++ be 4 (x % 4294967296).toNat) (l ++ be 4 (x % 4294967296).toNat) w7 hC7.out hD7.out).mono ?_
  rintro e w8 ⟨rfl, rfl⟩
  have same2 : (l ++ be 4 (x % 4294967296).toNat == l ++ be 4 (x % 4294967296).toNat) = true := by rw [beq_iff_eq]
  go_wp2_with fail
  clear same2 hC7 hD7
  refine (read_any (some ⟨w1.heap.size, 0, none⟩) (n + 8) (n + 8) (l ++ be 8 x.toNat) w7 hA7.out (by omega)).mono ?_
  rintro e w8 ⟨r, dr, rfl, hr, hg, hd, hb⟩
  have hb8 := Lib.hid (hb7.out.trans (hb.mono hb7.out.size))
  have hv8 := Lib.hid (holds_below hv7.out hb (Nat.le_refl _))
  have hA8 := Lib.hid (holds_below hA7.out hb (Nat.le_refl _))
  have hR8 := Lib.hid hr
  have hg8 : Hid (w.heap.size ≤ r) := Nat.le_trans hb7.out.size hg
  clear hr hg hd hb hA7 hv7
  go_wp2_with fail
  refine (read_any (some ⟨w1.heap.size, 0, none⟩) (n + 8) (n + 8) (l ++ be 8 x.toNat) w8 hA8.out (by omega)).mono ?_
  rintro e w9 ⟨s, ds, rfl, hr, hg, hd, hb⟩
  have hb9 := Lib.hid (hb8.out.trans (hb.mono hb8.out.size))
  have hv9 := Lib.hid (holds_below hv8.out hb (Nat.le_refl _))
  have hR9 := Lib.hid (hR8.out.below hb)
  have hS9 := Lib.hid hr
  have hg9 : Hid (w.heap.size ≤ s) := Nat.le_trans hb8.out.size hg
  have hrs : Hid (Apart r dr s ds) := apart_of hR8.out hg hd
  clear hr hg hd hb hA8 hv8
  have l8 : Hid ((be 8 x.toNat).length = 8) := length_be _ _
  go_wp2_with fail
  refine (raw_to (raw_any r dr n 0 (l ++ be 8 x.toNat) w9 hR9.out) n l (be 8 x.toNat) 0 (rawL_app hlen.out) hlen.out.symm (nextL_app hlen.out) (nextE_app hlen.out)).mono ?_
  rintro e w10 ⟨q, c', rfl, hq, hg, hr⟩
  have hb10 := Lib.hid (hb9.out.grown hg hb9.out.size (fun k e => by cases e; exact hg8.out))
  have hR10 := Lib.hid hr
  have hS10 := Lib.hid (hS9.out.keep hg hrs.out.1 hrs.out.2.2)
  have hq10 := Lib.hid hq
  have hv10 := Lib.hid (holds_below hv0.out hb10.out (Nat.le_refl _))
  clear hr hg hq hR9 hS9 hv9
  go_wp2_with fail
  refine (equal_any q p n c' n c l l w10 hq10.out hv10.out).mono ?_
  rintro e w11 ⟨rfl, rfl⟩
  have same3 : (l == l) = true := by rw [beq_iff_eq]
  go_wp2_with fail
  clear same3
  refine (raw_to (raw_any s ds n 0 (l ++ be 8 x.toNat) w10 hS10.out) n l (be 8 x.toNat) 0 (rawL_app hlen.out) hlen.out.symm (nextL_app hlen.out) (nextE_app hlen.out)).mono ?_
  rintro e w12 ⟨q2, c2, rfl, hq, hg, hr⟩
  have hb12 := Lib.hid (hb10.out.grown hg hb10.out.size (fun k e => by cases e; exact hg9.out))
  have hS12 := Lib.hid hr
  have hR12 := Lib.hid (hR10.out.keep hg hrs.out.1.symm hrs.out.2.1)
  clear hr hg hq hS10 hR10 hq10 hv10
  go_wp2_with fail
  refine (step_to (u32_any r dr 0 (be 8 x.toNat) w12 hR12.out) (be 4 x.toNat) 0 (.int .u32 (x / 4294967296)) ?_ ?_ ?_).mono ?_
  · rw [show (8 : Nat) = 4 + 4 from rfl, be_add]; exact nextL_app (n := 4) (length_be 4 _).symm
  · rw [show (8 : Nat) = 4 + 4 from rfl, be_add]; exact nextE_app (n := 4) (length_be 4 _).symm
  · rw [show (8 : Nat) = 4 + 4 from rfl, be_add]
    refine congrArg (Value.int .u32) ((numV_app (n := 4) (length_be 4 _).symm).trans ?_)
    rw [num_be]; omega
  rintro e w13 ⟨rfl, hg, hr⟩
  have hb13 := Lib.hid (hb12.out.grown hg hb12.out.size (fun k e => by cases e; exact hg8.out))
  have hR13 := Lib.hid hr
  have hS13 := Lib.hid (hS12.out.keep hg hrs.out.1 hrs.out.2.2)
  clear hr hg hS12 hR12
  go_wp2_with fail
  refine (step_to (u32_any r dr 0 (be 4 x.toNat) w13 hR13.out) [] 0 (.int .u32 (x % 4294967296)) ?_ ?_ ?_).mono ?_
  · rw [← List.append_nil (be 4 _)]; exact nextL_app (n := 4) (length_be 4 _).symm
  · rw [← List.append_nil (be 4 _)]; exact nextE_app (n := 4) (length_be 4 _).symm
  · rw [← List.append_nil (be 4 _)]
    refine congrArg (Value.int .u32) ((numV_app (n := 4) (length_be 4 _).symm).trans ?_)
    rw [num_be]; omega
  rintro e w14 ⟨rfl, hg, hr⟩
  have hb14 := Lib.hid (hb13.out.grown hg hb13.out.size (fun k e => by cases e; exact hg8.out))
  have hR14 := Lib.hid hr
  have hS14 := Lib.hid (hS13.out.keep hg hrs.out.1 hrs.out.2.2)
  clear hr hg hS13 hR13
  have hor := or_halves x hx hx1
  go_wp2_with fail
  clear hor
  refine (step_to (u64_any s ds 0 (be 8 x.toNat) w14 hS14.out) [] 0 (.int .u64 x) ?_ ?_ ?_).mono ?_
  · rw [← List.append_nil (be 8 _)]; exact nextL_app (n := 8) (length_be 8 _).symm
  · rw [← List.append_nil (be 8 _)]; exact nextE_app (n := 8) (length_be 8 _).symm
  · rw [← List.append_nil (be 8 _)]
    refine congrArg (Value.int .u64) ((numV_app (n := 8) (length_be 8 _).symm).trans ?_)
    rw [num_be]; omega
  rintro e w15 ⟨rfl, hg, hr⟩
  have hb15 := Lib.hid (hb14.out.grown hg hb14.out.size (fun k e => by cases e; exact hg9.out))
  have hS15 := Lib.hid hr
  have hR15 := Lib.hid (hR14.out.keep hg hrs.out.1.symm hrs.out.2.1)
  clear hr hg hS14 hR14
  go_wp2_with fail
  refine (err_any r dr 0 _ w15 hR15.out).mono ?_
  rintro e w16 ⟨rfl, rfl⟩
  go_wp2_with fail
  refine (left_any s ds 0 _ w15 hS15.out).mono ?_
  rintro e w16 ⟨rfl, rfl⟩
  go_wp2_with fail
  go_ret
  exact ⟨rfl, hb15.out⟩

set_option maxHeartbeats 400000 in
theorem halves_big (p : Option Addr) (n c : Nat) (x : Int) (w : World) (hn : 4000 < n) :
    Calls Try.prog 6 #[.slice p n c, .int .u64 x] w (fun e w' => e = .returned (.bool true) ∧ Below w.heap.size w w') := by
  go_enter Try.func6, Try.ntmps6
  go_wp2_with fail
  refine (wakes_any w).mono ?_
  rintro e w1 ⟨rfl, hb⟩
  have hb1 := Lib.hid hb
  clear hb
  go_wp2_with fail
  go_ret
  exact ⟨rfl, hb1.out⟩

theorem halves_lifted (os : Os) (started : os.Started) (H : Type) (enc : TypeId × Value → H) :
    ReturnsInHanded {} Try.checked os 6 .any (Rows.octetHalvesSpec.pre6 enc Try.prog Try.f6 Rows.octetHalvesRow.domain false) (Rows.octetHalvesSpec.post enc Try.prog Try.f6 false true false false) := by
  refine returnsInHanded_of_change (C := Try.checked) own started (by kernel_rfl) Try.func6
    (ChangeSpec.witness6 (enc := enc) (C := Try.checked) false ⟨#[], #[.slice none 0 0, .int .u64 0], []⟩ 8 (by kernel_rfl) (by kernel_rfl) (by kernel_rfl) (by kernel_rfl)) ?_
  intro W base args ds gs before hval0 hW _ _
  have hval : ∀ (j : Nat) t v, Try.f6.params[j]? = some t → args[j]? = some v → Value.okWide Try.prog W .any base t v := hval0
  have hW' := hW
  obtain ⟨p, q, hA0, hV, rfl, _, _⟩ := hW
  have hA : DataW.TrodAll enc Try.prog W 0 (fun _ => true) true Try.f6.params.toList args.toList ds p := hA0
  rw [Try.params6] at hA hval
  obtain ⟨v0, v1, d0, d1, p0, p1, rfl, rfl, rfl, h0, h1⟩ := trodAll_two hA
  obtain ⟨rfl, rfl⟩ := trodVars_none hV
  obtain ⟨a0, len0, cap0, rfl⟩ := okWide_slice Try.underlying22 (hval 0 22 v0 rfl rfl)
  obtain ⟨b, rfl, rfl, rfl, wb⟩ := open_int Try.underlying23 (hval 1 23 v1 rfl rfl) h1
  have rb := u64_of_wf wb
  obtain ⟨l, hl, hlen, _⟩ := open_bytes h0
  have key : Calls Try.prog 6 #[.slice a0 len0 cap0, .int .u64 b] W (fun e w' => e = .returned (.bool true) ∧ Below W.heap.size W w') := by
    by_cases hn : len0 ≤ 4000
    · exact halves_any a0 len0 cap0 b l W hl hn rb.1 rb.2
    · exact halves_big a0 len0 cap0 b W (by omega)
  refine key.mono fun e W' ⟨he, hb⟩ => ?_
  subst he
  exact ⟨_, rfl, law_post laidOut (of_decide_eq_true (by kernel_rfl)) rfl (by kernel_rfl) Try.underlying4 hW' ⟨rfl, rfl, rfl⟩ hb⟩

theorem halves_holds : Rows.OctetHalvesSaid :=
  OpenClaim.holds_of_wide 6 Try.f6 rfl rfl rfl rfl rfl rfl rfl ⟨rfl, rfl, rfl, rfl, rfl⟩ rfl rfl rfl rfl rfl (by kernel_rfl) Try.func6 (by kernel_rfl)
    (of_decide_eq_true (by kernel_rfl)) (by unfold Func.isWrapper; first | (rw [if_pos (by decide +kernel)]; kernel_rfl) | (rw [if_neg (by decide +kernel)]; exact ⟨rfl, rfl⟩))
    (fun os started H enc _ => halves_lifted os started H enc)

end Go.Proofs.Ytoafcpfadkejnaa
