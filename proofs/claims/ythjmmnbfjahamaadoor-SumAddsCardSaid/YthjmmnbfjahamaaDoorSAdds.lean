/- SumAdds: for every three rows of bytes the law returns true, and its arguments read as they did, where the table of steps is laid as the program's text lays it. No other condition. -/
import Derived.Test.YthjmmnbfjahamaaDoorTied
import Derived.Test.YthjmmnbfjahamaaDoorTie
import Derived.Test.YthjmmnbfjahamaaDoorCards
import Derived.StillTailTactics
namespace Go.Proofs.YthjmmnbfjahamaaDoor
open Go.ChangeShapes Go.WideShapes Go.ChangeAt Go.RowKit

theorem run_min4 {P : Program} (ts : Array TypeId) (t : TypeId) (x y z u N : Int) (h : N = min (min (min x y) z) u) (w : World) :
    (Builtin.min_ ts t #[.int .i64 x, .int .i64 y, .int .i64 z, .int .i64 u]).run P w = .ok (.int .i64 N) w := by
  have e : ∀ a b : Int, (if b < a then b else a) = min a b := fun a b => by
    split <;> omega
  simp only [Builtin.min_, Builtin.min2, List.foldlM, Sem.run_bind, Sem.run_pure, Result.andThen_ok, e, ← h]

theorem xor_val8 (x y z : UInt8) : bits .xor .u8 (bits .xor .u8 (x.toNat : Int) (y.toNat : Int)) (z.toNat : Int) = ((x ^^^ y ^^^ z).toNat : Int) := by
  have h1 := x.toNat_lt
  have h2 := y.toNat_lt
  have h3 := z.toNat_lt
  have h4 := (x ^^^ y).toNat_lt
  rw [u8_xor_nat _ _ (by omega) (by omega), ← UInt8.toNat_xor, u8_xor_nat _ _ (by omega) (by omega), ← UInt8.toNat_xor]

theorem xor3_get {a b c : List UInt8} {k N : Nat} {x y z : UInt8} (ha : a[k]? = some x) (hb : b[k]? = some y) (hc : c[k]? = some z) (hk : k < N) : (xor3 (a.take N) (b.take N) (c.take N))[k]? = some (x ^^^ y ^^^ z) := by
  unfold xor3
  simp [List.getElem?_zipWith, hk, ha, hb, hc]
theorem xor3_len {a b c : List UInt8} {N : Nat} (ha : N ≤ a.length) (hb : N ≤ b.length) (hc : N ≤ c.length) : (xor3 (a.take N) (b.take N) (c.take N)).length = N := by
  unfold xor3
  simp; omega

structure AddsRel (w wr : World) (g : Nat) (X : List UInt8) (N k : Nat) : Prop where
  below : Below w.heap.size w wr
  row : Row 5 wr g (X.take k ++ zs (N - k))

theorem put_step {X : List UInt8} {N k : Nat} {v : UInt8} (hl : X.length = N) (hk : k < N) (hv : X[k]? = some v) : (X.take k ++ zs (N - k)).set k v = X.take (k + 1) ++ zs (N - (k + 1)) := by
  have e : zs (N - k) = 0 :: zs (N - (k + 1)) := by
    rw [show N - k = (N - (k + 1)) + 1 by omega]; rfl
  have e2 : X.take (k + 1) = X.take k ++ [v] := by rw [List.take_add_one, hv]; rfl
  rw [e, e2, List.set_append_right _ _ (by simp; omega)]
  have : k - (X.take k).length = 0 := by simp; omega
  rw [this]; simp

theorem AddsRel.step {w wr : World} {g N k : Nat} {X : List UInt8} {v : UInt8} {x : Int} (h : AddsRel w wr g X N k) (hg : w.heap.size ≤ g) (hl : X.length = N) (hk : k < N) (hv : X[k]? = some v) (hx : x = (v.toNat : Int)) :
    AddsRel w (wr.setCell ⟨g, k, none⟩ (.int .u8 x)).drew g X N (k + 1) := by
  subst hx
  refine ⟨(h.below.setCell (p := ⟨g, k, none⟩) hg _).trans (below_drew _), ?_⟩
  rw [← put_step hl hk hv]
  exact (h.row.set k v).block (w' := (wr.setCell ⟨g, k, none⟩ (.int .u8 (v.toNat : Int))).drew) rfl

set_option maxRecDepth 100000 in
set_option maxHeartbeats 1000000 in
theorem adds_any (p1 p2 p3 : Option Addr) (n1 n2 n3 c1 c2 c3 : Nat) (a b c : List UInt8) (w : World) (hL : Laid w) (h1 : Lib.HoldsBytes w (.slice p1 n1 c1) a) (h2 : Lib.HoldsBytes w (.slice p2 n2 c2) b) (h3 : Lib.HoldsBytes w (.slice p3 n3 c3) c)
    (k1 : n1 ≤ c1) (k2 : n2 ≤ c2) (k3 : n3 ≤ c3) :
    Calls Tryd.prog 5 #[.slice p1 n1 c1, .slice p2 n2 c2, .slice p3 n3 c3] w (fun e w' => e = .returned (.bool true) ∧ Below w.heap.size w w') := by
  have hL1 := Lib.hid hL
  have g1 := Lib.hid h1
  have g2 := Lib.hid h2
  have g3 := Lib.hid h3
  have l1 := holds_len h1
  have l2 := holds_len h2
  have l3 := holds_len h3
  clear hL h1 h2 h3
  obtain ⟨N, hN⟩ : ∃ N : Nat, N = min (min (min n1 n2) n3) 2000 := ⟨_, rfl⟩
  have hm : ∀ W, (Builtin.min_ #[3, 3, 3, 3] 3 #[.int .i64 (n1 : Int), .int .i64 (n2 : Int), .int .i64 (n3 : Int), .int .i64 2000]).run Tryd.prog W = .ok (.int .i64 (N : Int)) W := run_min4 _ _ _ _ _ _ _ (by omega)
  have N1 : N ≤ n1 := by omega
  have N2 : N ≤ n2 := by omega
  have N3 : N ≤ n3 := by omega
  have N4 : N ≤ 2000 := by omega
  have hX := Lib.hid (xor3_len (a := a) (b := b) (c := c) (N := N) (by omega) (by omega) (by omega))
  have hcrc := Lib.hid (crc_xor3 (a.take N) (b.take N) (c.take N) (by simp; omega) (by simp; omega))
  have hget := Lib.hid (fun (k : Nat) (x y z : UInt8) (hx : a[k]? = some x) (hy : b[k]? = some y) (hz : c[k]? = some z) (hk : k < N) => xor3_get hx hy hz hk)
  have hmk : ∀ u : World, (Instr.makeSlice 22 (.int .i64 (N : Int)) (.int .i64 (N : Int))).run Tryd.prog u = .ok (.slice (some ⟨u.heap.size, 0, none⟩) N N) (u.alloc (.cells (vals (zs N)).toArray 5)) := fun u => by
    obtain ⟨i0, hi, hz0, hz1, hz2⟩ := info_parts info5
    have h := run_make (P := Tryd.prog) u 22 5 i0 (.int .u8 0) Tryd.underlying22 hi hz0 .i64 .i64 (N : Int) (N : Int) (by omega) (Int.le_refl _) (by rw [hz2]; omega) (by omega)
    rw [Int.toNat_natCast, hz1, Nat.mul_one, show (Value.int .u8 0).cells = #[.int .u8 0] from rfl, made_zs] at h
    exact h
  clear hN l1 l2 l3
  go_enter Tryd.func5, Tryd.ntmps5
  go_wp2_with fail
  refine (wakes_any w hL1.out).mono ?_
  rintro e w1 ⟨rfl, hb⟩
  have hrel0 : Hid (AddsRel w (w1.alloc (.cells (vals (zs N)).toArray 5)) w1.heap.size (xor3 (a.take N) (b.take N) (c.take N)) N 0) := ⟨hb.alloc hb.size _, heap_alloc_new _ _⟩
  have hg : Hid (w.heap.size ≤ w1.heap.size) := hb.size
  clear hb
  generalize xor3 (a.take N) (b.take N) (c.take N) = X at *
  go_wp2_with fail
  clear hm hmk
  go_loopw [22] (fun v22 wr => ∃ k : Nat, k ≤ N ∧ v22 = .int .i64 k ∧ AddsRel w wr w1.heap.size X N k) (fun v22 _ => N - (intOf v22).toNat)
  case atStart => exact ⟨0, Nat.zero_le _, rfl, hrel0.out⟩
  case round =>
    obtain ⟨k, hk, rfl, hr⟩ := hrel
    have hr1 := Lib.hid hr
    clear hr
    by_cases hlt : k < N
    · obtain ⟨A1, x, rfl, hx, d1⟩ : ∃ a' x, p1 = some a' ∧ a[k]? = some x ∧ wr.cell? (a'.add k) = some (.int .u8 (x.toNat : Int)) := holds_get g1.out hr1.out.below (by omega)
      obtain ⟨A2, y, rfl, hy, d2⟩ : ∃ a' x, p2 = some a' ∧ b[k]? = some x ∧ wr.cell? (a'.add k) = some (.int .u8 (x.toNat : Int)) := holds_get g2.out hr1.out.below (by omega)
      obtain ⟨A3, z, rfl, hz, d3⟩ : ∃ a' x, p3 = some a' ∧ c[k]? = some x ∧ wr.cell? (a'.add k) = some (.int .u8 (x.toNat : Int)) := holds_get g3.out hr1.out.below (by omega)
      have hnext := Lib.hid (hr1.out.step hg.out hX.out hlt (hget.out k x y z hx hy hz hlt) (xor_val8 x y z))
      have hfr := hr1.out.row.free k
      obtain ⟨ov, hcell⟩ : ∃ v, wr.cell? ⟨w1.heap.size, k, none⟩ = some v := ⟨_, hr1.out.row.cell k (by have := hX.out; simp [zs]; omega)⟩
      clear hx hy hz
      have i0 : (0 : Int) ≤ (k : Int) := by omega
      have i1 : (k : Int) < (n1 : Int) := by omega
      have i2 : (k : Int) < (n2 : Int) := by omega
      have i3 : (k : Int) < (n3 : Int) := by omega
      go_wp2
      go_still_tail 17, (by kernel_rfl)
      go_wp2
      go_roundw
      case rel => exact ⟨k + 1, by omega, by go_num, hnext.out⟩
      case measure => simp [intOf]; omega
    · obtain rfl : N = k := by omega
      have hrow : Hid (Row 5 wr w1.heap.size X) := by have h := hr1.out.row; rwa [Nat.sub_self, ← hX.out, List.take_length, show X ++ zs 0 = X by simp [zs]] at h
      have hb0 := Lib.hid (hr1.out.below.trans (below_drew (B := w.heap.size) wr))
      have q1 := Lib.hid (holds_take g1.out (Below.refl _ _) N1)
      have q2 := Lib.hid (holds_take g2.out (Below.refl _ _) N2)
      have q3 := Lib.hid (holds_take g3.out (Below.refl _ _) N3)
      have hs0 := Lib.hid (sum_any (some ⟨w1.heap.size, 0, none⟩) X.length X.length X wr.drew (hL1.out.keep hb0.out hL1.out.size) ((hrow.out.block (w' := wr.drew) rfl).holds _) (by have := hX.out; omega))
      rw [hX.out] at hs0
      clear hr1 hrow
      go_wp2
      refine wp_region_held (S := fun _ => True) (by kernel_rfl) ?_
      change wpAnyH _ _ _ _ _ _ _ _ (World.drew wr)
      refine held_take (i := 0) (dst := some 43) rfl rfl (by kernel_rfl) (by kernel_rfl) (by kernel_rfl) (fun _ _ _ h => h) (y_move (.tmp 8) rfl rfl rfl) trivial ?_
      go_frame
      refine held_take (i := 2) (dst := some 45) rfl rfl (by kernel_rfl) (by kernel_rfl) (by kernel_rfl) (fun _ _ _ h => h) (y_move (.tmp 0) rfl rfl rfl) trivial ?_
      go_frame
      refine held_take (i := 3) (dst := some 46) rfl rfl (by kernel_rfl) (by kernel_rfl) (by kernel_rfl) (fun _ _ _ h => h) (y_move (.tmp 7) rfl rfl rfl) trivial ?_
      go_frame
      refine held_take (i := 4) (dst := some 47) (v := .slice p1 N c1) rfl rfl (by kernel_rfl) (by kernel_rfl) (by kernel_rfl) (fun _ _ _ h => h) (.inl ⟨rfl, fun W _ => by go_simp; intro h; exfalso; omega⟩) trivial ?_
      go_frame
      refine held_take (i := 6) (dst := some 49) rfl rfl (by kernel_rfl) (by kernel_rfl) (by kernel_rfl) (fun _ _ _ h => h) (y_move (.tmp 1) rfl rfl rfl) trivial ?_
      go_frame
      refine held_take (i := 7) (dst := some 50) rfl rfl (by kernel_rfl) (by kernel_rfl) (by kernel_rfl) (fun _ _ _ h => h) (y_move (.tmp 7) rfl rfl rfl) trivial ?_
      go_frame
      refine held_take (i := 8) (dst := some 51) (v := .slice p2 N c2) rfl rfl (by kernel_rfl) (by kernel_rfl) (by kernel_rfl) (fun _ _ _ h => h) (.inl ⟨rfl, fun W _ => by go_simp; intro h; exfalso; omega⟩) trivial ?_
      go_frame
      refine held_take (i := 11) (dst := some 54) rfl rfl (by kernel_rfl) (by kernel_rfl) (by kernel_rfl) (fun _ _ _ h => h) (y_move (.tmp 2) rfl rfl rfl) trivial ?_
      go_frame
      refine held_take (i := 12) (dst := some 55) rfl rfl (by kernel_rfl) (by kernel_rfl) (by kernel_rfl) (fun _ _ _ h => h) (y_move (.tmp 7) rfl rfl rfl) trivial ?_
      go_frame
      refine held_take (i := 13) (dst := some 56) (v := .slice p3 N c3) rfl rfl (by kernel_rfl) (by kernel_rfl) (by kernel_rfl) (fun _ _ _ h => h) (.inl ⟨rfl, fun W _ => by go_simp; intro h; exfalso; omega⟩) trivial ?_
      go_frame
      refine held_call (i := 1) (dst := some 44) rfl rfl (by kernel_rfl) rfl (by go_simp) hs0.out ?_
      rintro e w3 ⟨rfl, hb⟩
      have hb3 := Lib.hid (hb0.out.trans (hb.mono hb0.out.size))
      clear hb
      refine ⟨_, rfl, trivial, ?_⟩
      go_frame
      refine held_call (i := 5) (dst := some 48) rfl rfl (by kernel_rfl) rfl (by go_simp) (sum_any p1 _ c1 (a.take N) w3 (hL1.out.keep hb3.out hL1.out.size) (holds_below q1.out hb3.out (Nat.le_refl _)) (by omega)) ?_
      rintro e w4 ⟨rfl, hb⟩
      have hb4 := Lib.hid (hb3.out.trans (hb.mono hb3.out.size))
      clear hb
      refine ⟨_, rfl, trivial, ?_⟩
      go_frame
      refine held_call (i := 9) (dst := some 52) rfl rfl (by kernel_rfl) rfl (by go_simp) (sum_any p2 _ c2 (b.take N) w4 (hL1.out.keep hb4.out hL1.out.size) (holds_below q2.out hb4.out (Nat.le_refl _)) (by omega)) ?_
      rintro e w5 ⟨rfl, hb⟩
      have hb5 := Lib.hid (hb4.out.trans (hb.mono hb4.out.size))
      clear hb
      refine ⟨_, rfl, trivial, ?_⟩
      go_frame
      refine held_take (i := 10) (dst := some 53) (v := .int .u32 (un (crc (a.take N) ^^^ crc (b.take N)))) rfl rfl (by kernel_rfl) (by kernel_rfl) (by kernel_rfl) (fun _ _ _ h => h) (.inl ⟨rfl, fun W _ => by go_simp; rw [xor_val]⟩) trivial ?_
      go_frame
      refine held_call (i := 14) (dst := some 57) rfl rfl (by kernel_rfl) rfl (by go_simp) (sum_any p3 _ c3 (c.take N) w5 (hL1.out.keep hb5.out hL1.out.size) (holds_below q3.out hb5.out (Nat.le_refl _)) (by omega)) ?_
      rintro e w6 ⟨rfl, hb⟩
      have hb6 := Lib.hid (hb5.out.trans (hb.mono hb5.out.size))
      clear hb
      refine ⟨_, rfl, trivial, ?_⟩
      go_frame
      refine held_take (i := 15) (dst := some 58) (v := .int .u32 (un (crc X))) rfl rfl (by kernel_rfl) (by kernel_rfl) (by kernel_rfl) (fun _ _ _ h => h) (.inl ⟨rfl, fun W _ => by go_simp; rw [xor_val, hcrc.out]⟩) trivial ?_
      go_frame
      refine held_take (i := 16) (dst := some 59) (v := .bool true) rfl rfl (by kernel_rfl) (by kernel_rfl) (by kernel_rfl) (fun _ _ _ h => h) (.inl ⟨rfl, fun W _ => by go_simp⟩) trivial ?_
      go_frame
      refine held_value (i := 17) (dst := some 6) (w' := w6) (v := .bool true) rfl rfl (by kernel_rfl) rfl (by go_simp) trivial ?_
      go_frame
      refine wpAnyH_done (by kernel_rfl) ?_ _
      go_wp2
      go_ret
      exact ⟨rfl, hb6.out⟩

theorem adds_lifted (os : Os) (started : os.Started) (H : Type) (enc : TypeId × Value → H) :
    ReturnsInHanded {} Tryd.checked os 5 .any (fun w args => (Rows.sumAddsSpec.pre enc Tryd.prog Tryd.f5 [] false w args ∧ laidMetH Tryd.prog [("bursary/sum.steps", Rows.laid_bursary_sum_steps)] w) ∧ sizedMet enc Tryd.prog Tryd.f5 (OpenSpec.ofChange Rows.sumAddsSpec) false w args)
      (Rows.sumAddsSpec.post enc Tryd.prog Tryd.f5 false true false false) := by
  refine returnsInHanded_of_change_and (C := Tryd.checked) (X := fun w _ => laidMetH Tryd.prog [("bursary/sum.steps", Rows.laid_bursary_sum_steps)] w) (fun _ _ _ hh h => h.of_heap hh) own started (by kernel_rfl) Tryd.func5
    (ChangeSpec.witness_shaped (enc := enc) (C := Tryd.checked) (os := os) (X := fun w _ => laidMetH Tryd.prog [("bursary/sum.steps", Rows.laid_bursary_sum_steps)] w) false (World.doorLaid Tryd.prog 400 os) #[.slice none 0 0, .slice none 0 0, .slice none 0 0] 8 rfl (World.shaped_of_RefB (by kernel_rfl) (by kernel_rfl)) (by kernel_rfl) (by kernel_rfl) (by kernel_rfl) (door_met os _)) ?_
  intro W base args ds gs before hval0 hW _ _ hL _
  have hval : ∀ (j : Nat) t v, Tryd.f5.params[j]? = some t → args[j]? = some v → Value.okWide Tryd.prog W .any base t v := hval0
  have hW' := hW
  obtain ⟨p, q, hA0, hV, rfl, _, _⟩ := hW
  have hA : DataW.TrodAll enc Tryd.prog W 0 (fun _ => true) true Tryd.f5.params.toList args.toList ds p := hA0
  rw [Tryd.params5] at hA hval
  obtain ⟨v0, v1, v2, d0, d1, d2, q0, q1, q2, rfl, rfl, rfl, h0, h1, h2⟩ := trodAll_three hA
  obtain ⟨rfl, rfl⟩ := trodVars_none hV
  have hT := of_laid hL
  obtain ⟨a0, len0, cap0, rfl⟩ := okWide_slice Tryd.underlying22 (hval 0 22 v0 rfl rfl)
  obtain ⟨l0, hl0, hlen0, hcap0⟩ := open_bytes h0
  obtain ⟨a1, len1, cap1, rfl⟩ := okWide_slice Tryd.underlying22 (hval 1 22 v1 rfl rfl)
  obtain ⟨l1, hl1, hlen1, hcap1⟩ := open_bytes h1
  obtain ⟨a2, len2, cap2, rfl⟩ := okWide_slice Tryd.underlying22 (hval 2 22 v2 rfl rfl)
  obtain ⟨l2, hl2, hlen2, hcap2⟩ := open_bytes h2
  refine (adds_any a0 a1 a2 len0 len1 len2 cap0 cap1 cap2 l0 l1 l2 W hT hl0 hl1 hl2 hcap0 hcap1 hcap2).mono fun e W' ⟨he, hb⟩ => ?_
  subst he
  exact ⟨_, rfl, law_post laidOut (of_decide_eq_true (by kernel_rfl)) rfl (by kernel_rfl) Tryd.underlying4 hW' ⟨rfl, rfl, rfl⟩ hb⟩

theorem adds_said : Rows.SumAddsSaid :=
  OpenClaim.holds_of_wide 5 Tryd.f5 rfl rfl rfl rfl rfl rfl rfl ⟨rfl, rfl, rfl, rfl, rfl⟩ rfl rfl rfl rfl rfl (by kernel_rfl) Tryd.func5 (by kernel_rfl)
    (of_decide_eq_true (by kernel_rfl)) (by unfold Func.isWrapper; first | (rw [if_pos (by decide +kernel)]; kernel_rfl) | (rw [if_neg (by decide +kernel)]; exact ⟨rfl, rfl⟩))
    (fun os started H enc _ => adds_lifted os started H enc)

theorem adds_holds : Rows.SumAddsCardSaid :=
  Claim7.holds_tied_plain_at .later [] [.data] true Rows.sumAddsCard.stood.harness false
    adds_said (fun _ h => by cases h) (by kernel_rfl) (fun _ h => by cases h) sumAdds_row_tie rfl ⟨rfl, rfl⟩ (by kernel_rfl) rfl
    (fun f fn hf hfn => by
      obtain rfl : f = 5 := Option.some.inj ((show Tryd.prog.funcNamed "bursary/bursarylaw03.SumAdds" = some 5 by kernel_rfl).symm.trans hf) |>.symm
      obtain rfl : fn = Tryd.f5 := (Option.some.inj (Tryd.func5.symm.trans hfn)).symm
      exact ⟨by kernel_rfl, fun j t ht => by
        rw [Tryd.params5] at ht
        have hm : t ∈ [22] := by simpa using Array.mem_of_getElem? ht
        have hall : ([22].all fun u => !Tryd.prog.wantsStandIn u) = true := by kernel_rfl
        exact (show Tryd.prog.wantsStandIn t = false by simpa using List.all_eq_true.1 hall t hm)⟩)
    (by kernel_rfl)

end Go.Proofs.YthjmmnbfjahamaaDoor
