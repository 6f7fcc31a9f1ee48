/- RingRoom: for every list of rows the law returns true, and its argument reads as it did. No condition. -/
import Derived.Test.YtfpiojdfglbdpaaRArg
namespace Go.Proofs.Ytfpiojdfglbdpaa
open Go.ChangeShapes Go.WideShapes Go.ChangeAt Go.RowKit

/-- the ring while the rows come in -/
def RoomSt (w wr : World) (rg : Nat) (p : Pl) (i : Nat) (es : List (List UInt8)) : Prop := RS wr rg p 22 20 (2000 + 2000 * i) 1 1 es ∧ Below w.heap.size w wr

theorem RS.more {w : World} {rg : Nat} {p : Pl} {n S k k' T F : Nat} {es : List (List UInt8)} (h : RS w rg p n S k T F es) (hk : k ≤ k') : RS w rg p n S k' T F es := by
  obtain ⟨d, x, vs, note, hr, hs, h1, h2⟩ := h.is
  exact ⟨⟨d, x, vs, note, hr, hs, by omega, h2⟩, h.fit, h.len, h.room⟩

set_option maxRecDepth 100000 in
set_option maxHeartbeats 4000000 in
theorem room_law (a0 : Option Addr) (len0 cap0 : Nat) (L : Nat → List UInt8) (w : World) (hrows : RowsIn w a0 len0 L) :
    Calls Try.prog 3 #[.slice a0 len0 cap0] w (fun e w' => e = .returned (.bool true) ∧ Below w.heap.size w w') := by
  have hRw := Lib.hid hrows
  clear hrows
  go_enter Try.func3, Try.ntmps3
  go_wp2_with fail
  refine (wakes_any _).mono ?_
  rintro e u1 ⟨rfl, hb⟩
  have hb1' := Lib.hid hb
  clear hb
  go_wp2_with fail
  refine (fresh_any _).mono ?_
  rintro e u2 ⟨rg, p, d, x, rfl, h1, h2, h3, h4, h5, a1, a2, a3, a4, a5, a6, h6⟩
  have hR0 := Lib.hid (RS.fresh h2 h3 h4 a1 a2 a3 a4 a5 a6 (by decide) (by decide) (by decide))
  have hrg := Lib.hid (show w.heap.size ≤ rg from Nat.le_trans hb1'.out.size h1)
  have hL := Lib.hid (show ∀ j ∈ p.L, w.heap.size ≤ j from fun j hj => Nat.le_trans hb1'.out.size (h5 j hj))
  have hb0' := Lib.hid (hb1'.out.trans (h6.mono hb1'.out.size))
  clear h1 h2 h3 h4 h5 a1 a2 a3 a4 a5 a6 h6 d x
  go_wp2_with fail
  go_loopw [22] (fun v22 wr => ∃ i es, i ≤ len0 ∧ i ≤ 40 ∧ v22 = .int .i64 (i : Nat) ∧ Hid (RoomSt w wr rg p i es)) (fun v22 _ => len0 - (intOf v22).toNat)
  case atStart => exact ⟨0, [], by omega, by omega, rfl, ⟨hR0.out, hb0'.out⟩⟩
  case round =>
    obtain ⟨i, es, hi, hi40, rfl, hst⟩ := hrel
    have hr0 : Hid (RS wr rg p 22 20 (2000 + 2000 * i) 1 1 es) := hst.out.1
    have hb0 : Hid (Below w.heap.size w wr) := hst.out.2
    clear hst
    by_cases hlt : i < len0
    · obtain ⟨a, q, m, dd, rfl, hcw, hv0, hmd⟩ := hRw.out.get i hlt
      have hcell : wr.cell? (a.add i) = some (.slice q m dd) := (hb0.out.cell (World.block_lt_of_cell? w _ hcw)).trans hcw
      have i1 : (i : Int) < len0 := by omega
      obtain ⟨k, hk⟩ : ∃ k, min m 400 = k := ⟨_, rfl⟩
      have hkm : k ≤ m := by omega
      have hk400 : k ≤ 400 := by omega
      have hmin : min (m : Int) 400 = (k : Nat) := by omega
      have hkd : (k : Int) ≤ dd := by omega
      have hel : ((L i).take k).length = k := by
        have := holds_len hv0
        rw [List.length_take]
        omega
      have hv1 : Lib.HoldsBytes w (.slice q k dd) ((L i).take k) := by
        obtain ⟨q2, c2, he, g1, g2⟩ := hv0
        cases he
        refine ⟨q, dd, by rw [hel], fun hq => by rw [g1 hq]; exact List.take_nil, fun b hb j y hy => ?_⟩
        rw [List.getElem?_take] at hy
        split at hy
        · exact g2 b hb j y hy
        · cases hy
      have hv := Lib.hid hv1
      have hRr := hr0.out
      have hft := hRr.fit
      obtain ⟨lf, hlf⟩ : ∃ lf, 20 - tot es = lf := ⟨_, rfl⟩
      obtain ⟨sn, hsn⟩ : ∃ sn, secs k = sn := ⟨_, rfl⟩
      have hsn2 : sn ≤ 100 := by rw [← hsn]; unfold secs; omega
      have hl1 := hRr.left (by decide)
      rw [hlf] at hl1
      have hsec := fun u => sectors_any k u (by omega)
      rw [hsn] at hsec
      clear hcw hv0 hv1 hRr
      go_wp2_with fail
      · have hl := RS.all hr0.out (by decide)
        have hln := len_tot es
        have hft := hr0.out.fit
        have hcu := fun (u : World) (hu : RS u rg p 22 20 (2000 + 2000 * i) 1 1 es) => hu.cut (by decide) (by omega) (by decide) (by decide) es.length (Nat.le_refl _) none 0 [] 0 rfl (by decide) ⟨⟨none, 0, rfl, fun _ => rfl, fun a ha => by cases ha⟩, none, 0, 0, rfl, fun a ha => by cases ha⟩
        have htz : tot (es.drop es.length) = 0 := by rw [List.drop_length]; rfl
        obtain ⟨n, hn⟩ : ∃ n, es.length = n := ⟨_, rfl⟩
        obtain ⟨F1, hF1⟩ : ∃ F1, 1 + n = F1 := ⟨_, rfl⟩
        obtain ⟨ez, hez⟩ : ∃ ez, es.drop n = ez := ⟨_, rfl⟩
        rw [hn] at hl hcu htz hln
        rw [hez] at htz hcu
        rw [hF1] at hcu
        have hw1 : IntKind.u64.wrap (n : Int) = n := by rw [IntKind.wrap_u64]; omega
        have hw2 : IntKind.u64.wrap ((n : Int) + 1) = (F1 : Nat) := by rw [IntKind.wrap_u64]; omega
        have hcu' := Lib.hid hcu
        clear hcu hez
        refine hl.mono ?_
        rintro e1 w1 ⟨⟨q1, c1, rfl⟩, hB1⟩
        have hr1 := Lib.hid (hr0.out.below hB1)
        have hb1 := Lib.hid (hb0.out.trans (hB1.mono hb0.out.size))
        clear hB1 hl
        go_wp2_with fail
        refine (hcu'.out _ hr1.out).mono ?_
        rintro e2 w2 ⟨rfl, hR2, hU2⟩
        have hr2 := Lib.hid hR2
        have hb2 := Lib.hid (hU2.to_below hb1.out hrg.out hL.out)
        have hl2 := hR2.left (by decide)
        rw [htz] at hl2
        clear hR2 hU2
        go_wp2_with fail
        refine hl2.mono ?_
        rintro e3 w3 ⟨rfl, hB3⟩
        have hr3 := Lib.hid (hr2.out.below hB3)
        have hb3 := Lib.hid (hb2.out.trans (hB3.mono hb2.out.size))
        clear hB3 hl2
        go_wp2_with fail
        refine hr3.out.first.mono ?_
        rintro e4 w4 ⟨rfl, hB4⟩
        have hb4 := Lib.hid (hb3.out.trans (hB4.mono hb3.out.size))
        clear hB4
        go_wp2
        first | go_ret | go_ret2
        exact ⟨rfl, hb4.out⟩
      have h41 : ((i : Int) == 40) = false := by assumption
      have h42 : ¬ ((i : Int) = 40) := by simpa using h41
      clear h41
      refine hl1.mono ?_
      rintro e1 w1 ⟨rfl, hB1⟩
      have hr1 := Lib.hid (hr0.out.below hB1)
      have hb1 := Lib.hid (hb0.out.trans (hB1.mono hb0.out.size))
      clear hB1 hl1
      go_wp2_with fail
      refine (hsec _).mono ?_
      rintro e2 w2 ⟨rfl, hw2⟩
      obtain rfl := hw2.symm
      by_cases hfit : sn ≤ lf
      · have hfi : (sn : Int) ≤ lf := by omega
        have hwp : IntKind.i64.wrap ((lf : Int) - sn) = ((lf - sn : Nat) : Int) := by rw [Go.IntWalk.i64_in _ ⟨by omega, by omega⟩]; omega
        obtain ⟨l2, hl2⟩ : ∃ l2, lf - sn = l2 := ⟨_, rfl⟩
        rw [hl2] at hwp
        have ht2 : 20 - tot (es ++ [(L i).take k]) = l2 := by rw [tot_snoc, hel]; omega
        go_wp2_with fail
        refine (hr1.out.append (by decide) (by omega) (by decide) (by decide) q k dd ((L i).take k) hel (by omega) (by omega) (fun W hW => holds_tch (holds_tch (L := []) hv.out (fun a ha _ => by simp) (Tch.of_below hb1.out [])) (fun a ha h0 hin => ?_) hW) (by omega)).mono ?_
        · obtain ⟨q3, c3, e3, g1, g2⟩ := hv.out
          have e5 := (Value.slice.inj e3).1
          subst e5
          have g3 := g2 a ha 0 _ (List.getElem?_eq_getElem h0)
          have g4 := World.block_lt_of_cell? w _ g3
          rw [add_block] at g4
          have := hL.out _ hin
          omega
        rintro e3 w3 ⟨rfl, hR3, hU3⟩
        have hr3 := Lib.hid hR3
        have hb3 := Lib.hid (hU3.to_below hb1.out hrg.out hL.out)
        have hl3 := hR3.left (by decide)
        rw [ht2] at hl3
        clear hR3 hU3
        go_wp2_with fail
        refine hl3.mono ?_
        rintro e4 w4 ⟨rfl, hB4⟩
        have hnext : Hid (RoomSt w w4 rg p (i + 1) (es ++ [(L i).take k])) := ⟨hr3.out.below hB4, hb3.out.trans (hB4.mono hb3.out.size)⟩
        clear hB4 hl3
        go_wp2_with fail
        go_roundw
        case rel => exact ⟨i + 1, _, by omega, by omega, by go_num, hnext⟩
        case measure => simp [intOf]; omega
      · have hfi : (lf : Int) < sn := by omega
        go_wp2_with fail
        refine (hr1.out.full (by decide) q k dd (by omega) (by omega)).mono ?_
        rintro e3 w3 ⟨rfl, hB3⟩
        have hr3 := Lib.hid (hr1.out.below hB3)
        have hb3 := Lib.hid (hb1.out.trans (hB3.mono hb1.out.size))
        have hl3 := hr3.out.left (by decide)
        rw [hlf] at hl3
        clear hB3
        go_wp2_with fail
        refine hl3.mono ?_
        rintro e4 w4 ⟨rfl, hB4⟩
        have hnext : Hid (RoomSt w w4 rg p (i + 1) es) := ⟨(hr3.out.below hB4).more (by omega), hb3.out.trans (hB4.mono hb3.out.size)⟩
        clear hB4 hl3
        go_wp2_with fail
        go_roundw
        case rel => exact ⟨i + 1, _, by omega, by omega, by go_num, hnext⟩
        case measure => simp [intOf]; omega
    · obtain rfl : len0 = i := by omega
      have hl := RS.all hr0.out (by decide)
      have hln := len_tot es
      have hft := hr0.out.fit
      have hcu := fun (u : World) (hu : RS u rg p 22 20 (2000 + 2000 * len0) 1 1 es) => hu.cut (by decide) (by omega) (by decide) (by decide) es.length (Nat.le_refl _) none 0 [] 0 rfl (by decide) ⟨⟨none, 0, rfl, fun _ => rfl, fun a ha => by cases ha⟩, none, 0, 0, rfl, fun a ha => by cases ha⟩
      have htz : tot (es.drop es.length) = 0 := by rw [List.drop_length]; rfl
      obtain ⟨n, hn⟩ : ∃ n, es.length = n := ⟨_, rfl⟩
      obtain ⟨F1, hF1⟩ : ∃ F1, 1 + n = F1 := ⟨_, rfl⟩
      obtain ⟨ez, hez⟩ : ∃ ez, es.drop n = ez := ⟨_, rfl⟩
      rw [hn] at hl hcu htz hln
      rw [hez] at htz hcu
      rw [hF1] at hcu
      have hw1 : IntKind.u64.wrap (n : Int) = n := by rw [IntKind.wrap_u64]; omega
      have hw2 : IntKind.u64.wrap ((n : Int) + 1) = (F1 : Nat) := by rw [IntKind.wrap_u64]; omega
      have hcu' := Lib.hid hcu
      clear hcu hez
      go_wp2_with fail
      refine hl.mono ?_
      rintro e1 w1 ⟨⟨q1, c1, rfl⟩, hB1⟩
      have hr1 := Lib.hid (hr0.out.below hB1)
      have hb1 := Lib.hid (hb0.out.trans (hB1.mono hb0.out.size))
      clear hB1 hl
      go_wp2_with fail
      refine (hcu'.out _ hr1.out).mono ?_
      rintro e2 w2 ⟨rfl, hR2, hU2⟩
      have hr2 := Lib.hid hR2
      have hb2 := Lib.hid (hU2.to_below hb1.out hrg.out hL.out)
      have hl2 := hR2.left (by decide)
      rw [htz] at hl2
      clear hR2 hU2
      go_wp2_with fail
      refine hl2.mono ?_
      rintro e3 w3 ⟨rfl, hB3⟩
      have hr3 := Lib.hid (hr2.out.below hB3)
      have hb3 := Lib.hid (hb2.out.trans (hB3.mono hb2.out.size))
      clear hB3 hl2
      go_wp2_with fail
      refine hr3.out.first.mono ?_
      rintro e4 w4 ⟨rfl, hB4⟩
      have hb4 := Lib.hid (hb3.out.trans (hB4.mono hb3.out.size))
      clear hB4
      go_wp2
      first | go_ret | go_ret2
      exact ⟨rfl, hb4.out⟩

set_option maxRecDepth 1000000 in
theorem room_lifted (os : Os) (started : os.Started) (H : Type) (enc : TypeId × Value → H) :
    ReturnsInHanded {} Try.checked os 3 .any (Rows.ringRoomSpec.pre6 enc Try.prog Try.f3 Rows.ringRoomRow.domain false) (Rows.ringRoomSpec.post enc Try.prog Try.f3 false true false false) := by
  refine returnsInHanded_of_change (C := Try.checked) own started (by kernel_rfl) Try.func3
    (ChangeSpec.witness6 (enc := enc) (C := Try.checked) false ⟨#[], #[.slice none 0 0], []⟩ 8 (by kernel_rfl) (by kernel_rfl) (by kernel_rfl) (by kernel_rfl)) ?_
  intro W base args ds gs before hval0 hW _ _
  have hval : ∀ (j : Nat) t v, Try.f3.params[j]? = some t → args[j]? = some v → Value.okWide Try.prog W .any base t v := hval0
  have hW' := hW
  obtain ⟨p, q, hA0, hV, rfl, _, _⟩ := hW
  have hA : DataW.TrodAll enc Try.prog W 0 (fun _ => true) true Try.f3.params.toList args.toList ds p := hA0
  rw [Try.params3] at hA hval
  obtain ⟨v0, d0, rfl, rfl, h0⟩ := trodAll_one hA
  obtain ⟨rfl, rfl⟩ := trodVars_none hV
  obtain ⟨a0, len0, cap0, rfl⟩ := okWide_slice Try.underlying22 (hval 0 22 v0 rfl rfl)
  obtain ⟨l0, hl0⟩ := open_rows h0
  refine (room_law a0 len0 cap0 l0 W hl0).mono fun e W' ⟨he, hb⟩ => ?_
  subst he
  exact ⟨_, rfl, law_post laidOut (of_decide_eq_true (by kernel_rfl)) rfl (by kernel_rfl) Try.underlying4 hW' ⟨rfl, rfl, rfl⟩ hb⟩

set_option maxRecDepth 1000000 in
theorem room_holds : Rows.RingRoomSaid :=
  OpenClaim.holds_of_wide 3 Try.f3 rfl rfl rfl rfl rfl rfl rfl ⟨rfl, rfl, rfl, rfl, rfl⟩ rfl rfl rfl rfl rfl (by kernel_rfl) Try.func3 (by kernel_rfl)
    (of_decide_eq_true (by kernel_rfl)) (by unfold Func.isWrapper; first | (rw [if_pos (by decide +kernel)]; kernel_rfl) | (rw [if_neg (by decide +kernel)]; exact ⟨rfl, rfl⟩))
    (fun os started H enc _ => room_lifted os started H enc)
end Go.Proofs.Ytfpiojdfglbdpaa
