/- The document's RowError and RightList. -/
import Derived.Test.YtkdkncbccofpdaaQ06
import Derived.OrdersHeld
import Derived.Maps.RangeWalk
namespace Go.Proofs.Ytkdkncbccofpdaa
open Go.RowKit
set_option maxRecDepth 100000 in
set_option maxHeartbeats 2000000 in
theorem rowError_any (q : Option Addr) (n c : Nat) (bs : List BdD) (t id v : Int) (s : ByteArray) (w : World) (h : SchOn w q n c bs) (hs : s.size ≤ maxLen) :
 Calls Try.prog 41 #[.agg #[.slice q n c], .agg #[.int .i64 t, .int .u16 id, .int .i64 v, .string s]] w (fun e w' => e = .returned (.int .i64 (rowE bs ⟨⟨t, id⟩, v, s⟩)) ∧ Below w.heap.size w w') := by
 have hl := h.len
 have hm := Nat.le_trans h.le h.cap
 unfold maxLen at hm hs
 obtain ⟨W, hW⟩ : ∃ W, (w.alloc (.cells #[.slice q n c] 24)).alloc (.cells #[.int .i64 t, .int .u16 id, .int .i64 v, .string s] 68) = W := ⟨_, rfl⟩
 have hbx := Lib.hid (two_boxes (xs := [.slice q n c]) (ys := [.int .i64 t, .int .u16 id, .int .i64 v, .string s]) hW)
 have hs1 := sizeSch q n c
 have hs3 := sizeKey t id
 have e1 := Lib.hid hbx.out.2.1
 have e2 := Lib.hid hbx.out.2.2.1
 have hke := Lib.hid (fun u => keyError_any q n c bs t id u hl)
 have hsc := Lib.hid (h.below hbx.out.1 (Nat.le_refl _))
 have hr0 := Lib.hid (rowE_key (bs := bs) (r := ⟨⟨t, id⟩, v, s⟩))
 have hr1 := Lib.hid (rowE_note (bs := bs) (r := ⟨⟨t, id⟩, v, s⟩))
 have hr2 := Lib.hid (rowE_of (bs := bs) (r := ⟨⟨t, id⟩, v, s⟩))
 have hkk := Lib.hid (keyE_or bs ⟨t, id⟩)
 have hnn := Lib.hid (noteE_or ⟨⟨t, id⟩, v, s⟩)
 have hbb := Lib.hid (fun b (hb : bs[t.toNat]? = some b) => boundE_or (bs := bs) (r := ⟨⟨t, id⟩, v, s⟩) hb)
 have hll := Lib.hid hl
 obtain ⟨eK, hK⟩ : ∃ x, keyE bs ⟨t, id⟩ = x := ⟨_, rfl⟩
 rw [hK] at hke
 have hK' := Lib.hid hK
 clear h hl hK
 by_cases hz : eK = 0
 · subst hz
   by_cases hn : s.size ≤ 8
   · have hN : Hid (noteE ⟨⟨t, id⟩, v, s⟩ = 0) := by
      rcases hnn.out with ⟨_, e⟩ | ⟨h8, _⟩
      · exact e
      · exact absurd hn (by show ¬ s.size ≤ 8; have : 8 < s.size := h8; omega)
     have ht : 0 ≤ t ∧ t < n := by
      rcases hkk.out with ⟨a1, a2, _⟩ | ⟨_, e⟩
      · exact ⟨a1, by rw [← hll.out]; exact a2⟩
      · rw [hK'.out] at e; cases e
     obtain ⟨k, rfl⟩ : ∃ k : Nat, t = k := ⟨t.toNat, by omega⟩
     have hk : k < n := by omega
     obtain ⟨a, ⟨lo, hi⟩, rfl, hx, hok, hc⟩ := hsc.out.at hk
     have hB := Lib.hid (hbb.out ⟨lo, hi⟩ (by simpa using hx))
     have hcc := Lib.hid hc
     have i0 : (0 : Int) ≤ k := by omega
     have i1 : (k : Int) < n := by omega
     have hE := Lib.hid (hr2.out hK'.out hN.out)
     obtain ⟨eB, hEB⟩ : ∃ x, rowE bs ⟨⟨(k : Int), id⟩, v, s⟩ = x := ⟨_, rfl⟩
     have hEB' := Lib.hid hEB
     rw [hEB]
     clear hx hok hc hEB ht
     go_enter Try.func41, Try.ntmps41
     go_wp2_with (first
      | (with_reducible refine wpList_load_at rfl 24 (.tmp 2) rfl Try.underlying24 rfl hs1 rfl e1.out.all ?_)
      | (with_reducible refine wpList_load_at rfl 28 (.tmp 6) rfl Try.underlying28 rfl hs3 rfl e2.out.key ?_)
      | (go_at_call 40
         refine (hke.out _).mono ?_
         rintro e w1 ⟨rfl, hb1⟩
         have hb1' := Lib.hid hb1
         have g3 := (e2.out.below hb1 (Nat.le_refl _)).cell 3 rfl
         clear hb1))
     have g0 := (e1.out.below hb1'.out (Nat.le_refl _)).cell 0 rfl
     have g1 := (e2.out.below hb1'.out (Nat.le_refl _)).cell 0 rfl
     have g2 := (e2.out.below hb1'.out (Nat.le_refl _)).cell 2 rfl
     have d0 : w1.cell? (a.add (k * 2)) = some (.int .i64 lo) := by have h := cell_keeps hb1'.out (Nat.le_refl _) (hcc.out 0 _ rfl); rwa [add0] at h
     have d1 : w1.cell? ⟨(a.add (k * 2)).block, (a.add (k * 2)).off + 1, none⟩ = some (.int .i64 hi) := cell_keeps hb1'.out (Nat.le_refl _) (hcc.out 1 _ rfl)
     have hbe := Lib.hid (hbx.out.1.trans (hb1'.out.mono hbx.out.1.size))
     clear hW
     by_cases hlo : v < lo
     · have q0 : decide (v < lo) = true := decide_eq_true hlo
       have hv : eB = 152 := by
        rw [← hEB'.out, hE.out]
        rcases hB.out with ⟨b1, _, _⟩ | ⟨_, e⟩
        · exact absurd hlo (by show ¬ v < lo; have : lo ≤ v := b1; omega)
        · exact e
       have hv' := Lib.hid hv
       clear hv
       go_quiet (fail)
       go_wp2
       go_ret
       exact ⟨ret_i hv'.out.symm, hbe.out.trans ((below_drewN _ _).mono hbe.out.size)⟩
     · have q0 : decide (v < lo) = false := decide_eq_false hlo
       by_cases hhi : hi < v
       · have q1 : decide (hi < v) = true := decide_eq_true hhi
         have hv : eB = 152 := by
          rw [← hEB'.out, hE.out]
          rcases hB.out with ⟨_, b2, _⟩ | ⟨_, e⟩
          · exact absurd hhi (by show ¬ hi < v; have : v ≤ hi := b2; omega)
          · exact e
         have hv' := Lib.hid hv
         clear hv
         go_quiet (fail)
         go_wp2
         go_ret
         exact ⟨ret_i hv'.out.symm, hbe.out.trans ((below_drewN _ _).mono hbe.out.size)⟩
       · have q1 : decide (hi < v) = false := decide_eq_false hhi
         have hv : eB = 0 := by
          rw [← hEB'.out, hE.out]
          rcases hB.out with ⟨_, _, e⟩ | ⟨hor, _⟩
          · exact e
          · exact absurd hor (by show ¬ (v < lo ∨ hi < v); omega)
         have hv' := Lib.hid hv
         clear hv
         go_quiet (fail)
         go_wp2
         go_ret
         exact ⟨ret_i hv'.out.symm, hbe.out.trans ((below_drewN _ _).mono hbe.out.size)⟩
   · have hN : noteE ⟨⟨t, id⟩, v, s⟩ ≠ 0 := by
      rcases hnn.out with ⟨h8, _⟩ | ⟨_, e⟩
      · exact absurd h8 hn
      · rw [e]; decide
     have hE := Lib.hid (hr1.out hK'.out hN)
     have hn' : 8 < s.size := by omega
     rw [hE.out]
     clear hN
     go_enter Try.func41, Try.ntmps41
     go_wp2_with (first
      | (with_reducible refine wpList_load_at rfl 24 (.tmp 2) rfl Try.underlying24 rfl hs1 rfl e1.out.all ?_)
      | (with_reducible refine wpList_load_at rfl 28 (.tmp 6) rfl Try.underlying28 rfl hs3 rfl e2.out.key ?_)
      | (go_at_call 40
         refine (hke.out _).mono ?_
         rintro e w1 ⟨rfl, hb1⟩
         have hb1' := Lib.hid hb1
         have g3 := (e2.out.below hb1 (Nat.le_refl _)).cell 3 rfl
         clear hb1))
     go_ret
     exact ⟨rfl, hbx.out.1.trans (hb1'.out.mono hbx.out.1.size)⟩
 · have hE := Lib.hid (hr0.out (by rw [hK'.out]; exact hz))
   rw [hE.out]
   go_enter Try.func41, Try.ntmps41
   go_wp2_with (first
    | (with_reducible refine wpList_load_at rfl 24 (.tmp 2) rfl Try.underlying24 rfl hs1 rfl e1.out.all ?_)
    | (with_reducible refine wpList_load_at rfl 28 (.tmp 6) rfl Try.underlying28 rfl hs3 rfl e2.out.key ?_)
    | (go_at_call 40
       refine (hke.out _).mono ?_
       rintro e w1 ⟨rfl, hb1⟩
       have hb1' := Lib.hid hb1
       clear hb1))
   go_ret
   exact ⟨rfl, hbx.out.1.trans (hb1'.out.mono hbx.out.1.size)⟩
set_option maxRecDepth 100000 in
set_option maxHeartbeats 4000000 in
theorem rightList_any (q : Option Addr) (n c : Nat) (bs : List BdD) (lq : Option Addr) (ln lc : Nat) (l : List RowD) (w : World) (h : SchOn w q n c bs) (hr : RowsOn w lq ln lc l) :
 Calls Try.prog 16 #[.agg #[.slice q n c], .slice lq ln lc] w (fun e w' => e = .returned (.bool (okL bs l)) ∧ Below w.heap.size w w') := by
 have hll := Lib.hid hr.len
 have hm := Nat.le_trans hr.le hr.cap
 unfold maxLen at hm
 obtain ⟨W, hW⟩ : ∃ W, w.alloc (.cells #[.slice q n c] 24) = W := ⟨_, rfl⟩
 have hbx := Lib.hid (one_box (xs := [.slice q n c]) hW)
 have hh := Lib.hid (h.below hbx.out.1 (Nat.le_refl _))
 have hrr := Lib.hid (hr.below hbx.out.1 (Nat.le_refl _))
 clear h hr
 by_cases h60 : ln ≤ 60
 · have hv0 : Hid ((∀ i, i < ln → okAt bs l i) → okL bs l = true) := fun hk => (okL_iff bs l).2 ⟨by rw [hll.out]; exact h60, fun i r hr => hk i (by have := (List.getElem?_eq_some_iff.1 hr).1; rw [hll.out] at this; exact this) r hr⟩
   have hv1 : Hid (∀ i, ¬ okAt bs l i → okL bs l = false) := fun i hk => by
    cases ho : okL bs l with
    | false => rfl
    | true => exact absurd (((okL_iff bs l).1 ho).2 i) hk
   obtain ⟨E, hE⟩ : ∃ E, okL bs l = E := ⟨_, rfl⟩
   rw [hE] at hv0 hv1 ⊢
   clear hE
   have hr0 : Hid (LstRel W W bs l 0) := ⟨Below.refl _ _, fun i hi => by omega⟩
   go_enter Try.func16, Try.ntmps16
   go_wp2
   clear hW
   go_loopw [5] (fun v5 wr => ∃ k : Nat, k ≤ ln ∧ v5 = .int .i64 k ∧ Hid (LstRel W wr bs l k)) (fun v5 _ => ln - (intOf v5).toNat)
   case atStart => exact ⟨0, Nat.zero_le _, rfl, hr0⟩
   case round =>
    obtain ⟨k, hk, rfl, hrl⟩ := hrel
    by_cases hlt : k < ln
    · obtain ⟨a, ⟨⟨t, id⟩, v, s⟩, rfl, hx, hok, hc⟩ := (hrr.out.below hrl.out.1 (Nat.le_refl _)).at hlt
      have hsn := Lib.hid hok.note
      have hx' := Lib.hid hx
      have s0 := (hbx.out.2.1.below hrl.out.1 (Nat.le_refl _)).cell 0 rfl
      have p0 : wr.cell? (a.add (k * 4)) = some (.int .i64 t) := by have h := hc 0 _ rfl; rwa [add0] at h
      have p1 : wr.cell? ⟨(a.add (k * 4)).block, (a.add (k * 4)).off + 1, none⟩ = some (.int .u16 id) := hc 1 _ rfl
      have p2 : wr.cell? ⟨(a.add (k * 4)).block, (a.add (k * 4)).off + 2, none⟩ = some (.int .i64 v) := hc 2 _ rfl
      have p3 : wr.cell? ⟨(a.add (k * 4)).block, (a.add (k * 4)).off + 3, none⟩ = some (.string s) := hc 3 _ rfl
      have hre := Lib.hid (fun u (hu : Below wr.heap.size wr u) => rowError_any q n c bs t id v s u ((hh.out.below hrl.out.1 (Nat.le_refl _)).below hu (Nat.le_refl _)) hsn.out)
      obtain ⟨eR, hR⟩ : ∃ x, rowE bs ⟨⟨t, id⟩, v, s⟩ = x := ⟨_, rfl⟩
      rw [hR] at hre
      have hR' := Lib.hid hR
      have i0 : (0 : Int) ≤ k := by omega
      have i1 : (k : Int) < ln := by omega
      have hcR : Hid (∀ j' x', ([.int .i64 t, .int .u16 id, .int .i64 v, .string s] : List Value)[j']? = some x' → wr.cell? ((a.add (k * 4)).add j') = some x') := hc
      have hsB : Hid (Boxed wr.drew w.heap.size [.slice q n c]) := (hbx.out.2.1.below hrl.out.1 (Nat.le_refl _)).below (below_drew wr) (Nat.le_refl _)
      have hs1 := sizeSch q n c
      have hs2 := sizeRow t id v s
      clear hx hok hc hR
      by_cases hz : eR = 0
      · subst hz
        rcases Nat.eq_zero_or_pos k with hk0 | hpos
        · subst hk0
          have ha0 : a.add (0 * 4) = a := by rw [Nat.zero_mul, add0]
          rw [ha0] at p0 p1 p2 p3
          clear ha0
          have hcc : Hid (∀ j' x', ([.int .i64 t, .int .u16 id, .int .i64 v, .string s] : List Value)[j']? = some x' → wr.drew.cell? (a.add j') = some x') := by have h := hcR.out; rwa [Nat.zero_mul, add0] at h
          clear hcR p0 p1 p2 p3 s0
          go_wp2
          have hS0 : Hid ((∀ j' x', ([.slice q n c] : List Value)[j']? = some x' → wr.drew.cell? ((⟨w.heap.size, 0, none⟩ : Addr).add j') = some x') ∧ (∀ j' x', ([.int .i64 t, .int .u16 id, .int .i64 v, .string s] : List Value)[j']? = some x' → wr.drew.cell? (a.add j') = some x')) := ⟨hsB.out, hcc.out⟩
          refine wp_region_held (S := fun u => (∀ j' x', ([.slice q n c] : List Value)[j']? = some x' → u.cell? ((⟨w.heap.size, 0, none⟩ : Addr).add j') = some x') ∧ (∀ j' x', ([.int .i64 t, .int .u16 id, .int .i64 v, .string s] : List Value)[j']? = some x' → u.cell? (a.add j') = some x')) (by kernel_rfl) ?_
          change wpAnyH _ _ _ _ _ _ _ _ (World.drew wr)
          refine held_take (i := 0) (dst := some 15) rfl rfl (by kernel_rfl) (by kernel_rfl) (by kernel_rfl) (fun _ _ _ h => h) (y_load_agg 24 (.tmp 2) rfl rfl rfl (fun W hW => run_loadVar_at Try.underlying24 rfl hs1 _ hW.1)) hS0.out ?_
          go_frame
          refine held_take (i := 1) (dst := some 16) rfl rfl (by kernel_rfl) (by kernel_rfl) (by kernel_rfl) (fun _ _ _ h => h) (y_move (.tmp 1) rfl rfl rfl) hS0.out ?_
          go_frame
          refine held_take (i := 2) (dst := some 17) rfl rfl (by kernel_rfl) (by kernel_rfl) (by kernel_rfl) (fun _ _ _ h => h) (y_move (.tmp 5) rfl rfl rfl) hS0.out ?_
          go_frame
          refine held_take (i := 3) (dst := some 18) (v := .pointer (some (a))) rfl rfl (by kernel_rfl) (by kernel_rfl) (by kernel_rfl) (fun _ _ _ h => h) (.inl ⟨rfl, fun W _ => by go_simp⟩) hS0.out ?_
          go_frame
          refine held_take (i := 4) (dst := some 19) rfl rfl (by kernel_rfl) (by kernel_rfl) (by kernel_rfl) (fun _ _ _ h => h) (y_load_agg 68 (.tmp 18) rfl rfl rfl (fun W hW => run_loadVar_at Try.underlying68 rfl hs2 _ hW.2)) hS0.out ?_
          go_frame
          refine held_call (i := 5) (dst := some 20) rfl rfl (by kernel_rfl) rfl (by go_simp) (hre.out _ (below_drew _)) ?_
          rintro e x4 ⟨rfl, hb6⟩
          have hb8 := Lib.hid ((below_drew wr).trans hb6)
          have hS1 : Hid ((∀ j' x', ([.slice q n c] : List Value)[j']? = some x' → x4.cell? ((⟨w.heap.size, 0, none⟩ : Addr).add j') = some x') ∧ (∀ j' x', ([.int .i64 t, .int .u16 id, .int .i64 v, .string s] : List Value)[j']? = some x' → x4.cell? (a.add j') = some x')) := ⟨fun j' x' h => cell_keeps hb6 (Nat.le_refl _) (hS0.out.1 j' x' h), fun j' x' h => cell_keeps hb6 (Nat.le_refl _) (hS0.out.2 j' x' h)⟩
          clear hb6
          refine ⟨_, rfl, hS1.out, ?_⟩
          go_frame
          refine held_take (i := 6) (dst := some 21) (v := .bool false) rfl rfl (by kernel_rfl) (by kernel_rfl) (by kernel_rfl) (fun _ _ _ h => h) (.inl ⟨rfl, fun W _ => by go_simp⟩) hS1.out ?_
          go_frame
          refine held_take (i := 7) (dst := some 22) (v := .bool false) rfl rfl (by kernel_rfl) (by kernel_rfl) (by kernel_rfl) (fun _ _ _ h => h) (.inl ⟨rfl, fun W _ => by go_simp⟩) hS1.out ?_
          go_frame
          refine held_take (i := 8) (dst := some 23) (v := .int .i64 0) rfl rfl (by kernel_rfl) (by kernel_rfl) (by kernel_rfl) (fun _ _ _ h => h) (.inl ⟨rfl, fun W _ => by go_simp⟩) hS1.out ?_
          go_frame
          refine held_take (i := 9) (dst := some 24) (v := .bool false) rfl rfl (by kernel_rfl) (by kernel_rfl) (by kernel_rfl) (fun _ _ _ h => h) (.inl ⟨rfl, fun W _ => by go_simp⟩) hS1.out ?_
          go_frame
          refine held_take (i := 10) (dst := some 25) (v := .bool false) rfl rfl (by kernel_rfl) (by kernel_rfl) (by kernel_rfl) (fun _ _ _ h => h) (.inl ⟨rfl, fun W _ => by go_simp⟩) hS1.out ?_
          go_frame
          refine held_take (i := 11) (dst := some 26) (v := undef) rfl rfl (by kernel_rfl) (by kernel_rfl) (by kernel_rfl) (fun _ _ _ h => h) (.inr ⟨rfl, rfl⟩) hS1.out ?_
          go_frame
          refine held_take (i := 12) (dst := some 27) (v := undef) rfl rfl (by kernel_rfl) (by kernel_rfl) (by kernel_rfl) (fun _ _ _ h => h) (.inr ⟨rfl, rfl⟩) hS1.out ?_
          go_frame
          refine held_take (i := 13) (dst := some 28) (v := undef) rfl rfl (by kernel_rfl) (by kernel_rfl) (by kernel_rfl) (fun _ _ _ h => h) (.inr ⟨rfl, rfl⟩) hS1.out ?_
          go_frame
          refine held_take (i := 14) (dst := some 29) (v := undef) rfl rfl (by kernel_rfl) (by kernel_rfl) (by kernel_rfl) (fun _ _ _ h => h) (.inr ⟨rfl, rfl⟩) hS1.out ?_
          go_frame
          refine held_take (i := 15) (dst := some 30) (v := undef) rfl rfl (by kernel_rfl) (by kernel_rfl) (by kernel_rfl) (fun _ _ _ h => h) (.inr ⟨rfl, rfl⟩) hS1.out ?_
          go_frame
          refine held_take (i := 16) (dst := some 31) (v := undef) rfl rfl (by kernel_rfl) (by kernel_rfl) (by kernel_rfl) (fun _ _ _ h => h) (.inr ⟨rfl, rfl⟩) hS1.out ?_
          go_frame
          refine held_take (i := 17) (dst := some 32) (v := undef) rfl rfl (by kernel_rfl) (by kernel_rfl) (by kernel_rfl) (fun _ _ _ h => h) (.inr ⟨rfl, rfl⟩) hS1.out ?_
          go_frame
          refine held_take (i := 18) (dst := some 33) (v := undef) rfl rfl (by kernel_rfl) (by kernel_rfl) (by kernel_rfl) (fun _ _ _ h => h) (.inr ⟨rfl, rfl⟩) hS1.out ?_
          go_frame
          refine held_take (i := 19) (dst := some 34) (v := undef) rfl rfl (by kernel_rfl) (by kernel_rfl) (by kernel_rfl) (fun _ _ _ h => h) (.inr ⟨rfl, rfl⟩) hS1.out ?_
          go_frame
          refine held_take (i := 20) (dst := some 35) (v := undef) rfl rfl (by kernel_rfl) (by kernel_rfl) (by kernel_rfl) (fun _ _ _ h => h) (.inr ⟨rfl, rfl⟩) hS1.out ?_
          go_frame
          refine held_take (i := 21) (dst := some 36) (v := undef) rfl rfl (by kernel_rfl) (by kernel_rfl) (by kernel_rfl) (fun _ _ _ h => h) (.inr ⟨rfl, rfl⟩) hS1.out ?_
          go_frame
          refine held_take (i := 22) (dst := some 37) (v := undef) rfl rfl (by kernel_rfl) (by kernel_rfl) (by kernel_rfl) (fun _ _ _ h => h) (.inr ⟨rfl, rfl⟩) hS1.out ?_
          go_frame
          refine held_take (i := 23) (dst := some 38) (v := undef) rfl rfl (by kernel_rfl) (by kernel_rfl) (by kernel_rfl) (fun _ _ _ h => h) (.inr ⟨rfl, rfl⟩) hS1.out ?_
          go_frame
          refine held_take (i := 24) (dst := some 39) (v := .bool false) rfl rfl (by kernel_rfl) (by kernel_rfl) (by kernel_rfl) (fun _ _ _ h => h) (.inl ⟨rfl, fun W _ => by go_simp⟩) hS1.out ?_
          go_frame
          refine held_take (i := 25) (dst := some 40) (v := .bool false) rfl rfl (by kernel_rfl) (by kernel_rfl) (by kernel_rfl) (fun _ _ _ h => h) (.inl ⟨rfl, fun W _ => by go_simp⟩) hS1.out ?_
          go_frame
          refine wpAnyH_done (by kernel_rfl) ?_ _
          go_wp2
          go_roundw
          case rel =>
           refine ⟨1, by omega, by go_num, hrl.out.1.trans (hb8.out.mono hrl.out.1.size), fun i hi r hr => ?_⟩
           obtain rfl : i = 0 := by omega
           rw [hx'.out] at hr
           cases hr
           exact ⟨hR'.out, fun j p hj => by omega⟩
          case measure => simp [intOf]; omega
        · obtain ⟨m, rfl⟩ : ∃ m, k = m + 1 := ⟨k - 1, by omega⟩
          obtain ⟨a', ⟨⟨pt, pid⟩, pv, ps⟩, ha', hy, hok, hc⟩ := (hrr.out.below hrl.out.1 (Nat.le_refl _)).at (show m < ln by omega)
          cases ha'
          have hy' := Lib.hid hy
          have g0 : wr.cell? (a.add (m * 4)) = some (.int .i64 pt) := by have h := hc 0 _ rfl; rwa [add0] at h
          have g1 : wr.cell? ⟨(a.add (m * 4)).block, (a.add (m * 4)).off + 1, none⟩ = some (.int .u16 pid) := hc 1 _ rfl
          clear hy hok hc
          have hpos' : (0 : Int) < (m : Int) + 1 := by omega
          have hcmp := Lib.hid (fun u => refCompare_any pt pid t id u)
          obtain ⟨x, hxx⟩ : ∃ x, cmpK ⟨pt, pid⟩ ⟨t, id⟩ = x := ⟨_, rfl⟩
          rw [hxx] at hcmp
          have hx2 := Lib.hid hxx
          clear hxx
          have w0 : IntKind.i64.wrap ((m : Int) + 1 - 1) = m := by rw [Int.add_sub_cancel]; exact IntWalk.i64_in (m : Int) (by omega)
          have w1' : IntKind.i64.wrap (m : Int) = m := IntWalk.i64_in (m : Int) (by omega)
          have j0 : (0 : Int) ≤ m := by omega
          have j1 : (m : Int) < ln := by omega
          have k0 : (0 : Int) ≤ (m : Int) + 1 := by omega
          have k1 : (m : Int) + 1 < ln := by omega
          have k2 : ((m : Int) + 1).toNat = m + 1 := by omega
          by_cases hlt0 : x < 0
          · have hge : ¬ 0 ≤ x := by omega
            go_wp2
            go_region_held3 (fun u => u.cell? ⟨w.heap.size, 0, none⟩ = some (.slice q n c) ∧ u.cell? (a.add ((m + 1) * 4)) = some (.int .i64 t) ∧ u.cell? ⟨(a.add ((m + 1) * 4)).block, (a.add ((m + 1) * 4)).off + 1, none⟩ = some (.int .u16 id) ∧ u.cell? ⟨(a.add ((m + 1) * 4)).block, (a.add ((m + 1) * 4)).off + 2, none⟩ = some (.int .i64 v) ∧ u.cell? ⟨(a.add ((m + 1) * 4)).block, (a.add ((m + 1) * 4)).off + 3, none⟩ = some (.string s) ∧ u.cell? (a.add (m * 4)) = some (.int .i64 pt) ∧ u.cell? ⟨(a.add (m * 4)).block, (a.add (m * 4)).off + 1, none⟩ = some (.int .u16 pid) ∧ Below wr.heap.size wr u)
             (first | exact ⟨s0, p0, p1, p2, p3, g0, g1, below_drew _⟩ | (go_split_ands; exact ⟨cell_keeps hb6.out (Nat.le_refl _) (by assumption), cell_keeps hb6.out (Nat.le_refl _) (by assumption), cell_keeps hb6.out (Nat.le_refl _) (by assumption), cell_keeps hb6.out (Nat.le_refl _) (by assumption), cell_keeps hb6.out (Nat.le_refl _) (by assumption), cell_keeps hb6.out (Nat.le_refl _) (by assumption), cell_keeps hb6.out (Nat.le_refl _) (by assumption), below_step hb6.out (by assumption)⟩))
             (first
               | (go_at_call 41; refine (hre.out _ (by go_split_ands; first | assumption | exact below_drew _)).mono ?_; rintro e x4 ⟨rfl, hb6'⟩; have hb6 := Lib.hid hb6'; clear hb6')
               | (go_at_call 42; refine (hcmp.out _).mono ?_; rintro e x5 ⟨rfl, hb6'⟩; have hb6 := Lib.hid hb6'; clear hb6'))
            have hb8 : Hid (Below wr.heap.size wr x5) := by
             show Below _ _ _
             go_split_ands
             assumption
            clear p0 p1 p2 p3 s0 g0 g1 w0 w1' k0 k1 k2
            go_wp2
            go_roundw
            case rel =>
             refine ⟨m + 1 + 1, by omega, by go_num, hrl.out.1.trans (hb8.out.mono hrl.out.1.size), fun i hi r hr => ?_⟩
             rcases Nat.lt_or_ge i (m + 1) with h | h
             · exact hrl.out.2 i h r hr
             · obtain rfl : i = m + 1 := by omega
               rw [hx'.out] at hr
               cases hr
               refine ⟨hR'.out, fun j p hj hp => ?_⟩
               obtain rfl : m = j := by omega
               rw [hy'.out] at hp
               cases hp
               rw [hx2.out]
               exact hlt0
            case measure => simp [intOf]; omega
          · have hge : 0 ≤ x := by omega
            have hno := Lib.hid (show ¬ okAt bs l (m + 1) from fun hh => by have := (hh _ hx'.out).2 m _ rfl hy'.out; rw [hx2.out] at this; omega)
            go_wp2
            go_region_held3 (fun u => u.cell? ⟨w.heap.size, 0, none⟩ = some (.slice q n c) ∧ u.cell? (a.add ((m + 1) * 4)) = some (.int .i64 t) ∧ u.cell? ⟨(a.add ((m + 1) * 4)).block, (a.add ((m + 1) * 4)).off + 1, none⟩ = some (.int .u16 id) ∧ u.cell? ⟨(a.add ((m + 1) * 4)).block, (a.add ((m + 1) * 4)).off + 2, none⟩ = some (.int .i64 v) ∧ u.cell? ⟨(a.add ((m + 1) * 4)).block, (a.add ((m + 1) * 4)).off + 3, none⟩ = some (.string s) ∧ u.cell? (a.add (m * 4)) = some (.int .i64 pt) ∧ u.cell? ⟨(a.add (m * 4)).block, (a.add (m * 4)).off + 1, none⟩ = some (.int .u16 pid) ∧ Below wr.heap.size wr u)
             (first | exact ⟨s0, p0, p1, p2, p3, g0, g1, below_drew _⟩ | (go_split_ands; exact ⟨cell_keeps hb6.out (Nat.le_refl _) (by assumption), cell_keeps hb6.out (Nat.le_refl _) (by assumption), cell_keeps hb6.out (Nat.le_refl _) (by assumption), cell_keeps hb6.out (Nat.le_refl _) (by assumption), cell_keeps hb6.out (Nat.le_refl _) (by assumption), cell_keeps hb6.out (Nat.le_refl _) (by assumption), cell_keeps hb6.out (Nat.le_refl _) (by assumption), below_step hb6.out (by assumption)⟩))
             (first
               | (go_at_call 41; refine (hre.out _ (by go_split_ands; first | assumption | exact below_drew _)).mono ?_; rintro e x4 ⟨rfl, hb6'⟩; have hb6 := Lib.hid hb6'; clear hb6')
               | (go_at_call 42; refine (hcmp.out _).mono ?_; rintro e x5 ⟨rfl, hb6'⟩; have hb6 := Lib.hid hb6'; clear hb6'))
            have hb8 : Hid (Below wr.heap.size wr x5) := by
             show Below _ _ _
             go_split_ands
             assumption
            clear p0 p1 p2 p3 s0 g0 g1 w0 w1' k0 k1 k2
            go_wp2
            go_ret
            exact ⟨by rw [hv1.out _ hno.out]; rfl, hbx.out.1.trans ((hrl.out.1.trans (hb8.out.mono hrl.out.1.size)).mono hbx.out.1.size)⟩
      · have hno := Lib.hid (show ¬ okAt bs l k from fun hh => hz (by rw [← hR'.out]; exact (hh _ hx'.out).1))
        have hcc : Hid (∀ j' x', ([.int .i64 t, .int .u16 id, .int .i64 v, .string s] : List Value)[j']? = some x' → wr.drew.cell? ((a.add (k * 4)).add j') = some x') := hcR.out
        clear hcR p0 p1 p2 p3 s0
        go_wp2
        have hS0 : Hid ((∀ j' x', ([.slice q n c] : List Value)[j']? = some x' → wr.drew.cell? ((⟨w.heap.size, 0, none⟩ : Addr).add j') = some x') ∧ (∀ j' x', ([.int .i64 t, .int .u16 id, .int .i64 v, .string s] : List Value)[j']? = some x' → wr.drew.cell? ((a.add (k * 4)).add j') = some x')) := ⟨hsB.out, hcc.out⟩
        refine wp_region_held (S := fun u => (∀ j' x', ([.slice q n c] : List Value)[j']? = some x' → u.cell? ((⟨w.heap.size, 0, none⟩ : Addr).add j') = some x') ∧ (∀ j' x', ([.int .i64 t, .int .u16 id, .int .i64 v, .string s] : List Value)[j']? = some x' → u.cell? ((a.add (k * 4)).add j') = some x')) (by kernel_rfl) ?_
        change wpAnyH _ _ _ _ _ _ _ _ (World.drew wr)
        refine held_take (i := 0) (dst := some 15) rfl rfl (by kernel_rfl) (by kernel_rfl) (by kernel_rfl) (fun _ _ _ h => h) (y_load_agg 24 (.tmp 2) rfl rfl rfl (fun W hW => run_loadVar_at Try.underlying24 rfl hs1 _ hW.1)) hS0.out ?_
        go_frame
        refine held_take (i := 1) (dst := some 16) rfl rfl (by kernel_rfl) (by kernel_rfl) (by kernel_rfl) (fun _ _ _ h => h) (y_move (.tmp 1) rfl rfl rfl) hS0.out ?_
        go_frame
        refine held_take (i := 2) (dst := some 17) rfl rfl (by kernel_rfl) (by kernel_rfl) (by kernel_rfl) (fun _ _ _ h => h) (y_move (.tmp 5) rfl rfl rfl) hS0.out ?_
        go_frame
        refine held_take (i := 3) (dst := some 18) (v := .pointer (some (a.add (k * 4)))) rfl rfl (by kernel_rfl) (by kernel_rfl) (by kernel_rfl) (fun _ _ _ h => h) (.inl ⟨rfl, fun W _ => by go_simp⟩) hS0.out ?_
        go_frame
        refine held_take (i := 4) (dst := some 19) rfl rfl (by kernel_rfl) (by kernel_rfl) (by kernel_rfl) (fun _ _ _ h => h) (y_load_agg 68 (.tmp 18) rfl rfl rfl (fun W hW => run_loadVar_at Try.underlying68 rfl hs2 _ hW.2)) hS0.out ?_
        go_frame
        refine held_call (i := 5) (dst := some 20) rfl rfl (by kernel_rfl) rfl (by go_simp) (hre.out _ (below_drew _)) ?_
        rintro e x4 ⟨rfl, hb6⟩
        have hb8 := Lib.hid ((below_drew wr).trans hb6)
        have hS1 : Hid ((∀ j' x', ([.slice q n c] : List Value)[j']? = some x' → x4.cell? ((⟨w.heap.size, 0, none⟩ : Addr).add j') = some x') ∧ (∀ j' x', ([.int .i64 t, .int .u16 id, .int .i64 v, .string s] : List Value)[j']? = some x' → x4.cell? ((a.add (k * 4)).add j') = some x')) := ⟨fun j' x' h => cell_keeps hb6 (Nat.le_refl _) (hS0.out.1 j' x' h), fun j' x' h => cell_keeps hb6 (Nat.le_refl _) (hS0.out.2 j' x' h)⟩
        clear hb6
        refine ⟨_, rfl, hS1.out, ?_⟩
        go_frame
        refine held_take (i := 6) (dst := some 21) (v := .bool true) rfl rfl (by kernel_rfl) (by kernel_rfl) (by kernel_rfl) (fun _ _ _ h => h) (.inl ⟨rfl, fun W _ => by go_simp⟩) hS1.out ?_
        go_frame
        refine held_take (i := 7) (dst := some 22) (v := .bool true) rfl rfl (by kernel_rfl) (by kernel_rfl) (by kernel_rfl) (fun _ _ _ h => h) (.inl ⟨rfl, fun W _ => by go_simp⟩) hS1.out ?_
        go_frame
        refine held_take (i := 8) (dst := some 23) (v := undef) rfl rfl (by kernel_rfl) (by kernel_rfl) (by kernel_rfl) (fun _ _ _ h => h) (.inr ⟨rfl, rfl⟩) hS1.out ?_
        go_frame
        refine held_take (i := 9) (dst := some 24) (v := undef) rfl rfl (by kernel_rfl) (by kernel_rfl) (by kernel_rfl) (fun _ _ _ h => h) (.inr ⟨rfl, rfl⟩) hS1.out ?_
        go_frame
        refine held_take (i := 10) (dst := some 25) (v := undef) rfl rfl (by kernel_rfl) (by kernel_rfl) (by kernel_rfl) (fun _ _ _ h => h) (.inr ⟨rfl, rfl⟩) hS1.out ?_
        go_frame
        refine held_take (i := 11) (dst := some 26) (v := undef) rfl rfl (by kernel_rfl) (by kernel_rfl) (by kernel_rfl) (fun _ _ _ h => h) (.inr ⟨rfl, rfl⟩) hS1.out ?_
        go_frame
        refine held_take (i := 12) (dst := some 27) (v := undef) rfl rfl (by kernel_rfl) (by kernel_rfl) (by kernel_rfl) (fun _ _ _ h => h) (.inr ⟨rfl, rfl⟩) hS1.out ?_
        go_frame
        refine held_take (i := 13) (dst := some 28) (v := undef) rfl rfl (by kernel_rfl) (by kernel_rfl) (by kernel_rfl) (fun _ _ _ h => h) (.inr ⟨rfl, rfl⟩) hS1.out ?_
        go_frame
        refine held_take (i := 14) (dst := some 29) (v := undef) rfl rfl (by kernel_rfl) (by kernel_rfl) (by kernel_rfl) (fun _ _ _ h => h) (.inr ⟨rfl, rfl⟩) hS1.out ?_
        go_frame
        refine held_take (i := 15) (dst := some 30) (v := undef) rfl rfl (by kernel_rfl) (by kernel_rfl) (by kernel_rfl) (fun _ _ _ h => h) (.inr ⟨rfl, rfl⟩) hS1.out ?_
        go_frame
        refine held_take (i := 16) (dst := some 31) (v := undef) rfl rfl (by kernel_rfl) (by kernel_rfl) (by kernel_rfl) (fun _ _ _ h => h) (.inr ⟨rfl, rfl⟩) hS1.out ?_
        go_frame
        refine held_take (i := 17) (dst := some 32) (v := undef) rfl rfl (by kernel_rfl) (by kernel_rfl) (by kernel_rfl) (fun _ _ _ h => h) (.inr ⟨rfl, rfl⟩) hS1.out ?_
        go_frame
        refine held_take (i := 18) (dst := some 33) (v := undef) rfl rfl (by kernel_rfl) (by kernel_rfl) (by kernel_rfl) (fun _ _ _ h => h) (.inr ⟨rfl, rfl⟩) hS1.out ?_
        go_frame
        refine held_take (i := 19) (dst := some 34) (v := undef) rfl rfl (by kernel_rfl) (by kernel_rfl) (by kernel_rfl) (fun _ _ _ h => h) (.inr ⟨rfl, rfl⟩) hS1.out ?_
        go_frame
        refine held_take (i := 20) (dst := some 35) (v := undef) rfl rfl (by kernel_rfl) (by kernel_rfl) (by kernel_rfl) (fun _ _ _ h => h) (.inr ⟨rfl, rfl⟩) hS1.out ?_
        go_frame
        refine held_take (i := 21) (dst := some 36) (v := undef) rfl rfl (by kernel_rfl) (by kernel_rfl) (by kernel_rfl) (fun _ _ _ h => h) (.inr ⟨rfl, rfl⟩) hS1.out ?_
        go_frame
        refine held_take (i := 22) (dst := some 37) (v := undef) rfl rfl (by kernel_rfl) (by kernel_rfl) (by kernel_rfl) (fun _ _ _ h => h) (.inr ⟨rfl, rfl⟩) hS1.out ?_
        go_frame
        refine held_take (i := 23) (dst := some 38) (v := undef) rfl rfl (by kernel_rfl) (by kernel_rfl) (by kernel_rfl) (fun _ _ _ h => h) (.inr ⟨rfl, rfl⟩) hS1.out ?_
        go_frame
        refine held_take (i := 24) (dst := some 39) (v := undef) rfl rfl (by kernel_rfl) (by kernel_rfl) (by kernel_rfl) (fun _ _ _ h => h) (.inr ⟨rfl, rfl⟩) hS1.out ?_
        go_frame
        refine held_take (i := 25) (dst := some 40) (v := .bool true) rfl rfl (by kernel_rfl) (by kernel_rfl) (by kernel_rfl) (fun _ _ _ h => h) (.inl ⟨rfl, fun W _ => by go_simp⟩) hS1.out ?_
        go_frame
        refine wpAnyH_done (by kernel_rfl) ?_ _
        go_wp2
        go_ret
        exact ⟨by rw [hv1.out _ hno.out]; rfl, hbx.out.1.trans ((hrl.out.1.trans (hb8.out.mono hrl.out.1.size)).mono hbx.out.1.size)⟩
    · obtain rfl : ln = k := by omega
      go_wp2
      go_ret
      exact ⟨by rw [hv0.out hrl.out.2]; rfl, hbx.out.1.trans (hrl.out.1.mono hbx.out.1.size)⟩
 · have hv : okL bs l = false := by
    cases ho : okL bs l with
    | false => rfl
    | true => exact absurd (by rw [← hll.out]; exact ((okL_iff bs l).1 ho).1) h60
   rw [hv]
   clear hv
   go_enter Try.func16, Try.ntmps16
   go_wp2
   go_ret
   exact ⟨rfl, hbx.out.1⟩
end Go.Proofs.Ytkdkncbccofpdaa
