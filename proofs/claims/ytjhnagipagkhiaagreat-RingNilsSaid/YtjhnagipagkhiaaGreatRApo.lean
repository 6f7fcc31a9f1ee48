/- Append: the entry is laid, and is there. -/
import Derived.Test.YtjhnagipagkhiaaGreatRApp
namespace Go.Proofs.YtjhnagipagkhiaaGreat
open Go.RowKit

set_option maxRecDepth 100000 in
set_option maxHeartbeats 1000000 in
theorem append_ok (rg : Nat) (p : Pl) (d d' : Dk) (x : RgV) (vs : List Value) (es : List (List UInt8)) (note : List UInt8) (q : Option Addr) (c : Nat) (e : List UInt8) (w : World) (h : RgOn w rg p d x vs es note) (hbr : x.br = false) (hn : e.length ≤ 8000) (hu : x.used ≤ x.size) (hs : x.size < 10000)
    (hfit : secs e.length ≤ x.size - x.used) (hfst : x.first + x.el ≤ 1099511627775) (hel : x.el < 100000) (ht : x.turn < 4294967296) (hp : x.place < 100000) (he : ∀ W, Tch p.L w W → Lib.HoldsBytes W (.slice q e.length c) e) (hec2 : e.length ≤ c) (h0 : 0 ≤ d.ops) (h1 : d.ops < 1152921504606846976)
    (hlay : layAll d [nxtL x.turn (x.first + x.el) x.size x.place x.used e] = (0, d')) :
    Calls Tryz.prog 18 #[.pointer (some ⟨rg, 0, none⟩), .slice q e.length c] w (fun e' w' => e' = .returned (.int .i64 0) ∧ ∃ x' v, RgOn w' rg p d' x' (vs ++ [v]) (es ++ [e]) note ∧
      x'.turn = x.turn ∧ x'.size = x.size ∧ x'.first = x.first ∧ x'.place = x.place ∧ x'.used = x.used + secs e.length ∧ x'.br = x.br ∧ Up rg p.L w w') := by
  obtain ⟨n, hne⟩ : ∃ n, e.length = n := ⟨_, rfl⟩
  have c8 : w.cell? ⟨rg, 8, none⟩ = some (.bool false) := by rw [← hbr]; exact h.here.c8
  have hsec := fun u => sectors_any n u (by omega)
  have hlf := fun u hu2 => left_any rg x u hu2 hu (by omega)
  have hnx := fun u hu2 => nextNum_any rg x u hu2 (by omega) (by omega)
  have hh := Lib.hid h
  have hee := Lib.hid he
  have hlay' := Lib.hid hlay
  rw [hne] at hn hfit hec2 ⊢
  have hsn : secs n < 100000 := by unfold secs; omega
  have hfi : (secs n : Int) ≤ ((x.size - x.used : Nat) : Int) := by omega
  have hnum : ((x.first + x.el : Nat) : Int) ≤ 1099511627775 := by omega
  have h8 : (n : Int) ≤ 8000 := by omega
  have hu2 : x.used < 10000 := by omega
  have hs2 : x.size < 100000 := by omega
  have hf1 : x.first < 1099511627776 := by omega
  have hf2 : x.el < 1099511627776 := by omega
  clear h he hlay hfit hfst
  obtain ⟨lf, hlf2⟩ : ∃ lf, x.size - x.used = lf := ⟨_, rfl⟩
  obtain ⟨nb, hnb2⟩ : ∃ nb, x.first + x.el = nb := ⟨_, rfl⟩
  rw [hlf2] at hlf hfi
  rw [hnb2] at hnx hnum
  go_enter Tryz.func18, Tryz.ntmps18
  go_wp2_with (first
    | (go_at_call 15; refine (hsec _).mono ?_; rintro e w' ⟨rfl, hw'⟩; obtain rfl := hw'.symm)
    | (go_at_call 23; refine (hlf _ hh.out.here).mono ?_; rintro e w1 ⟨rfl, hb1⟩; have hh1 := Lib.hid (hh.out.below hb1); have hb1' := Lib.hid hb1; clear hb1)
    | (go_at_call 56; refine (hnx _ hh1.out.here).mono ?_; rintro e w2 ⟨rfl, hb2⟩; have hh2 := Lib.hid (hh1.out.below hb2); have hb2' := Lib.hid (hb1'.out.trans (hb2.mono hb1'.out.size)); clear hb2))
  have hh3 := hh2.out.below ((Below.refl w2.heap.size w2).drew)
  have hb3 : Below w.heap.size w w2.drew := hb2'.out.drew
  refine wp_region_held (S := fun W => W.cell? ⟨rg, 5, none⟩ = some (ptr p)) (by kernel_rfl) ?_
  change wpAnyH _ _ _ _ _ _ _ _ (World.drew w2)
  have c5 : w2.drew.cell? ⟨rg, 5, none⟩ = some (ptr p) := by rw [← hh3.dp]; exact hh3.here.c5
  have hS := c5
  refine held_take (i := 0) (dst := some 30) (v := .pointer (some ⟨rg, 0, none⟩)) rfl rfl (by kernel_rfl) (by kernel_rfl) (by kernel_rfl) (fun _ _ _ h => h) (y_move (.tmp 0) rfl rfl rfl) hS ?_
  go_frame
  refine held_take (i := 1) (dst := some 31) (v := .pointer (some ⟨rg, 0, none⟩)) rfl rfl (by kernel_rfl) (by kernel_rfl) (by kernel_rfl) (fun _ _ _ h => h) (.inl ⟨rfl, fun W hW => by go_simp⟩) hS ?_
  go_frame
  refine held_take (i := 2) (dst := some 32) (v := .pointer (some ⟨rg, 5, none⟩)) rfl rfl (by kernel_rfl) (by kernel_rfl) (by kernel_rfl) (fun _ _ _ h => h) (.inl ⟨rfl, fun W hW => by go_simp⟩) hS ?_
  go_frame
  refine held_take (i := 3) (dst := some 33) (v := ptr p) rfl rfl (by kernel_rfl) (by kernel_rfl) (by kernel_rfl) (fun _ _ _ h => h) (.inl ⟨rfl, fun W hW => by have c1 : W.cell? ⟨rg, 5, none⟩ = some (ptr p) := hW; go_simp⟩) hS ?_
  go_frame
  refine held_take (i := 4) (dst := some 34) (v := .pointer (some ⟨rg, 0, none⟩)) rfl rfl (by kernel_rfl) (by kernel_rfl) (by kernel_rfl) (fun _ _ _ h => h) (y_move (.tmp 0) rfl rfl rfl) hS ?_
  go_frame
  refine held_take (i := 5) (dst := some 35) (v := .slice q n c) rfl rfl (by kernel_rfl) (by kernel_rfl) (by kernel_rfl) (fun _ _ _ h => h) (y_move (.tmp 1) rfl rfl rfl) hS ?_
  go_frame
  have hln := laidNext_any rg x q c e w2.drew hh3.here (hee.out _ (Tch.of_below hb3 p.L)) hf1 hf2
  rw [hne] at hln
  refine held_call (i := 6) (dst := some 36) rfl rfl (by kernel_rfl) rfl (by go_simp) hln ?_
  rintro e' w4 ⟨mB, rB, eB, rfl, hN, hb4, hmB, hrB, heB⟩
  have hh4 := hh3.below hb4
  have c54 : w4.cell? ⟨rg, 5, none⟩ = some (ptr p) := by rw [← hh4.dp]; exact hh4.here.c5
  refine ⟨_, rfl, c54, ?_⟩
  go_frame
  obtain ⟨fv, hfv⟩ : ∃ fv : Value, fv = .func (.func 85) #[] #[.pointer (some ⟨mB, 0, none⟩), .pointer (some ⟨rB, 0, none⟩), .pointer (some ⟨eB, 0, none⟩)] := ⟨_, rfl⟩
  rw [← hfv]
  have hb5 : Below w4.heap.size w4 (w4.alloc (.cells #[fv] 99)) := (Below.refl _ _).alloc (Nat.le_refl _) _
  obtain ⟨w5, hw5⟩ : ∃ w5, w4.alloc (.cells #[fv] 99) = w5 := ⟨_, rfl⟩
  rw [hw5] at hb5
  have hr5 : RowV 99 w5 w4.heap.size [fv] := by rw [← hw5]; exact RowV.made w4 _
  have hh5 := hh4.below hb5
  have c55 : w5.cell? ⟨rg, 5, none⟩ = some (ptr p) := by rw [← hh5.dp]; exact hh5.here.c5
  refine held_value (i := 7) (dst := some 37) (v := .slice (some ⟨w4.heap.size, 0, none⟩) 1 1) (w' := w5) rfl rfl (by kernel_rfl) rfl (by rw [← hw5]; go_simp) c55 ?_
  go_frame
  have hb25 : Below w2.drew.heap.size w2.drew w5 := hb4.trans (hb5.mono hb4.size)
  have hbw5 : Below w.heap.size w w5 := hb3.trans (hb25.mono hb3.size)
  have hrgs : rg < w2.drew.heap.size := hh3.size
  have hqs : ∀ W, Tch p.L w5 W → Lib.HoldsBytes W (.slice q e.length c) e := fun W hW => hee.out W ((Tch.of_below hbw5 p.L).trans hW)
  have hN5 := hN.below hb5
  rw [← hne] at hN5
  have hgo := nxt_grp hN5 hh5.low (by omega) (by omega) (by omega) hqs (by omega) (by omega) ht hp hs2 hu2
  have hlc := lay_any p d w5 hh5.disk [⟨85, #[], #[.pointer (some ⟨mB, 0, none⟩), .pointer (some ⟨rB, 0, none⟩), .pointer (some ⟨eB, 0, none⟩)], nxtL x.turn (x.first + x.el) x.size x.place x.used e⟩] (some ⟨w4.heap.size, 0, none⟩) 1
    (fun i g hg => by
      rcases i with _ | i
      · simp only [List.getElem?_cons_zero, Option.some.injEq] at hg
        subst hg
        exact ⟨_, rfl, hh4.far (Nat.le_of_lt hh4.size), by rw [Addr.add, if_pos rfl, hr5.cell 0, hfv]; rfl⟩
      · simp at hg) (fun g hg => by rw [List.mem_singleton.1 hg]; exact hgo) (by simp) h0 h1
  simp only [List.map_cons, List.map_nil, List.length_cons, List.length_nil] at hlc
  rw [hlay'.out] at hlc
  refine held_call (i := 8) (dst := some 38) rfl rfl (by kernel_rfl) rfl (by go_simp) hlc ?_
  rintro e' w6 ⟨rfl, hA6, hT6⟩
  have hh6 := hh5.tch hA6 hT6
  have c56 : w6.cell? ⟨rg, 5, none⟩ = some (ptr p) := by rw [← hh6.dp]; exact hh6.here.c5
  refine ⟨_, rfl, c56, ?_⟩
  go_frame
  refine held_take (i := 9) (dst := some 5) (v := .int .i64 0) rfl rfl (by kernel_rfl) (by kernel_rfl) (by kernel_rfl) (fun _ _ _ h => h) (.inl ⟨rfl, fun W hW => by go_simp⟩) c56 ?_
  go_frame
  refine wpAnyH_done (by kernel_rfl) ?_ _
  have hv6 := hee.out w6 ((Tch.of_below hbw5 p.L).trans hT6)
  rw [hne] at hv6
  have hcl := clone q n c e w6 hv6 (by omega)
  have hu6 : Up rg p.L w w6 := (Up.of_below p.L hbw5 (by have := hh.out.size; omega)).trans (Up.of_tch hT6 (by have := hh5.size; omega))
  have hh6' := Lib.hid hh6
  have hu6' := Lib.hid hu6
  clear hlc hgo hN5 hN hqs hh5 hh4 hh3 c55 c54 c5 c56 hS hr5 hT6 hA6 hv6 hb5 hb4 hb25 hbw5 hb3 hu6 hh6 hln hw5 hfv
  clear hee hlay' hsec hlf hnx hlf2 hnb2 hb1' hb2' hh1 hh2 hfi hnum hmB hrB heB hh hrgs
  have had := fun (q7 : Option Addr) (c7 : Nat) (w7 : World) (hh7 : RgOn w7 rg p d' x vs es note) => add_any rg p d' x vs es note q7 n c7 w7 hh7 hel (by omega) hn
  have hcl2 := hcl
  unfold ClonePost at hcl2
  rw [hne] at hcl2
  clear hcl
  go_wp2_with (first
    | (go_at_call 59; refine hcl2.mono ?_; rintro e' w7 ⟨q7, c7, rfl, hnew, hb7⟩; have hn7 := Lib.hid hnew; have hb7' := Lib.hid hb7; clear hnew hb7)
    | (go_at_call 58; refine (had _ _ _ (hh6'.out.below hb7'.out)).mono ?_; rintro e' w8 ⟨v8, q8, c8n, rfl, hr8, w81, w82, ho8, hb8, hg8, hat8, hg9⟩))
  go_ret
  have hh7 := hh6'.out.below hb7'.out
  have hs6 := hh6'.out.size
  have hs7 := hb7'.out.size
  have hs8 := hb8.size
  have hs9 := hg8.size
  have hfar := hh6'.out.own.far
  refine ⟨rfl, _, .slice q7 n c7, hh7.more (Ent.of_new hn7.out (by omega)) (fun a ha b hb => ?_) hr8 ⟨rfl, rfl, rfl, rfl, rfl, rfl, rfl⟩ ho8 hb8 hg8 hat8 hg9, rfl, rfl, rfl, rfl, rfl, rfl, ?_⟩
  · have h2 := (hfar a ha).2
    subst hb
    have h3 := (hn7.out.2 b n c7 rfl).1
    omega
  · refine (hu6'.out.trans (Up.of_below p.L hb7'.out (by omega))).trans ((Up.of_below p.L hb8 (by omega)).trans ((Up.grown p.L hg8 (by omega) (fun k e => ?_)).trans (Up.grown p.L hg9 (by omega) (fun k e => by cases e; exact Nat.le_refl _))))
    cases hq : x.eq with
    | none => rw [hq] at e; cases e
    | some a =>
      rw [hq] at e
      have h1 := (hfar a hq).1
      have h2 : a.block = k := by simpa using e
      omega

end Go.Proofs.YtjhnagipagkhiaaGreat
